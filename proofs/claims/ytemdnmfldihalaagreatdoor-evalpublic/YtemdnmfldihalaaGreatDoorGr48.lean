/- Laid together: LmChk2, LmChkAll. -/
import Derived.Test.YtemdnmfldihalaaGreatDoorLmChk
namespace Go.Proofs.YtemdnmfldihalaaGreatDoor.Lr
set_option maxHeartbeats 32000000
set_option maxRecDepth 100000
set_option linter.unusedVariables false
set_option linter.unusedSimpArgs false
open Go.ChangeShapes Go.WideShapes Go.ChangeAt Go.RowKit Go.Maps Go.WideMaps Lg
noncomputable def cIn2 : Code := inC (fstC (sndC (sndC cRd2)))
theorem wp_mapUpd {o : Oper} {a : Act} {w w' : World} {K : Act → World → Prop} {Q : Exit → Act → World → Prop} {t : TypeId} {m x v : Operand} {M X V : Value} (ho : o.op = .mapUpdate t m x v) (hm : a.eval m = M) (hx : a.eval x = X) (hv : a.eval v = V) (hrun : (Instr.mapUpdate t M X V).run Tryz.prog w = .ok () w') (h : K (a.put o.dst undef) w') : o.wp Tryz.prog a w K Q := by
 unfold Oper.wp
 simp [execOp,ho,hm,hx,hv,hrun,Result.andThen]
 exact h
theorem ck_test2 {w : World} {a : Act} {bF k bN : Nat} {p : Option Addr} {n c j : Nat} {b : Bool} (hF : GD a bF k bN p n c j) (hb : decide (j < n) = b) : (fstC cRd2).wp Tryz.prog (OnP fun a' w' => GD a' bF k bN p n c j ∧ slot a' 55 = .bool b ∧ w' = w) a w := by
 obtain ⟨gg,rfl⟩ := hF.opens
 clear hF
 conv => arg 2; whnf
 go_wp2
 exact ⟨rfl,⟨⟨rfl,rfl⟩,rfl,rfl,rfl,rfl,rfl,rfl⟩,rfl,rfl⟩
theorem ck_next2 {w : World} {a : Act} {bF k bN : Nat} {p : Option Addr} {n c j : Nat} (hF : GD a bF k bN p n c j) (hj : j ≤ 1000) : (sndC (sndC (sndC cRd2))).wp Tryz.prog (OnP fun a' w' => GD a' bF k bN p n c (j + 1) ∧ w' = w) a w := by
 obtain ⟨gg,rfl⟩ := hF.opens
 have hwr : IntKind.i64.wrap ((j : Int) + 1) = (j : Int) + 1 := wrap_one j (by omega)
 clear hF
 conv => arg 2; whnf
 go_wp2
 exact ⟨rfl,⟨⟨rfl,rfl⟩,rfl,rfl,rfl,rfl,rfl,rfl⟩,rfl⟩
theorem ck_15 {w : World} {a : Act} {bF k bN g o n c j : Nat} {v : Vr} (hF : GD a bF k bN (some ⟨g,o,none⟩) n c j) (hjn : j < n) (hn : n ≤ 1000) (hat : VrAt w g (o + j * 3) v) : (fstC cIn2).wp Tryz.prog (OnP fun a' w' => GE a' bF k bN (some ⟨g,o,none⟩) n c j w.heap.size ∧ w' = w.alloc (.cells #[.string ⟨v.name.toArray⟩,.bool v.secret,.int .i64 v.size] 46)) a w := by
 obtain ⟨gg,rfl⟩ := hF.opens
 have a0 := hat.c0
 have a1 := hat.c1
 have a2 := hat.c2
 have hjz : (j : Int) < (n : Int) := by omega
 have hj0 : (0 : Int) ≤ (j : Int) := by omega
 clear hat
 clear hF
 conv => arg 2; whnf
 go_wp2
 exact ⟨rfl,⟨⟨rfl,rfl⟩,rfl,rfl,rfl,rfl,rfl,rfl,rfl⟩,rfl⟩
theorem ck_16 {w : World} {a : Act} {bF k bN : Nat} {p : Option Addr} {n c j bT : Nat} {tx : List UInt8} {vs vl had : Bool} (hF : GE a bF k bN p n c j bT) (hT : w.cell? ⟨bT,0,none⟩ = some (.string ⟨tx.toArray⟩)) (hl : (Instr.lookup 62 (.map (some bN)) (.string ⟨tx.toArray⟩) true).run Tryz.prog w = .ok (.tuple #[.agg #[.bool vs,.bool vl],.bool had]) w) : (fstC (sndC cIn2)).wp Tryz.prog (OnP fun a' w' => GH a' bF k bN p n c j bT had ∧ w' = w.alloc (.cells #[.bool vs,.bool vl] 64)) a w := by
 obtain ⟨gg,rfl⟩ := hF.opens
 clear hF
 conv => arg 2; whnf
 go_wp2
 exact ⟨rfl,⟨⟨rfl,rfl⟩,rfl,rfl,rfl,rfl,rfl,rfl,rfl,rfl⟩,rfl⟩
theorem ck_17 {w : World} {a : Act} {bF k bN : Nat} {p : Option Addr} {n c j bT bA : Nat} {tx yn : List UInt8} {had ys arr : Bool} {yz : Int} (hF : GH a bF k bN p n c j bT had) (HSS : Hid (∀ W' : World,Below w.heap.size w W' → (W'.cell? ⟨k,0,none⟩ = some (.map (some bA)) ∧ W'.cell? ⟨bT,0,none⟩ = some (.string ⟨tx.toArray⟩) ∧ (Instr.lookup 59 (.map (some bA)) (.string ⟨tx.toArray⟩) true).run Tryz.prog W' = .ok (.tuple #[.agg #[.string ⟨yn.toArray⟩,.bool ys,.int .i64 yz],.bool arr]) W'))) : (fstC (sndC (sndC cIn2))).wp Tryz.prog (OnP fun a' w' => GI a' bF k bN p n c j bT had arr ∧ Below w.heap.size w w') a w := by
 obtain ⟨gg,rfl⟩ := hF.opens
 clear hF
 conv => arg 2; whnf
 skip
 refine wp_region_noPanic ?_
 refine Ord.wpM_begin (fun W' : World => W'.cell? ⟨k,0,none⟩ = some (.map (some bA)) ∧ W'.cell? ⟨bT,0,none⟩ = some (.string ⟨tx.toArray⟩) ∧ (Instr.lookup 59 (.map (some bA)) (.string ⟨tx.toArray⟩) true).run Tryz.prog W' = .ok (.tuple #[.agg #[.string ⟨yn.toArray⟩,.bool ys,.int .i64 yz],.bool arr]) W') [0,1,2,3,4,5,6,7,8,9,10,11,12] (by kernel_rfl) ?_
 have HB4 : Hid (Below w.heap.size w w.drew) := Below.drew (Below.refl _ _)
 generalize w.drew = w4 at *
 have hS := HSS.out w4 HB4.out
 refine Ord.tk (i:=0) (v:=.pointer (some ⟨k,0,none⟩)) (hy:=Or.inl ⟨by rfl,by rintro W' ⟨q0,q1,q2⟩; go_simp⟩) (hS:=hS) (h:=?_)
 try simp only [Act.put,Ord.t,Ord.z,Ord.s]
 refine Ord.tk (i:=1) (v:=.pointer (some ⟨k,0,none⟩)) (hy:=Or.inl ⟨by rfl,by rintro W' ⟨q0,q1,q2⟩; go_simp⟩) (hS:=hS) (h:=?_)
 try simp only [Act.put,Ord.t,Ord.z,Ord.s]
 refine Ord.tk (i:=2) (v:=.pointer (some ⟨k,0,none⟩)) (hy:=Or.inl ⟨by rfl,by rintro W' ⟨q0,q1,q2⟩; go_simp⟩) (hS:=hS) (h:=?_)
 try simp only [Act.put,Ord.t,Ord.z,Ord.s]
 refine Ord.tk (i:=3) (v:=.map (some bA)) (hy:=Or.inl ⟨by rfl,by rintro W' ⟨q0,q1,q2⟩; go_simp⟩) (hS:=hS) (h:=?_)
 try simp only [Act.put,Ord.t,Ord.z,Ord.s]
 refine Ord.tk (i:=4) (v:=.pointer (some ⟨bT,0,none⟩)) (hy:=Or.inl ⟨by rfl,by rintro W' ⟨q0,q1,q2⟩; go_simp⟩) (hS:=hS) (h:=?_)
 try simp only [Act.put,Ord.t,Ord.z,Ord.s]
 refine Ord.tk (i:=5) (v:=.string ⟨tx.toArray⟩) (hy:=Or.inl ⟨by rfl,by rintro W' ⟨q0,q1,q2⟩; go_simp⟩) (hS:=hS) (h:=?_)
 try simp only [Act.put,Ord.t,Ord.z,Ord.s]
 refine Ord.tk (i:=6) (v:=.tuple #[.agg #[.string ⟨yn.toArray⟩,.bool ys,.int .i64 yz],.bool arr]) (hy:=Or.inl ⟨by rfl,by rintro W' ⟨q0,q1,q2⟩; go_simp⟩) (hS:=hS) (h:=?_)
 try simp only [Act.put,Ord.t,Ord.z,Ord.s]
 refine Ord.tk (i:=7) (v:=.tuple #[.agg #[.string ⟨yn.toArray⟩,.bool ys,.int .i64 yz],.bool arr]) (hy:=Or.inl ⟨by rfl,by rintro W' ⟨q0,q1,q2⟩; go_simp⟩) (hS:=hS) (h:=?_)
 try simp only [Act.put,Ord.t,Ord.z,Ord.s]
 refine Ord.tk (i:=8) (v:=.agg #[.string ⟨yn.toArray⟩,.bool ys,.int .i64 yz]) (hy:=Or.inl ⟨by rfl,by rintro W' ⟨q0,q1,q2⟩; go_simp⟩) (hS:=hS) (h:=?_)
 try simp only [Act.put,Ord.t,Ord.z,Ord.s]
 refine Ord.tk (i:=9) (v:=.bool arr) (hy:=Or.inl ⟨by rfl,by rintro W' ⟨q0,q1,q2⟩; go_simp⟩) (hS:=hS) (h:=?_)
 try simp only [Act.put,Ord.t,Ord.z,Ord.s]
 refine Ord.on (i:=10) (h:=fun K hK => ?_)
 go_simp
 obtain ⟨w5,hw5⟩ : ∃ x,w4.alloc (.cells #[.string ⟨#[]⟩,.bool false,.int .i64 0] 46) = x := ⟨_,rfl⟩
 have hb5 : Below w4.heap.size w4 w5 := by rw [← hw5]; exact (Below.refl _ _).alloc (Nat.le_refl _) _
 have HG5 : Hid (Bk w5 w4.heap.size [.string ⟨#[]⟩,.bool false,.int .i64 0] 46) := by
  show Bk _ _ _ _
  rw [← hw5]; exact Bk.new _ _ _
 rw [hw5]
 have HB5 := keep (HB4.out.trans (hb5.mono HB4.out.size))
 clear hb5 hw5 hS
 refine hK.out _ _ (fun _ => HSS.out _ HB5.out) ?_
 clear hK K
 try simp only [Act.put,Ord.t,Ord.z,Ord.s]
 refine Ord.on (i:=11) (h:=fun K hK => ?_)
 rw [if_pos (by simp [Region.wanted])]
 refine wp_store_row 46 (.tmp 13) (.tmp 73) rfl w4.heap.size #[.string ⟨yn.toArray⟩,.bool ys,.int .i64 yz] rfl rfl 46 #[.string ⟨#[]⟩,.bool false,.int .i64 0] HG5.out (info_V [.string ⟨yn.toArray⟩,.bool ys,.int .i64 yz] rfl) rfl (by simp [Value.oneCell']) ?_
 obtain ⟨w6,hw6⟩ : ∃ x,w5.setRow w4.heap.size #[.string ⟨yn.toArray⟩,.bool ys,.int .i64 yz] = x := ⟨_,rfl⟩
 have HB6 : Hid (Below w.heap.size w w6) := by
  show Below _ _ _
  rw [← hw6]; exact below_setRow HB5.out HB4.out.size _
 rw [hw6]
 clear hw6
 refine hK.out _ _ (fun _ => HSS.out _ HB6.out) ?_
 clear hK K
 try simp only [Act.put,Ord.t,Ord.z,Ord.s]
 refine Ord.on (i:=12) (h:=fun K hK => ?_)
 go_simp
 refine hK.out _ _ (fun _ => HSS.out _ HB6.out) ?_
 clear hK K
 try simp only [Act.put,Ord.t,Ord.z,Ord.s]
 refine Ord.wpM_done (by kernel_rfl) ?_ _
 refine NoPanic.normal ?_
 exact ⟨rfl,⟨⟨rfl,rfl⟩,rfl,rfl,rfl,rfl,rfl,rfl,rfl,rfl,rfl⟩,HB6.out⟩
theorem ck_18 {w : World} {a : Act} {bF k bN : Nat} {p : Option Addr} {n c j bT : Nat} {had arr : Bool} (hF : GI a bF k bN p n c j bT had arr) : (fstC (sndC (sndC (sndC cIn2)))).wp Tryz.prog (CkP (fun a' w' => GE a' bF k bN p n c j bT ∧ w' = w ∧ (had || arr) = false) (fun x w' => x = 7 ∧ w' = w ∧ (had || arr) = true)) a w := by
 obtain ⟨gg,rfl⟩ := hF.opens
 clear hF
 conv => arg 2; whnf
 skip
 cases had with
 | true =>
  go_wp2
  exact .inr ⟨rfl,7,⟨⟨rfl,rfl⟩,rfl⟩,rfl,rfl,rfl⟩
 | false =>
  cases arr with
  | true =>
   go_wp2
   exact .inr ⟨rfl,7,⟨⟨rfl,rfl⟩,rfl⟩,rfl,rfl,rfl⟩
  | false =>
   go_wp2
   exact .inl ⟨rfl,⟨⟨rfl,rfl⟩,rfl,rfl,rfl,rfl,rfl,rfl,rfl⟩,rfl,rfl⟩
theorem ck_20 {w : World} {a : Act} {bF k bN : Nat} {p : Option Addr} {n c j bT bA nA : Nat} {rs : List Vr} {tx : List UInt8} {ts : Bool} {tz : Int} (hF : GE a bF k bN p n c j bT) (HSS : Hid (∀ W' : World,Below w.heap.size w W' → (W'.cell? ⟨k,0,none⟩ = some (.map (some bA)) ∧ W'.cell? ⟨bT,0,none⟩ = some (.string ⟨tx.toArray⟩) ∧ W'.cell? ⟨bT,1,none⟩ = some (.bool ts) ∧ W'.cell? ⟨bT,2,none⟩ = some (.int .i64 tz)))) (HPut : Hid (∀ W' : World,Below w.heap.size w W' → ∃ W2,(Instr.mapUpdate 59 (.map (some bA)) (.string ⟨tx.toArray⟩) (valA ⟨tx,ts,tz⟩)).run Tryz.prog W' = .ok () W2 ∧ MapA W2 bA (nA + 1) (rs ++ [⟨tx,ts,tz⟩]) ∧ W'.grownBy W2 (some bA))) (HS5 : Hid (∀ W2 : World,(∃ W' : World,Below w.heap.size w W' ∧ W'.grownBy W2 (some bA)) → (W2.cell? ⟨k,0,none⟩ = some (.map (some bA)) ∧ W2.cell? ⟨bT,0,none⟩ = some (.string ⟨tx.toArray⟩) ∧ W2.cell? ⟨bT,1,none⟩ = some (.bool ts) ∧ W2.cell? ⟨bT,2,none⟩ = some (.int .i64 tz)))) : (sndC (sndC (sndC (sndC cIn2)))).wp Tryz.prog (OnP fun a' w' => GD a' bF k bN p n c j ∧ MapA w' bA (nA + 1) (rs ++ [⟨tx,ts,tz⟩]) ∧ ∃ w4 : World,Below w.heap.size w w4 ∧ w4.grownBy w' (some bA)) a w := by
 obtain ⟨gg,rfl⟩ := hF.opens
 clear hF
 conv => arg 2; whnf
 skip
 refine wp_region_noPanic ?_
 refine Ord.wpM_begin (fun W' : World => W'.cell? ⟨k,0,none⟩ = some (.map (some bA)) ∧ W'.cell? ⟨bT,0,none⟩ = some (.string ⟨tx.toArray⟩) ∧ W'.cell? ⟨bT,1,none⟩ = some (.bool ts) ∧ W'.cell? ⟨bT,2,none⟩ = some (.int .i64 tz)) [0,1,2,3,4,5,6,7] (by kernel_rfl) ?_
 have HB4 : Hid (Below w.heap.size w w.drew) := Below.drew (Below.refl _ _)
 generalize w.drew = w4 at *
 have hS := HSS.out w4 HB4.out
 obtain ⟨w5,hrun,hA5,hg5⟩ := HPut.out w4 HB4.out
 unfold valA at hrun
 dsimp only at hrun
 refine Ord.tk (i:=0) (v:=.pointer (some ⟨k,0,none⟩)) (hy:=Or.inl ⟨by rfl,by rintro W' ⟨q0,q1,q2,q3⟩; go_simp⟩) (hS:=hS) (h:=?_)
 try simp only [Act.put,Ord.t,Ord.z,Ord.s]
 refine Ord.tk (i:=1) (v:=.pointer (some ⟨k,0,none⟩)) (hy:=Or.inl ⟨by rfl,by rintro W' ⟨q0,q1,q2,q3⟩; go_simp⟩) (hS:=hS) (h:=?_)
 try simp only [Act.put,Ord.t,Ord.z,Ord.s]
 refine Ord.tk (i:=2) (v:=.pointer (some ⟨k,0,none⟩)) (hy:=Or.inl ⟨by rfl,by rintro W' ⟨q0,q1,q2,q3⟩; go_simp⟩) (hS:=hS) (h:=?_)
 try simp only [Act.put,Ord.t,Ord.z,Ord.s]
 refine Ord.tk (i:=3) (v:=.map (some bA)) (hy:=Or.inl ⟨by rfl,by rintro W' ⟨q0,q1,q2,q3⟩; go_simp⟩) (hS:=hS) (h:=?_)
 try simp only [Act.put,Ord.t,Ord.z,Ord.s]
 refine Ord.tk (i:=4) (v:=.pointer (some ⟨bT,0,none⟩)) (hy:=Or.inl ⟨by rfl,by rintro W' ⟨q0,q1,q2,q3⟩; go_simp⟩) (hS:=hS) (h:=?_)
 try simp only [Act.put,Ord.t,Ord.z,Ord.s]
 refine Ord.tk (i:=5) (v:=.string ⟨tx.toArray⟩) (hy:=Or.inl ⟨by rfl,by rintro W' ⟨q0,q1,q2,q3⟩; go_simp⟩) (hS:=hS) (h:=?_)
 try simp only [Act.put,Ord.t,Ord.z,Ord.s]
 refine Ord.tk (i:=6) (v:=.agg #[.string ⟨tx.toArray⟩,.bool ts,.int .i64 tz]) (hy:=Or.inl ⟨by rfl,by rintro W' ⟨q0,q1,q2,q3⟩; go_simp⟩) (hS:=hS) (h:=?_)
 try simp only [Act.put,Ord.t,Ord.z,Ord.s]
 refine Ord.on (i:=7) (h:=fun K hK => ?_)
 rw [if_pos (by simp [Region.wanted])]
 refine wp_mapUpd rfl rfl rfl rfl hrun ?_
 refine hK.out _ _ (fun h => HS5.out w5 ⟨w4,HB4.out,hg5⟩) ?_
 clear hK K
 try simp only [Act.put,Ord.t,Ord.z,Ord.s]
 refine Ord.wpM_done (by kernel_rfl) ?_ _
 refine NoPanic.normal ?_
 exact ⟨rfl,⟨⟨rfl,rfl⟩,rfl,rfl,rfl,rfl,rfl,rfl⟩,hA5,w4,HB4.out,hg5⟩
def P2P (w : World) (bF k bN lo bA nA : Nat) (p : Option Addr) (n c j : Nat) (ns : List Nm) (rs : List Vr) (v : Vr) (e : Exit) (a : Act) (w' : World) : Prop :=
 (e = .normal ∧ GD a bF k bN p n c (j + 1) ∧ ((byN ns v.name).isSome || (byV rs v.name).isSome) = false ∧ MapA w' bA (nA + 1) (rs ++ [v]) ∧ Fh lo [bA] w w') ∨ (e = .ret ∧ GR a 7 ∧ ((byN ns v.name).isSome || (byV rs v.name).isSome) = true ∧ Fh lo [bA] w w')
theorem below_fh {lo : Nat} {l : List Nat} {w w' : World} (h : Below lo w w') : Fh lo l w w' := ⟨h.os,h.tape,h.output,h.size,fun i hi _ => h.block i hi⟩
theorem ck_arr {w : World} {a : Act} {bF k bN lo bA nA g o n c j nN : Nat} {ns : List Nm} {rs : List Vr} {v : Vr} (hF : GD a bF k bN (some ⟨g,o,none⟩) n c j) (hjn : j < n) (hn : n ≤ 3) (hlo : lo ≤ w.heap.size) (hk : k < lo) (hat : VrAt w g (o + j * 3) v) (hN : MapN w bN nN ns) (hK : KK w k bA nA rs 0 0) (hnA : nA ≤ 1000) (hx : v.name.length ≤ maxLen) :
  cRd2.wp Tryz.prog (P2P w bF k bN lo bA nA (some ⟨g,o,none⟩) n c j ns rs v) a w := by
 show (Code.seq (fstC cRd2) (Code.seq (Code.cond (.tmp 55) Code.skip (Code.exit 2)) (Code.seq (Code.block 3 (Code.seq (fstC cIn2) (Code.seq (fstC (sndC cIn2)) (Code.seq (fstC (sndC (sndC cIn2))) (Code.seq (fstC (sndC (sndC (sndC cIn2)))) (sndC (sndC (sndC (sndC cIn2))))))))) (sndC (sndC (sndC cRd2)))))).wp Tryz.prog _ a w
 obtain ⟨tx,ts,tz⟩ := v
 refine OnP.go (ck_test2 hF (b:=true) (decide_eq_true (by omega))) ?_
 rintro a1 w1 ⟨hF1,hs1,rfl⟩
 refine wp_seq (wp_cond_true (by rw [eval_slot]; exact hs1) (wp_skip ?_))
 refine wp_seq (wp_block ?_)
 refine OnP.go (ck_15 hF1 hjn (by omega) hat) ?_
 rintro a2 w2' ⟨hF2,rfl⟩
 dsimp only
 obtain ⟨w2,hw2⟩ : ∃ x,w1.alloc (.cells #[.string ⟨tx.toArray⟩,.bool ts,.int .i64 tz] 46) = x := ⟨_,rfl⟩
 have hb2 : Below w1.heap.size w1 w2 := by rw [← hw2]; exact (Below.refl _ _).alloc (Nat.le_refl _) _
 have hT2 : Bk w2 w1.heap.size [.string ⟨tx.toArray⟩,.bool ts,.int .i64 tz] 46 := by rw [← hw2]; exact Bk.new _ _ _
 rw [hw2]
 clear hw2
 refine OnP.go (ck_16 (vs:=(nmO (byN ns tx)).secret) (vl:=(nmO (byN ns tx)).loop) hF2 (hT2.cell 0 rfl) ((hN.below hb2).look tx hx)) ?_
 rintro a3 w3' ⟨hF3,rfl⟩
 obtain ⟨w3,hw3⟩ : ∃ x,w2.alloc (.cells #[.bool (nmO (byN ns tx)).secret,.bool (nmO (byN ns tx)).loop] 64) = x := ⟨_,rfl⟩
 have hb3 : Below w2.heap.size w2 w3 := by rw [← hw3]; exact (Below.refl _ _).alloc (Nat.le_refl _) _
 rw [hw3]
 clear hw3
 have hb13 : Below w1.heap.size w1 w3 := hb2.trans (hb3.mono hb2.size)
 have hK3 := hK.below hb13
 have hT3 := hT2.fs (Fs.of_below (l:=[]) hb3) (by simp)
 refine OnP.go (ck_17 (bA:=bA) (tx:=tx) (yn:=(vrO (byV rs tx)).name) (ys:=(vrO (byV rs tx)).secret) (yz:=(vrO (byV rs tx)).size) (arr:=(byV rs tx).isSome) hF3 (fun W' hW => ⟨cell_old hW (hK3.box.cell 0 rfl) hK3.box.lt,cell_old hW (hT3.cell 0 rfl) hT3.lt,(hK3.below hW).arr.look tx hx⟩)) ?_
 rintro a4 w4 ⟨hF4,hb4⟩
 have hb14 : Below w1.heap.size w1 w4 := hb13.trans (hb4.mono hb13.size)
 have hK4 := hK.below hb14
 have hT4 := hT3.fs (Fs.of_below (l:=[]) hb4) (by simp)
 refine wp_seq (wp_mono (ck_18 hF4) ?_)
 rintro e a5 w5 (⟨rfl,hF5,rfl,hno⟩ | ⟨rfl,x,hx1,rfl,rfl,hyes⟩)
 rotate_left
 ·exact .inr ⟨rfl,hx1,hyes,below_fh (hb14.mono hlo)⟩
 have hlt := hK4.lt
 have hTA : w1.heap.size ≠ bA := by have := hK.box.lt; omega
 refine wp_mono (ck_20 (bA:=bA) (nA:=nA) (rs:=rs) (tx:=tx) (ts:=ts) (tz:=tz) hF5 (fun W' hW => ⟨cell_old hW (hK4.box.cell 0 rfl) hK4.box.lt,cell_old hW (hT4.cell 0 rfl) hT4.lt,cell_old hW (hT4.cell 1 rfl) hT4.lt,cell_old hW (hT4.cell 2 rfl) hT4.lt⟩) (fun W' hW => (hK4.below hW).arr.put ⟨tx,ts,tz⟩ hx (by unfold maxLen; omega) (none_of (Bool.or_eq_false_iff.1 hno).2)) ?_) ?_
 ·rintro W2 ⟨W',hW,hg⟩
  have hcell : ∀ g o u,w5.cell? ⟨g,o,none⟩ = some u → g < w5.heap.size → g ≠ bA → W2.cell? ⟨g,o,none⟩ = some u := fun g o u h1 h2 h3 => by
   rw [World.cell?_of_block (hg.block g (by have := hW.size; omega) (fun e => h3 (Option.some.inj e)))]
   exact cell_old hW h1 h2
  exact ⟨hcell _ _ _ (hK4.box.cell 0 rfl) hK4.box.lt (by omega),hcell _ _ _ (hT4.cell 0 rfl) hT4.lt hTA,hcell _ _ _ (hT4.cell 1 rfl) hT4.lt hTA,hcell _ _ _ (hT4.cell 2 rfl) hT4.lt hTA⟩
 rintro e a6 w6 ⟨rfl,hF6,hA6,w7,hb7,hg7⟩
 refine wp_mono (ck_next2 hF6 (by omega)) ?_
 rintro e a8 w8 ⟨rfl,hF8,rfl⟩
 refine .inl ⟨rfl,hF8,hno,hA6,?_⟩
 have hb17 : Below w1.heap.size w1 w7 := hb14.trans (hb7.mono hb14.size)
 exact (below_fh (hb17.mono hlo)).trans ⟨hg7.os,hg7.tape,hg7.output,hg7.size,fun i hi hn => hg7.block i (by have := hb17.size; omega) (fun e => hn (by have := Option.some.inj e; simp; omega))⟩
theorem ck_arrs {w : World} {a : Act} {bF k bN bA : Nat} {p : Option Addr} {n c B nN : Nat} {ps rs : List Vr} (hF : GD a bF k bN p n c 0) (hl : rs.length = n) (hn : n ≤ 3) (hB : B ≤ bA) (hkN : k < bN) (hN : MapN w bN nN (ps.map nmOf)) (hK : KK w k bA 0 [] 0 0) (hwf : ∀ v ∈ rs,wfA v) (ht0 : twiceK (ps ++ rs) = twiceA (ps ++ rs.take 0) (rs.drop 0)) (hat : ∀ j v,rs[j]? = some v → ∃ g o,p = some ⟨g,o,none⟩ ∧ g < B ∧ VrAt w g (o + j * 3) v) :
  (Code.block 2 (Code.loop cRd2)).wp Tryz.prog (CkP (fun a' w' => GD a' bF k bN p n c n ∧ KK w' k bA n rs 0 0 ∧ Fh (bN + 1) [bA] w w' ∧ twiceK (ps ++ rs) = false) (fun x w' => x = 7 ∧ twiceK (ps ++ rs) = true ∧ Fh (bN + 1) [bA] w w')) a w := by
 have hNl := hN.lt
 have hlt := hK.lt
 refine wp_block (wp_loop (fun a' w' => ∃ j,j ≤ n ∧ GD a' bF k bN p n c j ∧ MapA w' bA j (rs.take j) ∧ Fh (bN + 1) [bA] w w' ∧ twiceK (ps ++ rs) = twiceA (ps ++ rs.take j) (rs.drop j)) (fun a' _ => n - (intOf (slot a' 54)).toNat) ⟨0,Nat.zero_le _,hF,hK.arr,Fh.refl _ _ _,ht0⟩ ?_)
 rintro a' w' ⟨j,hjn,hF',hA',hf,ht⟩
 have hbox : Bk w' k [.map (some bA),.int .i64 ((0 : Nat) : Int),.int .i64 ((0 : Nat) : Int)] 61 := by
  have h := hK.box
  unfold Bk at h ⊢
  rw [hf.block k (by omega) (by simp; omega)]; exact h
 have hN' : MapN w' bN nN (ps.map nmOf) := hN.stay (hf.block bN (by omega) (by simp; omega))
 by_cases hjl : j < n
 ·obtain ⟨v,hv⟩ : ∃ v,rs[j]? = some v := ⟨_,List.getElem?_eq_getElem (by rw [hl]; exact hjl)⟩
  obtain ⟨g,o,rfl,hg,hva⟩ := hat j v hv
  have hbB : Below B w w' := ⟨hf.os,hf.tape,hf.output,hf.size,fun i hi => hf.block i (by omega) (by simp; omega)⟩
  refine wp_mono (ck_arr (lo:=bN + 1) hF' hjl hn (by have := hf.size; omega) (by omega) (hva.below hbB hg) hN' ⟨hbox,hA',hlt⟩ (by omega) (name_short (hwf v (List.mem_of_getElem? hv)).1)) ?_
  rintro e a5 w5 (⟨rfl,hF5,hno,hA5,hf5⟩ | ⟨rfl,hF5,hyes,hf5⟩)
  ·refine ⟨⟨j + 1,hjl,hF5,?_,hf.trans hf5,?_⟩,?_⟩
   ·obtain ⟨hj,rfl⟩ := List.getElem?_eq_some_iff.1 hv
    rw [List.take_succ_eq_append_getElem hj]; exact hA5
   ·rw [ht,twice_arr hv,← byN_nm_some,hno]; rfl
   ·show n - (intOf (slot a5 54)).toNat < n - (intOf (slot a' 54)).toNat
    rw [hF5.s54,hF'.s54]
    simp [intOf]; omega
  ·exact .inr ⟨rfl,7,hF5,rfl,by rw [ht,twice_arr hv,← byN_nm_some,hyes]; rfl,hf.trans hf5⟩
 ·have hje : j = n := by omega
  subst hje
  show (Code.seq (fstC cRd2) (Code.seq (Code.cond (.tmp 55) Code.skip (Code.exit 2)) (sndC (sndC cRd2)))).wp Tryz.prog _ a' w'
  refine OnP.go (ck_test2 hF' (b:=false) (decide_eq_false (by omega))) ?_
  rintro a2 w2 ⟨hF2,hs2,rfl⟩
  refine wp_seq (wp_cond_false (by rw [eval_slot]; exact hs2) (wp_exit ?_))
  refine exit_then (exit_then (in_block_here ?_))
  rw [List.take_of_length_le (by omega)] at hA' ht
  refine .inl ⟨rfl,hF2,⟨hbox,hA',hlt⟩,hf,?_⟩
  rw [ht,List.drop_of_length_le (by omega)]; rfl
theorem ck_call {w : World} {a : Act} {bF k bN : Nat} {p : Option Addr} {n c : Nat} {p3 : Option Addr} {n3 c3 : Nat} {x : Int} {R : World → Prop} (hF : GD a bF k bN p n c n) (h2 : w.cell? ⟨bF,2,none⟩ = some (.slice p3 n3 c3)) (HC : Hid (Calls Tryz.prog 28 #[.pointer (some ⟨k,0,none⟩),.slice p3 n3 c3,.map (some bN),.bool false] w fun r w' => r = .returned (.int .i64 x) ∧ R w')) :
  (sndC cArr).wp Tryz.prog (fun e a' w' => Hid (e = .ret ∧ GR a' x ∧ R w')) a w := by
 obtain ⟨gg,rfl⟩ := hF.opens
 clear hF
 conv => arg 2; whnf
 go_wp2_with fail
 refine HC.out.mono ?_
 rintro r w5 ⟨rfl,hR⟩
 have HR := keep hR
 clear hR HC
 go_wp2
 exact ⟨⟨⟨rfl,rfl⟩,rfl⟩,HR.out⟩
theorem check_res {f : Lg.Fn} (h : ¬ (4 < f.params.length ∨ 3 < f.arrays.length)) (h2 : twiceK (f.params ++ f.arrays) = false) : checkK f = resK (blockK (stmtK f.arrays 9 false) f.body ⟨f.params.map nmOf,0,0⟩) := by
 unfold checkK resK
 rw [if_neg h,if_neg (by rw [h2]; decide)]
 cases blockK (stmtK f.arrays 9 false) f.body ⟨f.params.map nmOf,0,0⟩ <;> rfl
theorem ck_all (B : Nat) (f : Lg.Fn) (s1 s2 s3 : Value) (w : World) (hB : B ≤ w.heap.size) (hwf : wfF f) (h : FnIs w B 10 11 f (.agg #[s1,s2,s3])) (a : Act) (bF : Nat) (hF : GA a bF) (w1 : World) (hb1 : Below w.heap.size w w1) (hFb : Bk w1 bF [s1,s2,s3] 29) (hbF : w.heap.size ≤ bF) :
  (sndC cAll).wp Tryz.prog (fun e a' w' => e = .ret ∧ GR a' (checkK f) ∧ Below w.heap.size w w') a w1 := by
 show (Code.seq (fstC (sndC cAll)) (Code.seq (fstC cLay) (Code.seq (fstC (sndC cLay)) (Code.seq (Code.seq (fstC (fstC cPar)) (Code.block 0 (Code.loop cRd1))) (Code.seq (Code.seq (fstC (fstC cArr)) (Code.block 2 (Code.loop cRd2))) (sndC cArr)))))).wp Tryz.prog _ a w1
 obtain ⟨v1,v2,v3,hv,hp,ha,hb⟩ := h
 injection hv with hv
 have e1 : s1 = v1 := by injection hv with hv; injection hv
 have e2 : s2 = v2 := by injection hv with hv; injection hv with _ hv; injection hv
 have e3 : s3 = v3 := by injection hv with hv; injection hv with _ hv; injection hv with _ hv; injection hv
 subst e1 e2 e3
 obtain ⟨ps,rs,body⟩ := f
 dsimp only at hp ha hb
 obtain ⟨p1,n1,c1,rfl,hn1,hc1,hm1,hat1⟩ := hp
 obtain ⟨p2,n2,c2,rfl,hn2,hc2,hm2,hat2⟩ := ha
 obtain ⟨p3,n3,c3,rfl⟩ := hb.slice
 refine wp_seq (wp_mono (ck_test hF hFb) ?_)
 rintro e a1 w1' (⟨rfl,hF1,rfl,hmany⟩ | ⟨rfl,x,hx1,rfl,rfl,hmany⟩)
 rotate_left
 ·exact ⟨rfl,by rw [check_many (f:=⟨ps,rs,body⟩) (by rw [← hn1,← hn2] at hmany; exact hmany)]; exact hx1,hb1⟩
 have hmany' : ¬ (4 < ps.length ∨ 3 < rs.length) := by rw [hn1,hn2]; exact hmany
 refine OnP.go (ck_lay3 hF1) ?_
 rintro a2 w2' ⟨hW2,hs1,hs3,rfl⟩
 refine OnP.go (ck_lay4 hW2 hs1 hs3) ?_
 rintro a3 w3' ⟨hF3,rfl⟩
 obtain ⟨w2,hw2⟩ : ∃ w2,((w1'.alloc (.map #[] 0)).alloc (.cells #[.map (some w1'.heap.size),.int .i64 0,.int .i64 0] 61)).alloc (.map #[] 0) = w2 := ⟨_,rfl⟩
 have hb2 : Below w1'.heap.size w1' w2 := by rw [← hw2]; exact (((Below.refl _ _).alloc (Nat.le_refl _) _).alloc (by simp) _).alloc (by simp; omega) _
 have hsz2 : w2.heap.size = w1'.heap.size + 3 := by rw [← hw2]; simp
 have hK2 : KK w2 (w1'.heap.size + 1) w1'.heap.size 0 [] 0 0 := by
  rw [← hw2]
  refine ⟨?_,?_,by omega⟩
  ·have h := (Bk.new (w1'.alloc (.map #[] 0)) [.map (some w1'.heap.size),.int .i64 0,.int .i64 0] 61).up (.map #[] 0)
   rw [show (w1'.alloc (.map #[] 0)).heap.size = w1'.heap.size + 1 by simp] at h
   exact h
  ·have h := MapA.nil w1'
   exact (h.stay (w' := (w1'.alloc (.map #[] 0)).alloc (.cells #[.map (some w1'.heap.size),.int .i64 0,.int .i64 0] 61)) (((Below.refl _ _).alloc (Nat.le_refl _) _).block _ (by simp <;> omega))).stay (((Below.refl _ _).alloc (Nat.le_refl _) _).block _ (by simp <;> omega))
 have hN2 : MapN w2 (w1'.heap.size + 2) 0 [] := by
  have h := MapN.nil ((w1'.alloc (.map #[] 0)).alloc (.cells #[.map (some w1'.heap.size),.int .i64 0,.int .i64 0] 61))
  rw [show ((w1'.alloc (.map #[] 0)).alloc (.cells #[.map (some w1'.heap.size),.int .i64 0,.int .i64 0] 61)).heap.size = w1'.heap.size + 2 by simp,hw2] at h
  exact h
 rw [show ((w1'.alloc (.map #[] 0)).alloc (.cells #[.map (some w1'.heap.size),.int .i64 0,.int .i64 0] 61)).heap.size = w1'.heap.size + 2 by simp] at hF3
 rw [hw2]
 clear hw2
 have hFl := hFb.lt
 obtain ⟨bA,hbA⟩ : ∃ b,w1'.heap.size = b := ⟨_,rfl⟩
 have hb02 : Below w.heap.size w w2 := hb1.trans (hb2.mono hb1.size)
 have hF2 := hFb.fs (Fs.of_below (l:=[]) hb2) (by simp)
 have hwA : w.heap.size ≤ bA := by rw [← hbA]; exact hb1.size
 rw [hbA] at hK2 hN2 hF3 hsz2 hFl
 refine wp_seq (OnP.go (ck_five hF3 (hF2.cell 0 rfl)) ?_)
 rintro a4 w4 ⟨hF4,rfl⟩
 refine wp_mono (ck_pars (rs:=rs) hF4 hn1 (by omega) (show B ≤ bA + 2 by omega) hN2 hwf.1 (fun j v hv => by
  obtain ⟨g,o,h1,h2,h3⟩ := hat1 j v hv
  exact ⟨g,o,h1,h2,h3.below (hb02.mono hB) h2⟩)) ?_
 rintro e a5 w5 (⟨rfl,hF5,hN5,hb5,ht5⟩ | ⟨rfl,x,hx1,rfl,hyes,hb5⟩)
 rotate_left
 ·exact ⟨rfl,by rw [check_twice (f:=⟨ps,rs,body⟩) hmany' hyes]; exact hx1,hb02.trans (hb5.mono (by omega))⟩
 have hb05 : Below w.heap.size w w5 := hb02.trans (hb5.mono (by omega))
 have hF5b : Bk w5 bF [.slice p1 n1 c1,.slice p2 n2 c2,.slice p3 n3 c3] 29 := by
  have h := hF2
  unfold Bk at h ⊢
  rw [hb5.block bF (by omega)]; exact h
 have hK5 : KK w5 (bA + 1) bA 0 [] 0 0 := ⟨by
  have h := hK2.box
  unfold Bk at h ⊢
  rw [hb5.block _ (by omega)]; exact h,hK2.arr.stay (hb5.block _ (by omega)),hK2.lt⟩
 have hGB : GB a5 bF (bA + 1) (bA + 2) := ⟨hF5.wide,hF5.s1,hF5.s3,hF5.s4⟩
 refine wp_seq (OnP.go (ck_thirteen hGB (hF5b.cell 1 rfl)) ?_)
 rintro a6 w6 ⟨hF6,rfl⟩
 refine wp_mono (ck_arrs (ps:=ps) (rs:=rs) hF6 hn2 (by omega) (show B ≤ bA by omega) (by omega) hN5 hK5 hwf.2.1 ht5 (fun j v hv => by
  obtain ⟨g,o,h1,h2,h3⟩ := hat2 j v hv
  exact ⟨g,o,h1,h2,h3.below (hb05.mono hB) h2⟩)) ?_
 rintro e a7 w7 (⟨rfl,hF7,hK7,hf7,hno⟩ | ⟨rfl,x,hx1,rfl,hyes,hf7⟩)
 rotate_left
 ·exact ⟨rfl,by rw [check_twice (f:=⟨ps,rs,body⟩) hmany' hyes]; exact hx1,hb05.trans ⟨hf7.os,hf7.tape,hf7.output,hf7.size,fun i hi => hf7.block i (by omega) (by simp; omega)⟩⟩
 have hb57 : Below bA w6 w7 := ⟨hf7.os,hf7.tape,hf7.output,hf7.size,fun i hi => hf7.block i (by omega) (by simp; omega)⟩
 have hb07 : Below w.heap.size w w7 := hb05.trans (hb57.mono hwA)
 have hF7b : Bk w7 bF [.slice p1 n1 c1,.slice p2 n2 c2,.slice p3 n3 c3] 29 := by
  have h := hF5b
  unfold Bk at h ⊢
  rw [hb57.block bF (by omega)]; exact h
 have hN7 : MapN w7 (bA + 2) n1 (ps.map nmOf) := hN5.stay (hf7.block _ (by omega) (by simp))
 have hC := kblock_ok 9 10 B (bA + 1) bA n2 (bA + 2) n1 rs (ps.map nmOf) 0 0 false body (.slice p3 n3 c3) w7 (by omega) (by omega) hwf.2.2 hK7 hN7 (by omega) (by omega) ⟨by simp; omega,by omega,by omega⟩ (by omega) (hb.below (hb07.mono hB))
 refine wp_mono (ck_call (x:=checkK ⟨ps,rs,body⟩) (R:=fun w' => Below w.heap.size w w') hF7 (hF7b.cell 2 rfl) (hC.mono ?_)) ?_
 ·rintro r w8 ⟨rfl,hf8,_⟩
  refine ⟨by rw [check_res (f:=⟨ps,rs,body⟩) hmany' hno],hb07.trans (hf8.below hb07.size (by simp; omega))⟩
 ·intro e a8 w8 h8
  exact h8.out
theorem ck_zero {w : World} {a : Act} {p1 : Option Addr} {n1 c1 : Nat} {p2 : Option Addr} {n2 c2 : Nat} {p3 : Option Addr} {n3 c3 : Nat} (hW : W92 a) (h0 : slot a 0 = .agg #[.slice p1 n1 c1,.slice p2 n2 c2,.slice p3 n3 c3]) : (fstC cAll).wp Tryz.prog (OnP fun a' w' => GA a' w.heap.size ∧ w' = w.alloc (.cells #[.slice p1 n1 c1,.slice p2 n2 c2,.slice p3 n3 c3] 29)) a w := by
 have e := hW.opens
 rw [h0] at e
 rw [e]
 generalize slot a = gg
 clear hW h0 e
 conv => arg 2; whnf
 go_wp2
 exact ⟨rfl,⟨⟨rfl,rfl⟩,rfl⟩,rfl⟩
theorem kcheck_any (B : Nat) (f : Lg.Fn) (s1 s2 s3 : Value) (w : World) (hB : B ≤ w.heap.size) (hwf : wfF f) (h : FnIs w B 10 11 f (.agg #[s1,s2,s3])) :
  Calls Tryz.prog 7 #[.agg #[s1,s2,s3]] w fun r w' => r = .returned (.int .i64 (checkK f)) ∧ Below w.heap.size w w' := by
 have HA := keep (fun a hF w1 hb1 hFb => ck_all B f s1 s2 s3 w hB hwf h a w.heap.size hF w1 hb1 hFb (Nat.le_refl _))
 have hsl : (∃ p1 n1 c1,s1 = .slice p1 n1 c1) ∧ (∃ p2 n2 c2,s2 = .slice p2 n2 c2) ∧ ∃ p3 n3 c3,s3 = .slice p3 n3 c3 := by
  obtain ⟨v1,v2,v3,hv,⟨p1,n1,c1,h1,_⟩,⟨p2,n2,c2,h2,_⟩,hb⟩ := h
  obtain ⟨p3,n3,c3,h3⟩ := hb.slice
  cases hv
  exact ⟨⟨_,_,_,h1⟩,⟨_,_,_,h2⟩,⟨_,_,_,h3⟩⟩
 obtain ⟨⟨p1,n1,c1,rfl⟩,⟨p2,n2,c2,rfl⟩,⟨p3,n3,c3,rfl⟩⟩ := hsl
 clear h hwf hB
 go_enter Tryz.func7,Tryz.ntmps7
 show (Code.seq (fstC cAll) (sndC cAll)).wp Tryz.prog _ _ w
 refine OnP.go (ck_zero ⟨rfl,rfl⟩ rfl) ?_
 rintro a1 w1 ⟨hF1,rfl⟩
 refine wp_mono (HA.out a1 hF1 _ ((Below.refl _ _).alloc (Nat.le_refl _) _) (Bk.new _ _ _)) ?_
 rintro e a' w' ⟨rfl,hF,hb⟩
 obtain ⟨g,rfl⟩ := hF.opens
 clear hF HA hF1
 go_ret
 exact ⟨rfl,hb⟩
end Go.Proofs.YtemdnmfldihalaaGreatDoor.Lr
