/- The word that an instruction makes: flow's made. Written by tools/gen_flmade.py. -/
import Derived.Test.YtpnacanbknejiaaGr16
namespace Go.Proofs.Ytpnacanbknejiaa.Fl
set_option maxHeartbeats 32000000
set_option maxRecDepth 100000
set_option linter.unusedVariables false
set_option linter.unusedSimpArgs false
open Go.ChangeShapes Go.WideShapes Go.ChangeAt Go.RowKit Lg Lr
structure Bx (w : World) (X I PB AO n m : Nat) (op d a b c imm : Int) : Prop where
 p : w.cell? ⟨X,0,none⟩ = some (.slice (some ⟨PB,0,none⟩) n n)
 r : w.cell? ⟨X,1,none⟩ = some (.slice (some ⟨AO,0,none⟩) m m)
 c0 : w.cell? ⟨I,0,none⟩ = some (.int .i64 op)
 c1 : w.cell? ⟨I,1,none⟩ = some (.int .i64 d)
 c2 : w.cell? ⟨I,2,none⟩ = some (.int .i64 a)
 c3 : w.cell? ⟨I,3,none⟩ = some (.int .i64 b)
 c4 : w.cell? ⟨I,4,none⟩ = some (.int .i64 c)
 c5 : w.cell? ⟨I,5,none⟩ = some (.int .i64 imm)
theorem Bx.below {w w' : World} {X I PB AO n m : Nat} {op d a b c imm : Int} (h : Bx w X I PB AO n m op d a b c imm) (hb : Below w.heap.size w w') : Bx w' X I PB AO n m op d a b c imm :=
 ⟨keep_cell hb h.p,keep_cell hb h.r,keep_cell hb h.c0,keep_cell hb h.c1,keep_cell hb h.c2,keep_cell hb h.c3,keep_cell hb h.c4,keep_cell hb h.c5⟩
theorem rds_two {i : Ix} (h : 1 ≤ i.op ∧ i.op ≤ 12) : rds i = [i.a,i.b] := by unfold rds; rw [if_pos h]
theorem rds_sel {i : Ix} (h : i.op = 13) : rds i = [i.a,i.b,i.c] := by unfold rds; rw [if_neg (by omega),if_pos h]
theorem rds_sto {i : Ix} (h : i.op = 17) : rds i = [i.a,i.d] := by unfold rds; rw [if_neg (by omega),if_neg (by omega),if_pos h]
theorem rds_one {i : Ix} (h : i.op = 15 ∨ i.op = 16 ∨ i.op = 19 ∨ i.op = 20) : rds i = [i.a] := by unfold rds; rw [if_neg (by omega),if_neg (by omega),if_neg (by omega),if_pos h]
theorem sel_selP (a b c : Int) : Wd.sel a b c = selP a b c := by
 first | rfl | (unfold Wd.sel selP; rfl)
theorem made_any (PB AO : Nat) (P : List Int) (ps : List (Nat × List Int)) (i : Ix) (w : World) (h : Mc w PB AO P ps) (hL : P.length ≤ 17592186044416) (hm : mks i = true) (hr : ∀ p ∈ rds i,0 ≤ p ∧ p < P.length) (hb : i.op = 16 → 0 ≤ i.b ∧ i.b < ps.length) (hw : ∀ x ∈ P,isW x) :
  Calls Try.prog 68 #[.agg #[.slice (some ⟨PB,0,none⟩) P.length P.length,.slice (some ⟨AO,0,none⟩) ps.length ps.length],.agg (ixA i)] w fun r w' => r = .returned (.int .i64 (made i P (ars ps))) ∧ Below w.heap.size w w' := by
 obtain ⟨op,d,a,b,c,imm⟩ := i
 have HGW := keep (fun k => gI_word hw k)
 have HM := keep h
 obtain ⟨n,hn⟩ : ∃ n,P.length = n := ⟨_,rfl⟩
 obtain ⟨m,hmm⟩ : ∃ m,ps.length = m := ⟨_,rfl⟩
 have HPl : Hid (∀ (W : World) (k : Nat),Below w.heap.size w W → k < n → W.cell? ⟨PB,k,none⟩ = some (.int .i64 (gI P (k : Int)))) := fun W k hW hk => by
  have := h.place (k:=k) (by omega)
  rw [cell_below hW (lt_of_cell this)]; exact this
 have HSp := keep (fun W (hW : Below w.heap.size w W) ha hb hv gb row hg => spot_any PB AO P ps ⟨op,d,a,b,c,imm⟩ W (h.below hW) hL ha hb hv gb row hg)
 unfold ixA at HSp
 dsimp only at HSp hb hm
 rw [hn] at hL hr
 rw [hn] at HSp
 rw [hmm] at hb HSp
 rw [hn,hmm]
 obtain ⟨w1,hw1⟩ : ∃ y,w.alloc (.cells #[.slice (some ⟨PB,0,none⟩) n n,.slice (some ⟨AO,0,none⟩) m m] 91) = y := ⟨_,rfl⟩
 obtain ⟨w2,hw2⟩ : ∃ y,w1.alloc (.cells #[.int .i64 op,.int .i64 d,.int .i64 a,.int .i64 b,.int .i64 c,.int .i64 imm] 35) = y := ⟨_,rfl⟩
 obtain ⟨X,hX⟩ : ∃ y,w.heap.size = y := ⟨_,rfl⟩
 obtain ⟨I,hI⟩ : ∃ y,w1.heap.size = y := ⟨_,rfl⟩
 have b1 : Below w.heap.size w w1 := by rw [← hw1]; exact (Below.refl _ _).alloc (Nat.le_refl _) _
 have b2 : Below w1.heap.size w1 w2 := by rw [← hw2]; exact (Below.refl _ _).alloc (Nat.le_refl _) _
 have b12 := b1.trans (b2.mono b1.size)
 have kX1 : Bk w1 X [.slice (some ⟨PB,0,none⟩) n n,.slice (some ⟨AO,0,none⟩) m m] 91 := by rw [← hw1,← hX]; exact Bk.new _ _ _
 have kX := kX1.fs (Fs.of_below (l:=[]) b2) (by simp)
 have kI : Bk w2 I [.int .i64 op,.int .i64 d,.int .i64 a,.int .i64 b,.int .i64 c,.int .i64 imm] 35 := by rw [← hw2,← hI]; exact Bk.new _ _ _
 have HBx : Hid (Bx w2 X I PB AO n m op d a b c imm) := ⟨kX.cell 0 rfl,kX.cell 1 rfl,kI.cell 0 rfl,kI.cell 1 rfl,kI.cell 2 rfl,kI.cell 3 rfl,kI.cell 4 rfl,kI.cell 5 rfl⟩
 obtain ⟨x0,x1,y0,y1,y2,y3,y4,y5⟩ := id HBx.out
 have HW1 := keep hw1
 have HW2 := keep hw2
 have HX := keep hX
 have HI := keep hI
 have HB := keep b12
 have HRd := keep hr
 unfold ixA
 dsimp only
 have ho : 1 ≤ op ∧ op ≤ 16 := by
  unfold mks at hm
  simpa using hm
 have HBw : Hid (∀ W,Below w2.heap.size w2 W → Below w.heap.size w W) := fun W hW => b12.trans (hW.mono b12.size)
 clear hw1 hw2 hX hI b1 b2 b12 kX1 kX kI h hw hr hm
 by_cases h13 : op = 13
 ·subst h13
  obtain ⟨a0,a1⟩ := HRd.out a (by rw [rds_sel rfl]; simp)
  obtain ⟨e0,e1⟩ := HRd.out b (by rw [rds_sel rfl]; simp)
  obtain ⟨f0,f1⟩ := HRd.out c (by rw [rds_sel rfl]; simp)
  obtain ⟨ka,rfl⟩ : ∃ k : Nat,a = (k : Int) := ⟨a.toNat,by omega⟩
  obtain ⟨kb,rfl⟩ : ∃ k : Nat,b = (k : Int) := ⟨b.toNat,by omega⟩
  obtain ⟨kc,rfl⟩ : ∃ k : Nat,c = (k : Int) := ⟨c.toNat,by omega⟩
  have HE : Hid (made ⟨13,d,(ka : Int),(kb : Int),(kc : Int),imm⟩ P (ars ps) = Wd.sel (gI P (ka : Int)) (gI P (kb : Int)) (gI P (kc : Int))) := by show _ = _; unfold made; rw [if_pos rfl]; exact (sel_selP _ _ _).symm
  have HC := keep (fun W => Wd.sel_any (gI P (ka : Int)) (gI P (kb : Int)) (gI P (kc : Int)) W)
  have HPa : Hid (∀ W,Below w2.heap.size w2 W → W.cell? ⟨PB,ka,none⟩ = some (.int .i64 (gI P (ka : Int))) ∧ W.cell? ⟨PB,kb,none⟩ = some (.int .i64 (gI P (kb : Int))) ∧ W.cell? ⟨PB,kc,none⟩ = some (.int .i64 (gI P (kc : Int)))) := fun W hW => ⟨HPl.out W ka (HBw.out W hW) (by omega),HPl.out W kb (HBw.out W hW) (by omega),HPl.out W kc (HBw.out W hW) (by omega)⟩
  generalize gI P (ka : Int) = va at *
  generalize gI P (kb : Int) = vb at *
  generalize gI P (kc : Int) = vc at *
  have HSS : Hid (∀ W',Below w2.heap.size w2 W' → W'.cell? ⟨X,0,none⟩ = some (.slice (some ⟨PB,0,none⟩) n n) ∧ W'.cell? ⟨I,2,none⟩ = some (.int .i64 (ka : Int)) ∧ W'.cell? ⟨I,3,none⟩ = some (.int .i64 (kb : Int)) ∧ W'.cell? ⟨I,4,none⟩ = some (.int .i64 (kc : Int)) ∧ W'.cell? ⟨PB,ka,none⟩ = some (.int .i64 va) ∧ W'.cell? ⟨PB,kb,none⟩ = some (.int .i64 vb) ∧ W'.cell? ⟨PB,kc,none⟩ = some (.int .i64 vc)) := fun W' hW => ⟨(HBx.out.below hW).p,(HBx.out.below hW).c2,(HBx.out.below hW).c3,(HBx.out.below hW).c4,(HPa.out W' hW).1,(HPa.out W' hW).2.1,(HPa.out W' hW).2.2⟩
  clear HPa ho
  go_enter Try.func68,Try.ntmps68
  go_wp2_with (first | rw [HW1.out] | rw [HW2.out] | rw [HX.out] | rw [HI.out] | fail)
  refine wp_region_noPanic ?_
  refine Ord.wpM_begin (fun W' : World => W'.cell? ⟨X,0,none⟩ = some (.slice (some ⟨PB,0,none⟩) n n) ∧ W'.cell? ⟨I,2,none⟩ = some (.int .i64 (ka : Int)) ∧ W'.cell? ⟨I,3,none⟩ = some (.int .i64 (kb : Int)) ∧ W'.cell? ⟨I,4,none⟩ = some (.int .i64 (kc : Int)) ∧ W'.cell? ⟨PB,ka,none⟩ = some (.int .i64 va) ∧ W'.cell? ⟨PB,kb,none⟩ = some (.int .i64 vb) ∧ W'.cell? ⟨PB,kc,none⟩ = some (.int .i64 vc)) [0,1,2,3,4,5,6,7,8,9,10,11,12,13,14,15,16,17,18] (by kernel_rfl) ?_
  have HD : Hid (Below w2.heap.size w2 w2.drew) := Below.drew (Below.refl _ _)
  generalize w2.drew = wd at *
  have hS := HSS.out wd HD.out
  refine Ord.tk (i:=0) (v:=.pointer (some ⟨X,0,none⟩)) (hy:=Or.inl ⟨by rfl,by rintro W' ⟨q0,q1,q2,q3,q4,q5,q6⟩; go_simp⟩) (hS:=hS) (h:=?_)
  try simp only [Act.put,Ord.t,Ord.z,Ord.s]
  refine Ord.tk (i:=1) (v:=.slice (some ⟨PB,0,none⟩) n n) (hy:=Or.inl ⟨by rfl,by rintro W' ⟨q0,q1,q2,q3,q4,q5,q6⟩; go_simp⟩) (hS:=hS) (h:=?_)
  try simp only [Act.put,Ord.t,Ord.z,Ord.s]
  refine Ord.tk (i:=2) (v:=.pointer (some ⟨I,2,none⟩)) (hy:=Or.inl ⟨by rfl,by rintro W' ⟨q0,q1,q2,q3,q4,q5,q6⟩; go_simp⟩) (hS:=hS) (h:=?_)
  try simp only [Act.put,Ord.t,Ord.z,Ord.s]
  refine Ord.tk (i:=3) (v:=.int .i64 (ka : Int)) (hy:=Or.inl ⟨by rfl,by rintro W' ⟨q0,q1,q2,q3,q4,q5,q6⟩; go_simp⟩) (hS:=hS) (h:=?_)
  try simp only [Act.put,Ord.t,Ord.z,Ord.s]
  refine Ord.tk (i:=4) (v:=.pointer (some ⟨PB,ka,none⟩)) (hy:=Or.inl ⟨by rfl,by rintro W' ⟨q0,q1,q2,q3,q4,q5,q6⟩; go_simp⟩) (hS:=hS) (h:=?_)
  try simp only [Act.put,Ord.t,Ord.z,Ord.s]
  refine Ord.tk (i:=5) (v:=.int .i64 va) (hy:=Or.inl ⟨by rfl,by rintro W' ⟨q0,q1,q2,q3,q4,q5,q6⟩; go_simp⟩) (hS:=hS) (h:=?_)
  try simp only [Act.put,Ord.t,Ord.z,Ord.s]
  refine Ord.tk (i:=6) (v:=.pointer (some ⟨X,0,none⟩)) (hy:=Or.inl ⟨by rfl,by rintro W' ⟨q0,q1,q2,q3,q4,q5,q6⟩; go_simp⟩) (hS:=hS) (h:=?_)
  try simp only [Act.put,Ord.t,Ord.z,Ord.s]
  refine Ord.tk (i:=7) (v:=.slice (some ⟨PB,0,none⟩) n n) (hy:=Or.inl ⟨by rfl,by rintro W' ⟨q0,q1,q2,q3,q4,q5,q6⟩; go_simp⟩) (hS:=hS) (h:=?_)
  try simp only [Act.put,Ord.t,Ord.z,Ord.s]
  refine Ord.tk (i:=8) (v:=.pointer (some ⟨I,3,none⟩)) (hy:=Or.inl ⟨by rfl,by rintro W' ⟨q0,q1,q2,q3,q4,q5,q6⟩; go_simp⟩) (hS:=hS) (h:=?_)
  try simp only [Act.put,Ord.t,Ord.z,Ord.s]
  refine Ord.tk (i:=9) (v:=.int .i64 (kb : Int)) (hy:=Or.inl ⟨by rfl,by rintro W' ⟨q0,q1,q2,q3,q4,q5,q6⟩; go_simp⟩) (hS:=hS) (h:=?_)
  try simp only [Act.put,Ord.t,Ord.z,Ord.s]
  refine Ord.tk (i:=10) (v:=.pointer (some ⟨PB,kb,none⟩)) (hy:=Or.inl ⟨by rfl,by rintro W' ⟨q0,q1,q2,q3,q4,q5,q6⟩; go_simp⟩) (hS:=hS) (h:=?_)
  try simp only [Act.put,Ord.t,Ord.z,Ord.s]
  refine Ord.tk (i:=11) (v:=.int .i64 vb) (hy:=Or.inl ⟨by rfl,by rintro W' ⟨q0,q1,q2,q3,q4,q5,q6⟩; go_simp⟩) (hS:=hS) (h:=?_)
  try simp only [Act.put,Ord.t,Ord.z,Ord.s]
  refine Ord.tk (i:=12) (v:=.pointer (some ⟨X,0,none⟩)) (hy:=Or.inl ⟨by rfl,by rintro W' ⟨q0,q1,q2,q3,q4,q5,q6⟩; go_simp⟩) (hS:=hS) (h:=?_)
  try simp only [Act.put,Ord.t,Ord.z,Ord.s]
  refine Ord.tk (i:=13) (v:=.slice (some ⟨PB,0,none⟩) n n) (hy:=Or.inl ⟨by rfl,by rintro W' ⟨q0,q1,q2,q3,q4,q5,q6⟩; go_simp⟩) (hS:=hS) (h:=?_)
  try simp only [Act.put,Ord.t,Ord.z,Ord.s]
  refine Ord.tk (i:=14) (v:=.pointer (some ⟨I,4,none⟩)) (hy:=Or.inl ⟨by rfl,by rintro W' ⟨q0,q1,q2,q3,q4,q5,q6⟩; go_simp⟩) (hS:=hS) (h:=?_)
  try simp only [Act.put,Ord.t,Ord.z,Ord.s]
  refine Ord.tk (i:=15) (v:=.int .i64 (kc : Int)) (hy:=Or.inl ⟨by rfl,by rintro W' ⟨q0,q1,q2,q3,q4,q5,q6⟩; go_simp⟩) (hS:=hS) (h:=?_)
  try simp only [Act.put,Ord.t,Ord.z,Ord.s]
  refine Ord.tk (i:=16) (v:=.pointer (some ⟨PB,kc,none⟩)) (hy:=Or.inl ⟨by rfl,by rintro W' ⟨q0,q1,q2,q3,q4,q5,q6⟩; go_simp⟩) (hS:=hS) (h:=?_)
  try simp only [Act.put,Ord.t,Ord.z,Ord.s]
  refine Ord.tk (i:=17) (v:=.int .i64 vc) (hy:=Or.inl ⟨by rfl,by rintro W' ⟨q0,q1,q2,q3,q4,q5,q6⟩; go_simp⟩) (hS:=hS) (h:=?_)
  try simp only [Act.put,Ord.t,Ord.z,Ord.s]
  refine Ord.on (i:=18) (h:=fun K hK => ?_)
  go_simp
  refine (HC.out wd).mono ?_
  rintro r wd ⟨rfl,rfl⟩
  go_simp
  refine hK.out _ _ (fun _ => hS) ?_
  clear hK K
  try simp only [Act.put,Ord.t,Ord.z,Ord.s]
  refine Ord.on (i:=19) (h:=fun K hK => ?_)
  go_simp
  refine hK.out _ _ (fun h => absurd h (by decide)) ?_
  clear hK K
  try simp only [Act.put,Ord.t,Ord.z,Ord.s]
  refine Ord.wpM_done (by kernel_rfl) ?_ _
  refine NoPanic.normal ?_
  clear HC HSS
  go_wp2
  go_ret
  exact ⟨by rw [HE.out]; rfl,by first | exact HBw.out _ HD.out | (rw [← HX.out]; exact HBw.out _ HD.out)⟩
 ·have k13 : (op == 13) = false := by simpa using h13
  by_cases h14 : op = 14
  ·subst h14
   have HE : Hid (made ⟨14,d,a,b,c,imm⟩ P (ars ps) = imm) := rfl
   clear h13 ho
   go_enter Try.func68,Try.ntmps68
   go_wp2_with (first | rw [HW1.out] | rw [HW2.out] | rw [HX.out] | rw [HI.out] | fail)
   go_ret
   exact ⟨by rw [HE.out]; rfl,by first | exact HB.out | (rw [← HX.out]; exact HB.out)⟩
  ·have k14 : (op == 14) = false := by simpa using h14
   by_cases h15 : op = 15
   ·subst h15
    obtain ⟨a0,a1⟩ := HRd.out a (by rw [rds_one (.inl rfl)]; simp)
    obtain ⟨ka,rfl⟩ : ∃ k : Nat,a = (k : Int) := ⟨a.toNat,by omega⟩
    have HE : Hid (made ⟨15,d,(ka : Int),b,c,imm⟩ P (ars ps) = gI P (ka : Int)) := rfl
    have z0 := HPl.out w2 ka HB.out (by omega)
    generalize gI P (ka : Int) = va at *
    clear h13 h14 k13 k14 ho
    go_enter Try.func68,Try.ntmps68
    go_wp2_with (first | rw [HW1.out] | rw [HW2.out] | rw [HX.out] | rw [HI.out] | fail)
    go_ret
    exact ⟨by rw [HE.out]; rfl,by first | exact HB.out | (rw [← HX.out]; exact HB.out)⟩
   ·have k15 : (op == 15) = false := by simpa using h15
    by_cases h16 : op = 16
    ·subst h16
     obtain ⟨a0,a1⟩ := HRd.out a (by rw [rds_one (.inr (.inl rfl))]; simp)
     obtain ⟨e0,e1⟩ := hb rfl
     obtain ⟨ka,rfl⟩ : ∃ k : Nat,a = (k : Int) := ⟨a.toNat,by omega⟩
     obtain ⟨kb,rfl⟩ : ∃ k : Nat,b = (k : Int) := ⟨b.toNat,by omega⟩
     obtain ⟨gb,row,hg,hrow,_,kg⟩ := HM.out.arr (b:=kb) (by omega)
     have HC := keep (HSp.out w2 HB.out ⟨a0,a1⟩ ⟨e0,e1⟩ (HGW.out _).1 gb row (by rw [Int.toNat_natCast]; exact hg))
     have HE : Hid (made ⟨16,d,(ka : Int),(kb : Int),c,imm⟩ P (ars ps) = row.getD (gI P (ka : Int)).toNat 0) := by show (rowA (ars ps) (kb : Int)).getD _ _ = _; rw [hrow]
     have hv0 := (HGW.out (ka : Int)).1
     obtain ⟨v,hv⟩ : ∃ v,gI P (ka : Int) = v := ⟨_,rfl⟩
     rw [hv] at HC HE hv0
     clear hv
     obtain ⟨kv,rfl⟩ : ∃ k : Nat,v = (k : Int) := ⟨v.toNat,by omega⟩
     have kg2 := fun W (hW : Below w2.heap.size w2 W) => kg.fs (Fs.of_below (l:=[]) (HBw.out W hW)) (by simp)
     have HKg := keep kg2
     clear kg kg2
     unfold spotV at HC
     clear h13 h14 h15 k13 k14 k15 ho
     by_cases hlt : (kv : Int) < row.length
     ·rw [if_pos hlt,Int.toNat_natCast] at HC
      obtain ⟨u,hu⟩ : ∃ u,row[kv]? = some u := ⟨_,List.getElem?_eq_getElem (by omega)⟩
      have HE2 : Hid (row.getD ((kv : Int)).toNat 0 = u) := by show _ = _; rw [Int.toNat_natCast,List.getD_eq_getElem?_getD,hu]; rfl
      have HU : Hid (∀ W,Below w2.heap.size w2 W → W.cell? ⟨gb,kv,none⟩ = some (.int .i64 u)) := fun W hW => (HKg.out W hW).cell kv (by rw [List.getElem?_map,hu]; rfl)
      clear hu hlt hg hrow
      go_enter Try.func68,Try.ntmps68
      go_wp2_with (first | rw [HW1.out] | rw [HW2.out] | rw [HX.out] | rw [HI.out] | fail)
      refine HC.out.mono ?_
      rintro r w3 ⟨rfl,hb3⟩
      have hu3 := HU.out w3 hb3
      have HB3 := keep hb3
      clear hb3 HC x0 x1 y0 y1 y2 y3 y4 y5
      go_wp2
      go_ret
      exact ⟨by rw [HE.out,HE2.out]; rfl,by first | exact HBw.out _ HB3.out | (rw [← HX.out]; exact HBw.out _ HB3.out)⟩
     ·rw [if_neg hlt] at HC
      have HE2 : Hid (row.getD ((kv : Int)).toNat 0 = 0) := by show _ = _; rw [Int.toNat_natCast,List.getD_eq_getElem?_getD,List.getElem?_eq_none (by omega)]; rfl
      clear hlt hg hrow
      go_enter Try.func68,Try.ntmps68
      go_wp2_with (first | rw [HW1.out] | rw [HW2.out] | rw [HX.out] | rw [HI.out] | fail)
      refine HC.out.mono ?_
      rintro r w3 ⟨rfl,hb3⟩
      have HB3 := keep hb3
      clear hb3 HC x0 x1 y0 y1 y2 y3 y4 y5
      go_wp2
      go_ret
      exact ⟨by rw [HE.out,HE2.out]; rfl,by first | exact HBw.out _ HB3.out | (rw [← HX.out]; exact HBw.out _ HB3.out)⟩
    ·have k16 : (op == 16) = false := by simpa using h16
     have h12 : 1 ≤ op ∧ op ≤ 12 := by omega
     obtain ⟨a0,a1⟩ := HRd.out a (by rw [rds_two h12]; simp)
     obtain ⟨e0,e1⟩ := HRd.out b (by rw [rds_two h12]; simp)
     obtain ⟨ka,rfl⟩ : ∃ k : Nat,a = (k : Int) := ⟨a.toNat,by omega⟩
     obtain ⟨kb,rfl⟩ : ∃ k : Nat,b = (k : Int) := ⟨b.toNat,by omega⟩
     have HE : Hid (made ⟨op,d,(ka : Int),(kb : Int),c,imm⟩ P (ars ps) = Wd.two op (gI P (ka : Int)) (gI P (kb : Int))) := by show _ = _; unfold made; rw [if_neg h13,if_neg h14,if_neg h15,if_neg h16]
     have HC := keep (fun W => Wd.two_yes op (gI P (ka : Int)) (gI P (kb : Int)) h12.1 h12.2 W)
     have HPa : Hid (∀ W,Below w2.heap.size w2 W → W.cell? ⟨PB,ka,none⟩ = some (.int .i64 (gI P (ka : Int))) ∧ W.cell? ⟨PB,kb,none⟩ = some (.int .i64 (gI P (kb : Int)))) := fun W hW => ⟨HPl.out W ka (HBw.out W hW) (by omega),HPl.out W kb (HBw.out W hW) (by omega)⟩
     generalize gI P (ka : Int) = va at *
     generalize gI P (kb : Int) = vb at *
     obtain ⟨vt,hvt⟩ : ∃ y,Wd.two op va vb = y := ⟨_,rfl⟩
     rw [hvt] at HE HC
     clear hvt
     have HSS : Hid (∀ W',Below w2.heap.size w2 W' → W'.cell? ⟨X,0,none⟩ = some (.slice (some ⟨PB,0,none⟩) n n) ∧ W'.cell? ⟨I,0,none⟩ = some (.int .i64 op) ∧ W'.cell? ⟨I,2,none⟩ = some (.int .i64 (ka : Int)) ∧ W'.cell? ⟨I,3,none⟩ = some (.int .i64 (kb : Int)) ∧ W'.cell? ⟨PB,ka,none⟩ = some (.int .i64 va) ∧ W'.cell? ⟨PB,kb,none⟩ = some (.int .i64 vb)) := fun W' hW => ⟨(HBx.out.below hW).p,(HBx.out.below hW).c0,(HBx.out.below hW).c2,(HBx.out.below hW).c3,(HPa.out W' hW).1,(HPa.out W' hW).2⟩
     clear HPa h12 h13 h14 h15 h16 ho
     go_enter Try.func68,Try.ntmps68
     go_wp2_with (first | rw [HW1.out] | rw [HW2.out] | rw [HX.out] | rw [HI.out] | fail)
     refine wp_region_noPanic ?_
     refine Ord.wpM_begin (fun W' : World => W'.cell? ⟨X,0,none⟩ = some (.slice (some ⟨PB,0,none⟩) n n) ∧ W'.cell? ⟨I,0,none⟩ = some (.int .i64 op) ∧ W'.cell? ⟨I,2,none⟩ = some (.int .i64 (ka : Int)) ∧ W'.cell? ⟨I,3,none⟩ = some (.int .i64 (kb : Int)) ∧ W'.cell? ⟨PB,ka,none⟩ = some (.int .i64 va) ∧ W'.cell? ⟨PB,kb,none⟩ = some (.int .i64 vb)) [0,1,2,3,4,5,6,7,8,9,10,11,12,13,14,15,16,17,18,19] (by kernel_rfl) ?_
     have HD : Hid (Below w2.heap.size w2 w2.drew) := Below.drew (Below.refl _ _)
     generalize w2.drew = wd at *
     have hS := HSS.out wd HD.out
     refine Ord.tk (i:=0) (v:=.pointer (some ⟨I,0,none⟩)) (hy:=Or.inl ⟨by rfl,by rintro W' ⟨q0,q1,q2,q3,q4,q5⟩; go_simp⟩) (hS:=hS) (h:=?_)
     try simp only [Act.put,Ord.t,Ord.z,Ord.s]
     refine Ord.tk (i:=1) (v:=.int .i64 op) (hy:=Or.inl ⟨by rfl,by rintro W' ⟨q0,q1,q2,q3,q4,q5⟩; go_simp⟩) (hS:=hS) (h:=?_)
     try simp only [Act.put,Ord.t,Ord.z,Ord.s]
     refine Ord.tk (i:=2) (v:=.pointer (some ⟨X,0,none⟩)) (hy:=Or.inl ⟨by rfl,by rintro W' ⟨q0,q1,q2,q3,q4,q5⟩; go_simp⟩) (hS:=hS) (h:=?_)
     try simp only [Act.put,Ord.t,Ord.z,Ord.s]
     refine Ord.tk (i:=3) (v:=.slice (some ⟨PB,0,none⟩) n n) (hy:=Or.inl ⟨by rfl,by rintro W' ⟨q0,q1,q2,q3,q4,q5⟩; go_simp⟩) (hS:=hS) (h:=?_)
     try simp only [Act.put,Ord.t,Ord.z,Ord.s]
     refine Ord.tk (i:=4) (v:=.pointer (some ⟨I,2,none⟩)) (hy:=Or.inl ⟨by rfl,by rintro W' ⟨q0,q1,q2,q3,q4,q5⟩; go_simp⟩) (hS:=hS) (h:=?_)
     try simp only [Act.put,Ord.t,Ord.z,Ord.s]
     refine Ord.tk (i:=5) (v:=.int .i64 (ka : Int)) (hy:=Or.inl ⟨by rfl,by rintro W' ⟨q0,q1,q2,q3,q4,q5⟩; go_simp⟩) (hS:=hS) (h:=?_)
     try simp only [Act.put,Ord.t,Ord.z,Ord.s]
     refine Ord.tk (i:=6) (v:=.pointer (some ⟨PB,ka,none⟩)) (hy:=Or.inl ⟨by rfl,by rintro W' ⟨q0,q1,q2,q3,q4,q5⟩; go_simp⟩) (hS:=hS) (h:=?_)
     try simp only [Act.put,Ord.t,Ord.z,Ord.s]
     refine Ord.tk (i:=7) (v:=.int .i64 va) (hy:=Or.inl ⟨by rfl,by rintro W' ⟨q0,q1,q2,q3,q4,q5⟩; go_simp⟩) (hS:=hS) (h:=?_)
     try simp only [Act.put,Ord.t,Ord.z,Ord.s]
     refine Ord.tk (i:=8) (v:=.pointer (some ⟨X,0,none⟩)) (hy:=Or.inl ⟨by rfl,by rintro W' ⟨q0,q1,q2,q3,q4,q5⟩; go_simp⟩) (hS:=hS) (h:=?_)
     try simp only [Act.put,Ord.t,Ord.z,Ord.s]
     refine Ord.tk (i:=9) (v:=.slice (some ⟨PB,0,none⟩) n n) (hy:=Or.inl ⟨by rfl,by rintro W' ⟨q0,q1,q2,q3,q4,q5⟩; go_simp⟩) (hS:=hS) (h:=?_)
     try simp only [Act.put,Ord.t,Ord.z,Ord.s]
     refine Ord.tk (i:=10) (v:=.pointer (some ⟨I,3,none⟩)) (hy:=Or.inl ⟨by rfl,by rintro W' ⟨q0,q1,q2,q3,q4,q5⟩; go_simp⟩) (hS:=hS) (h:=?_)
     try simp only [Act.put,Ord.t,Ord.z,Ord.s]
     refine Ord.tk (i:=11) (v:=.int .i64 (kb : Int)) (hy:=Or.inl ⟨by rfl,by rintro W' ⟨q0,q1,q2,q3,q4,q5⟩; go_simp⟩) (hS:=hS) (h:=?_)
     try simp only [Act.put,Ord.t,Ord.z,Ord.s]
     refine Ord.tk (i:=12) (v:=.pointer (some ⟨PB,kb,none⟩)) (hy:=Or.inl ⟨by rfl,by rintro W' ⟨q0,q1,q2,q3,q4,q5⟩; go_simp⟩) (hS:=hS) (h:=?_)
     try simp only [Act.put,Ord.t,Ord.z,Ord.s]
     refine Ord.tk (i:=13) (v:=.int .i64 vb) (hy:=Or.inl ⟨by rfl,by rintro W' ⟨q0,q1,q2,q3,q4,q5⟩; go_simp⟩) (hS:=hS) (h:=?_)
     try simp only [Act.put,Ord.t,Ord.z,Ord.s]
     refine Ord.on (i:=14) (h:=fun K hK => ?_)
     go_simp
     refine (HC.out wd).mono ?_
     rintro r wd ⟨rfl,rfl⟩
     go_simp
     refine hK.out _ _ (fun _ => hS) ?_
     clear hK K
     try simp only [Act.put,Ord.t,Ord.z,Ord.s]
     refine Ord.on (i:=15) (h:=fun K hK => ?_)
     go_simp
     refine hK.out _ _ (fun _ => hS) ?_
     clear hK K
     try simp only [Act.put,Ord.t,Ord.z,Ord.s]
     refine Ord.tk (i:=16) (v:=.int .i64 vt) (hy:=Or.inl ⟨by rfl,by rintro W' ⟨q0,q1,q2,q3,q4,q5⟩; go_simp⟩) (hS:=hS) (h:=?_)
     try simp only [Act.put,Ord.t,Ord.z,Ord.s]
     refine Ord.tk (i:=17) (v:=.int .i64 0) (hy:=Or.inl ⟨by rfl,by rintro W' ⟨q0,q1,q2,q3,q4,q5⟩; go_simp⟩) (hS:=hS) (h:=?_)
     try simp only [Act.put,Ord.t,Ord.z,Ord.s]
     refine Ord.on (i:=18) (h:=fun K hK => ?_)
     go_simp
     refine hK.out _ _ (fun _ => hS) ?_
     clear hK K
     try simp only [Act.put,Ord.t,Ord.z,Ord.s]
     refine Ord.on (i:=19) (h:=fun K hK => ?_)
     go_simp
     refine hK.out _ _ (fun _ => hS) ?_
     clear hK K
     try simp only [Act.put,Ord.t,Ord.z,Ord.s]
     refine Ord.wpM_done (by kernel_rfl) ?_ _
     refine NoPanic.normal ?_
     clear HC HSS
     go_wp2
     go_ret
     exact ⟨by rw [HE.out]; rfl,by first | exact HBw.out _ HD.out | (rw [← HX.out]; exact HBw.out _ HD.out)⟩
end Go.Proofs.Ytpnacanbknejiaa.Fl
