/- What a program's parts become: a loop is made. -/
import Derived.Test.YtemdnmfldihalaaGreatDoorGr20
namespace Go.Proofs.YtemdnmfldihalaaGreatDoor.Lr
set_option maxHeartbeats 32000000
set_option maxRecDepth 100000
set_option linter.unusedVariables false
set_option linter.unusedSimpArgs false
open Go.ChangeShapes Go.WideShapes Go.ChangeAt Go.RowKit Lg
theorem MSt.chg {w : World} {t : Rt} {B : Nat} {rs : List Vr} {A : Value} {sc : List (List UInt8 × Nat)} {nv : Value} (h : MSt w t B rs A sc nv) : ∀ c ∈ Chg t sc [],c < w.heap.size := fun c hc => h.old c (by
 simp only [Chg,Own,List.mem_cons,List.mem_append] at hc ⊢
 rcases hc with hc | (hc | hc) | hc
 ·exact .inl hc
 ·exact .inr (.inr (.inr (.inl hc)))
 ·exact .inr (.inr (.inr (.inr hc)))
 ·cases hc)
theorem CkS.rounds {rs : List Vr} {m : Nat} {dark : Bool} {ns : List Nm} {s : St} {mm : Mm} (h : CkS rs (m + 1) dark ns s mm) (hw : wfS (m + 1) s) (hk : s.kind = 5) : ∃ ks ks' : Ks,mm.env.map Prod.fst = ns.map Nm.name ∧ mm.work ≤ ks.work ∧ ks.ns = ns ++ [⟨s.name,false,true⟩] ∧ ks.work ≤ 300 ∧ ks.lets ≤ 24 ∧ roundsK (blockK (stmtK rs m dark) s.thn) s.n.toNat ks = .ok ks' := by
 obtain ⟨wk,lt,ks',h1,h2,h3,h4,h5⟩ := h.ok
 have hr := CkS.room h3
 rcases stmt_cases hw h3 with ⟨x,s,q,_⟩ | ⟨x,s,v,q,_⟩ | ⟨x,y,u,v,q,_⟩ | ⟨x,s,k1,q,_⟩ | ⟨k1,q,hx,h0,h8,hth,hno,hrk,rfl⟩ | ⟨x,s,q,_⟩
 ·rw [hk] at q; exact absurd q (by decide)
 ·rw [hk] at q; exact absurd q (by decide)
 ·rw [hk] at q; exact absurd q (by decide)
 ·rw [hk] at q; exact absurd q (by decide)
 ·exact ⟨⟨ns ++ [⟨s.name,false,true⟩],wk + 1,lt⟩,k1,h4,h5,rfl,hr,h2,hrk⟩
 ·rw [hk] at q; exact absurd q (by decide)
theorem for_good {t : Rt} {B : Nat} {rs : List Vr} {A : Value} {sc : List (List UInt8 × Nat)} {nv nv1 nv2 : Value} {ns : List Nm} {dark : Bool} {m : Nat} {s : St} {w w1 w2 w3 w4 w5 wd : World} {g : Nat} {v : Value} {Lr : List Nat} {p : Option Addr} {q cap : Nat}
  (hwf : wfS (m + 1) s) (hk : s.kind = 5) (ha : s.args = []) (h8 : s.n ≤ 8) (h0 : 0 ≤ s.n) (hth : ∀ u ∈ s.thn,wfS m u) (hM : MSt w t B rs A sc nv) (hb1 : Below w.heap.size w w1) (z1 : w1.heap.size = w.heap.size + 2) (hkM : Bk w1 w.heap.size [.pointer (some ⟨t.M,0,none⟩)] 100) (sl1 sl2 sl3 : Value) (hkT : Bk w1 (w.heap.size + 1) [.int .i64 s.kind,.int .i64 s.n,.string ⟨s.name.toArray⟩,.bool s.secret,sl1,sl2,sl3] 89)
  (hN : NameP w1 t B rs A sc nv s.name (.returned (.pointer (some ⟨g,0,none⟩))) w2 g nv1) (hw3 : w3 = w2.alloc (.cells #[.pointer (some ⟨g,0,none⟩)] 104)) (hd : MdsP t B rs A (sc ++ [(s.name,g)]) nv1 (CkB rs m dark (ns ++ [⟨s.name,false,true⟩]) s.thn) (evB (evS rs m) s.thn) w3 (.returned v) w4 v nv2 (sc ++ [(s.name,g)]) Lr) (hw5 : w5 = w4.alloc (.cells #[v] 75)) (hnv2 : nv2 = .slice p q cap) (hbd : Below w5.heap.size w5 wd) :
  ∃ v nv' Ls,MdsP t B rs A sc nv (CkS rs (m + 1) dark ns s) (actS rs (m + 1) s) w (.returned (.func (.func 85) #[] #[.pointer (some ⟨w.heap.size + 1,0,none⟩),.pointer (some ⟨w.heap.size,0,none⟩),.pointer (some ⟨w2.heap.size,0,none⟩),.pointer (some ⟨w4.heap.size,0,none⟩)])) (wd.setCell ⟨t.M,2,none⟩ (.slice p sc.length cap)) v nv' sc Ls := by
 subst hnv2
 have b3 : Below w2.heap.size w2 w3 := by rw [hw3]; exact (Below.refl _ _).alloc (Nat.le_refl _) _
 have b5 : Below w4.heap.size w4 w5 := by rw [hw5]; exact (Below.refl _ _).alloc (Nat.le_refl _) _
 have k3 : Bk w3 w2.heap.size [.pointer (some ⟨g,0,none⟩)] 104 := by rw [hw3]; exact Bk.new _ _ _
 have k5 : Bk w5 w4.heap.size [v] 75 := by rw [hw5]; exact Bk.new _ _ _
 have z3 : w3.heap.size = w2.heap.size + 1 := by rw [hw3]; exact Array.size_push ..
 have z5 : w5.heap.size = w4.heap.size + 1 := by rw [hw5]; exact Array.size_push ..
 have zN := hN.fc.size
 have zd := hd.fc.size
 have ze := hbd.size
 have hMl := hM.lt
 have hgn := hN.new
 have h45 := b5.trans (hbd.mono b5.size)
 have hms5 : MSt wd t B rs A (sc ++ [(s.name,g)]) (.slice p q cap) := hd.ms.below h45
 obtain ⟨hms,hfc⟩ := ms_cut hms5
 have hsz : (wd.setCell ⟨t.M,2,none⟩ (.slice p sc.length cap)).heap.size = wd.heap.size := by simp [World.setCell]
 have hO : (Value.slice p sc.length cap).ownBlock = (Value.slice p q cap).ownBlock := by cases p <;> rfl
 have hX : rowX (.slice p sc.length cap) = rowX (.slice p q cap) := by unfold rowX; rw [hO]
 have hnvw : ∀ k,nv.ownBlock = some k → k < w.heap.size := fun k hk => (hM.own k hk).2
 have hnv1 : ∀ k,nv1.ownBlock = some k → (k < w.heap.size ∨ w1.heap.size ≤ k) ∧ k < w2.heap.size := fun k hk => ⟨by
  rcases hN.fc.own k hk with e | e
  ·exact .inl (hnvw k e)
  ·exact .inr e,(hN.ms.own k hk).2⟩
 have hnv2 : ∀ k,k ∈ rowX (.slice p sc.length cap) → (k < w.heap.size ∨ w1.heap.size ≤ k) ∧ (k < w2.heap.size ∨ w3.heap.size ≤ k) ∧ k < w4.heap.size := fun k hk => by
  rw [hX,rowX_mem] at hk
  refine ⟨?_,?_,(hd.ms.own k hk).2⟩
  ·rcases hd.fc.own k hk with e | e
   ·exact (hnv1 k e).1
   ·exact .inr (by omega)
  ·rcases hd.fc.own k hk with e | e
   ·exact .inl (hnv1 k e).2
   ·exact .inr e
 have hLr := hd.good.1
 have hblk : ∀ k,k < w4.heap.size → k ≠ t.M → (wd.setCell ⟨t.M,2,none⟩ (.slice p sc.length cap)).heap[k]? = w4.heap[k]? := fun k q1 q2 => by
  rw [Below.heap_setCell _ _ _ _ q2]; exact h45.block k q1
 have hold : ∀ k,k < w1.heap.size → k ≠ t.M → ¬ nv.ownBlock = some k → (wd.setCell ⟨t.M,2,none⟩ (.slice p sc.length cap)).heap[k]? = w1.heap[k]? := fun k q1 q2 q3 => by
  have n1 : ¬ nv1.ownBlock = some k := fun e => by
   rcases hN.fc.own k e with x | x
   ·exact q3 x
   ·omega
  rw [hblk k (by omega) q2,hd.fc.block k (by omega) q2 n1,b3.block k (by omega),hN.fc.block k q1 q2 q3]
 have hFc : Fc t.M nv (.slice p sc.length cap) w (wd.setCell ⟨t.M,2,none⟩ (.slice p sc.length cap)) :=
  (((((Fc.of_below hb1 nv).trans hN.fc).trans (Fc.of_below b3 nv1)).trans hd.fc).trans (Fc.of_below h45 _)).trans hfc
 have cM : (wd.setCell ⟨t.M,2,none⟩ (.slice p sc.length cap)).cell? ⟨w.heap.size,0,none⟩ = some (.pointer (some ⟨t.M,0,none⟩)) := by
  rw [World.cell?_of_block (hold w.heap.size (by omega) (by omega) (fun e => by have := hnvw _ e; omega))]; exact hkM.cell 0 rfl
 have cT : (wd.setCell ⟨t.M,2,none⟩ (.slice p sc.length cap)).cell? ⟨w.heap.size + 1,1,none⟩ = some (.int .i64 ((s.n.toNat : Nat) : Int)) := by
  rw [World.cell?_of_block (hold (w.heap.size + 1) (by omega) (by omega) (fun e => by have := hnvw _ e; omega)),Int.toNat_of_nonneg h0]; exact hkT.cell 1 rfl
 have cw : (wd.setCell ⟨t.M,2,none⟩ (.slice p sc.length cap)).cell? ⟨w2.heap.size,0,none⟩ = some (.pointer (some ⟨g,0,none⟩)) := by
  rw [World.cell?_of_block (hblk w2.heap.size (by omega) (by omega)),World.cell?_of_block (hd.fc.block w2.heap.size (by omega) (by omega) (fun e => by have := (hnv1 _ e).2; omega))]; exact k3.cell 0 rfl
 have cr : (wd.setCell ⟨t.M,2,none⟩ (.slice p sc.length cap)).cell? ⟨w4.heap.size,0,none⟩ = some v := by
  rw [World.cell?_of_block (Below.heap_setCell _ _ _ _ (by show w4.heap.size ≠ t.M; omega)),World.cell?_of_block (hbd.block w4.heap.size (by omega))]; exact k5.cell 0 rfl
 have G : GoodA t (sc ++ [(s.name,g)]) (sc ++ [(s.name,g)]) rs (wd.setCell ⟨t.M,2,none⟩ (.slice p sc.length cap)) w3.heap.size w4.heap.size Lr (rowX (.slice p sc.length cap)) v (CkB rs m dark (ns ++ [⟨s.name,false,true⟩]) s.thn) (evB (evS rs m) s.thn) := by
  rw [hX]
  exact hd.good.more (Nat.le_refl _) (Nat.le_refl _) (fun i q1 q2 _ _ _ _ => hblk i q2 (by omega)) (fun b hb => hb) hLr (fun b hb _ _ => hb) (fun b hb _ _ => hb) (fun _ _ _ _ _ hs _ => hs)
 have hin : ∀ b ∈ g :: Lr,(w1.heap.size ≤ b ∧ b < w2.heap.size) ∨ (w3.heap.size ≤ b ∧ b < w4.heap.size) := fun b hb => by
  rcases List.mem_cons.1 hb with rfl | hb
  ·exact .inl hgn
  ·exact .inr (hLr b hb)
 have hbox : ∀ b,(b = w.heap.size ∨ b = w.heap.size + 1 ∨ b = w2.heap.size ∨ b = w4.heap.size) → w.heap.size ≤ b ∧ b < wd.heap.size ∧ b ∉ g :: Lr ∧ b ∉ rowX (.slice p sc.length cap) := fun b hb => by
  refine ⟨by omega,by omega,fun hx => ?_,fun hx => ?_⟩
  ·have := hin b hx; omega
  ·have := hnv2 b hx; omega
 have hlow : ∀ c ∈ Chg t (sc ++ [(s.name,g)]) [],c < w3.heap.size := fun c hc => by have := hN.ms.chg c hc; omega
 have hints : ∀ b ∈ g :: Lr,IntAt (wd.setCell ⟨t.M,2,none⟩ (.slice p sc.length cap)) b := fun b hb => by
  have h4 : IntAt w4 b := by
   rcases List.mem_cons.1 hb with rfl | hb
   ·exact IntAt.fc (IntAt.below ⟨0,hN.int⟩ b3) (hN.ms.below b3) hd.fc
   ·exact hd.ints b hb
  exact (h4.below h45).set ((h4.below h45).ms hms5).1
 refine ⟨_,_,g :: Lr,rfl,hms,hFc,⟨[],by simp⟩,fun c hc => .inl hc,hints,fun b hb => ?_,_,_,⟨rfl,enters_of Tryz.func85 (by kernel_rfl) rfl⟩,?_⟩
 ·have := hin b hb; rw [hsz]; omega
 ·intro W hK hW mm hR hE hG hC
  obtain ⟨ks,ks',q1,q2,q3,q4,q5,q6⟩ := hC.rounds hwf hk
  rw [← act_for hk ha mm hC]
  rw [hsz] at hW
  exact loop_val t rs m dark s.name s.thn _ sc g w.heap.size wd.heap.size w3.heap.size w4.heap.size Lr (rowX (.slice p sc.length cap)) ns s.n.toNat (by omega) v (w.heap.size + 1) w.heap.size w2.heap.size w4.heap.size hth hN.ms.sep hM.chg hlow (by omega) zd (by omega) (by omega) G (hbox _ (by omega)) (hbox _ (by omega)) (hbox _ (by omega)) (hbox _ (by omega)) cT cM cw cr W ⟨fun i a b => hK.1 i a (by rw [hsz]; exact b),hK.2⟩ hW mm hR ⟨hE,hG⟩ ks ks' q1 q2 q3 q4 q5 q6
theorem none_val (W : World) : Calls Tryz.prog 84 #[] W fun r W' => r = .returned (.tuple #[]) ∧ W' = W := by
 go_enter Tryz.func84,Tryz.ntmps84
 go_wp2
 go_end0
 first | exact ⟨rfl,rfl⟩ | rfl | trivial
theorem none_good {t : Rt} {B : Nat} {rs : List Vr} {A : Value} {sc : List (List UInt8 × Nat)} {nv : Value} {ns : List Nm} {dark : Bool} {m : Nat} {s : St} {w w1 : World} (hk : s.kind = 5) (ha : s.args = []) (ht : s.thn = []) (hM : MSt w t B rs A sc nv) (hb : Below w.heap.size w w1) :
  ∃ v nv' Ls,MdsP t B rs A sc nv (CkS rs (m + 1) dark ns s) (actS rs (m + 1) s) w (.returned (.func (.func 84) #[] #[])) w1 v nv' sc Ls := by
 refine ⟨_,nv,[],rfl,hM.below hb,Fc.of_below hb nv,⟨[],by simp⟩,fun c hc => .inl hc,by simp,by simp,_,_,⟨rfl,enters_of Tryz.func84 (by kernel_rfl) rfl⟩,fun W hK hW mm hR hE hG hC => ?_⟩
 refine (none_val W).mono ?_
 rintro r W' ⟨rfl,rfl⟩
 rw [← act_for hk ha mm hC,ht,round_none]
 exact ⟨rfl,Fs.refl _ _,fun b hb => hR.env.ints b (by simpa using hb),hR⟩
theorem loop_none (t : Rt) (tk tn : Int) (tx : List UInt8) (ts : Bool) (p1 : Option Addr) (n1 k1 : Nat) (p2 : Option Addr) (k2 : Nat) (p3 : Option Addr) (n3 k3 : Nat) (w : World) (Q : Ending → World → Prop) (HQ : Hid (∀ w1,Below w.heap.size w w1 → Q (.returned (.func (.func 84) #[] #[])) w1)) :
  Calls Tryz.prog 66 #[.pointer (some ⟨t.M,0,none⟩),.agg #[.int .i64 tk,.int .i64 tn,.string ⟨tx.toArray⟩,.bool ts,.slice p1 n1 k1,.slice p2 0 k2,.slice p3 n3 k3]] w fun r w' => Hid (Q r w') := by
 obtain ⟨w1,hw1⟩ : ∃ y,(w.alloc (.cells #[.pointer (some ⟨t.M,0,none⟩)] 100)).alloc (.cells #[.int .i64 tk,.int .i64 tn,.string ⟨tx.toArray⟩,.bool ts,.slice p1 n1 k1,.slice p2 0 k2,.slice p3 n3 k3] 89) = y := ⟨_,rfl⟩
 have hb1 : Below w.heap.size w w1 := by rw [← hw1]; exact ((Below.refl _ _).alloc (Nat.le_refl _) _).alloc (by simp) _
 have hbE : Bk w1 (w.heap.size + 1) [.int .i64 tk,.int .i64 tn,.string ⟨tx.toArray⟩,.bool ts,.slice p1 n1 k1,.slice p2 0 k2,.slice p3 n3 k3] 89 := by
  have h := Bk.new (w.alloc (.cells #[.pointer (some ⟨t.M,0,none⟩)] 100)) [.int .i64 tk,.int .i64 tn,.string ⟨tx.toArray⟩,.bool ts,.slice p1 n1 k1,.slice p2 0 k2,.slice p3 n3 k3] 89
  rw [show (w.alloc (.cells #[.pointer (some ⟨t.M,0,none⟩)] 100)).heap.size = w.heap.size + 1 by simp] at h
  rw [← hw1]; exact h
 have x5 := hbE.cell 5 rfl
 have HE := keep (HQ.out w1 hb1)
 have HW1 := keep hw1
 clear hw1 hb1 hbE HQ
 go_enter Tryz.func66,Tryz.ntmps66
 go_wp2_with (first | rw [HW1.out])
 go_ret
 exact HE
theorem loop_make (m : Nat) (ihB : MakeB m) (K B : Nat) (t : Rt) (rs : List Vr) (A : Value) (sc : List (List UInt8 × Nat)) (nv : Value) (ns : List Nm) (dark : Bool) (s : St) (s1 s2 s3 : Value) (w : World) (hK : m ≤ K) (hK10 : K + 1 ≤ 10) (hwf : wfS (m + 1) s) (hk : s.kind = 5) (ha : s.args = []) (h0 : 0 ≤ s.n) (h8 : s.n ≤ 8) (hth : ∀ u ∈ s.thn,wfS m u) (hM : MSt w t B rs A sc nv) (hns : sc.map Prod.fst = ns.map Nm.name) (hroom : sc.length + szS (m + 1) s ≤ 900) (hi1 : ExIs w B 11 (ar s.args) s1) (hi2 : StIs w B 10 (K + 1) s.thn s2) (hi3 : StIs w B 10 (K + 1) s.els s3) :
  Calls Tryz.prog 66 #[.pointer (some ⟨t.M,0,none⟩),.agg (stA s s1 s2 s3)] w fun r w' => ∃ v nv' Ls,MdsP t B rs A sc nv (CkS rs (m + 1) dark ns s) (actS rs (m + 1) s) w r w' v nv' sc Ls := by
 obtain ⟨p1,n1,k1,rfl⟩ := ex_slice hi1
 obtain ⟨p2,n2,k2,hs2,hl2,_⟩ := id hi2
 subst hs2
 obtain ⟨p3,n3,k3,rfl⟩ := hi3.slice
 by_cases hz : n2 = 0
 ·subst hz
  unfold stA
  have ht : s.thn = [] := List.length_eq_zero_iff.1 hl2
  exact loop_none t s.kind s.n s.name s.secret p1 n1 k1 p2 k2 p3 n3 k3 w (fun r w' => ∃ v nv' Ls,MdsP t B rs A sc nv (CkS rs (m + 1) dark ns s) (actS rs (m + 1) s) w r w' v nv' sc Ls) (fun w1 hb => none_good hk ha ht hM hb)
 rw [szS_succ] at hroom
 have hMl := hM.lt
 have hMB := hM.hB
 obtain ⟨w0,hw0⟩ : ∃ y,w.alloc (.cells #[.pointer (some ⟨t.M,0,none⟩)] 100) = y := ⟨_,rfl⟩
 obtain ⟨w1,hw1⟩ : ∃ y,w0.alloc (.cells #[.int .i64 s.kind,.int .i64 s.n,.string ⟨s.name.toArray⟩,.bool s.secret,.slice p1 n1 k1,.slice p2 n2 k2,.slice p3 n3 k3] 89) = y := ⟨_,rfl⟩
 have z0 : w0.heap.size = w.heap.size + 1 := by rw [← hw0]; exact Array.size_push ..
 have z1 : w1.heap.size = w.heap.size + 2 := by rw [← hw1]; exact (Array.size_push ..).trans (by omega)
 have b0 : Below w.heap.size w w0 := by rw [← hw0]; exact (Below.refl _ _).alloc (Nat.le_refl _) _
 have b1 : Below w0.heap.size w0 w1 := by rw [← hw1]; exact (Below.refl _ _).alloc (Nat.le_refl _) _
 have hb1 := b0.trans (b1.mono b0.size)
 have kM : Bk w0 w.heap.size [.pointer (some ⟨t.M,0,none⟩)] 100 := by rw [← hw0]; exact Bk.new _ _ _
 have hkM := kM.fs (Fs.of_below (l:=[]) b1) (by simp)
 have hkT : Bk w1 (w.heap.size + 1) [.int .i64 s.kind,.int .i64 s.n,.string ⟨s.name.toArray⟩,.bool s.secret,.slice p1 n1 k1,.slice p2 n2 k2,.slice p3 n3 k3] 89 := by rw [← hw1,← z0]; exact Bk.new _ _ _
 obtain ⟨pn,q,cn,rfl⟩ : ∃ pn q cn,nv = .slice pn q cn := RowX.slice hM.row
 have hq : q = sc.length := (RowM.cap hM.row).1
 have hM1 := hM.below hb1
 have hnvw : ∀ k,(Value.slice pn q cn).ownBlock = some k → k < w.heap.size := fun k hk => (hM.own k hk).2
 unfold stA
 go_enter Tryz.func66,Tryz.ntmps66
 show (Code.seq (fstC mLoopCode) (Code.seq (fstC (sndC mLoopCode)) (Code.seq (fstC (sndC (sndC mLoopCode))) (Code.seq (fstC (sndC (sndC (sndC mLoopCode)))) (Code.seq (fstC (sndC (sndC (sndC (sndC mLoopCode))))) (Code.seq (fstC (sndC (sndC (sndC (sndC (sndC mLoopCode)))))) (sndC (sndC (sndC (sndC (sndC (sndC mLoopCode)))))))))))).wp Tryz.prog _ _ w
 refine OnB.go (mFor_r0 t.M s.kind s.n s.name s.secret p1 n1 k1 p2 n2 k2 p3 n3 k3 w (fun _ => undef)) ?_
 rintro a1 w1' ⟨hF1,hx1⟩
 rw [hw0,hw1] at hx1
 subst hx1
 refine OnB.go (mFor_r1 hF1 w1' p2 n2 k2 (hkT.cell 5 rfl) hz) ?_
 rintro a2 w1'' ⟨hF2,rfl⟩
 refine OnB.go (mFor_r3 hF2 w1'' pn q cn (hkM.cell 0 rfl) (hM1.box.cell 2 rfl)) ?_
 rintro a3 w1''' ⟨hF3,rfl⟩
 refine OnB.go (mFor_r4 hF3 w1''' s.name (hkM.cell 0 rfl) (hkT.cell 2 rfl) (fun g w2 => ∃ nv1,NameP w1''' t B rs A sc (.slice pn q cn) s.name (.returned (.pointer (some ⟨g,0,none⟩))) w2 g nv1) ?_) ?_
 ·refine (name_lay t B rs A sc (.slice pn q cn) s.name w1''' hM1 (by omega)).mono ?_
  rintro r w2 ⟨g,nv1,hN⟩
  have hr := hN.r
  subst hr
  exact ⟨g,rfl,nv1,hN⟩
 rintro a4 w3 ⟨g,w2,⟨nv1,hN⟩,hF4,hw3⟩
 have b3 : Below w2.heap.size w2 w3 := by rw [hw3]; exact (Below.refl _ _).alloc (Nat.le_refl _) _
 have hMs3 := hN.ms.below b3
 have zN := hN.fc.size
 have hB3 : Below B w w3 := (hb1.mono (by omega)).trans ((hN.fc.below hMB (by omega) (fun i q => (hM.own i q).1)).trans (b3.mono (by omega)))
 have hkM3 : Bk w3 w.heap.size [.pointer (some ⟨t.M,0,none⟩)] 100 := (hkM.fc hN.fc (by omega) (fun e => by have := hnvw _ e; omega)).fs (Fs.of_below (l:=[]) b3) (by simp)
 have hkT3 := (hkT.fc hN.fc (by omega) (fun e => by have := hnvw _ e; omega)).fs (Fs.of_below (l:=[]) b3) (by simp)
 refine OnB.go (mFor_r5 hF4 w3 p2 n2 k2 (hkM3.cell 0 rfl) (hkT3.cell 5 rfl) (fun v w4 => ∃ nv2 Lr,MdsP t B rs A (sc ++ [(s.name,g)]) nv1 (CkB rs m dark (ns ++ [⟨s.name,false,true⟩]) s.thn) (evB (evS rs m) s.thn) w3 (.returned v) w4 v nv2 (sc ++ [(s.name,g)]) Lr) ?_) ?_
 ·refine (ihB K B t rs A (sc ++ [(s.name,g)]) nv1 (ns ++ [⟨s.name,false,true⟩]) dark s.thn (.slice p2 n2 k2) w3 hK (by omega) hth hMs3 (by rw [List.map_append,List.map_append,hns]; rfl) (by rw [List.length_append,List.length_singleton]; omega) (hi2.below hB3)).mono ?_
  rintro r w4 ⟨v,nv2,Lr,hd⟩
  obtain ⟨_,k,d,⟨hv,_⟩,_⟩ := id hd.good
  have hr := hd.r
  subst hv
  subst hr
  exact ⟨k,d,rfl,nv2,Lr,hd⟩
 rintro a5 w5 ⟨v,w4,⟨nv2,Lr,hd⟩,hF5,hw5⟩
 obtain ⟨pj,qj,cj,hnv2⟩ : ∃ pj qj cj,nv2 = .slice pj qj cj := RowX.slice hd.ms.row
 have b5 : Below w4.heap.size w4 w5 := by rw [hw5]; exact (Below.refl _ _).alloc (Nat.le_refl _) _
 have hms5 := hd.ms.below b5
 have zd := hd.fc.size
 have z3 := b3.size
 have cM5 : w5.cell? ⟨w.heap.size,0,none⟩ = some (.pointer (some ⟨t.M,0,none⟩)) := by
  rw [World.cell?_of_block (b5.block w.heap.size (by omega)),World.cell?_of_block (hd.fc.block w.heap.size (by omega) (by omega) (fun e => by
   rcases hN.fc.own _ e with x | x
   ·have := hnvw _ x; omega
   ·omega))]
  exact hkM3.cell 0 rfl
 rw [hnv2] at hms5
 have hreg := mLoop_reg t B rs A sc [(s.name,g)] pj qj cj w.heap.size (slot a5) w5 hms5 cM5
 have hop := hF5.wide.opens
 have e2 := hF5.s2
 have e5 := hF5.s5
 rw [hq] at e5
 rw [e2,e5] at hop
 rw [← hop] at hreg
 refine wp_seq (wp_mono hreg ?_)
 rintro e a6 w6 ⟨rfl,rfl,wd,hbd,rfl⟩
 have hfin := for_good hwf hk ha h8 h0 hth hM hb1 z1 hkM _ _ _ hkT hN hw3 hd hw5 hnv2 hbd
 refine wp_mono (mFor_end (M:=t.M) (bM:=w.heap.size) (bT:=w.heap.size + 1) (q:=sc.length) (bw:=w2.heap.size) (br:=w4.heap.size) ?_ _) ?_
 ·exact ⟨⟨rfl,rfl⟩,hF5.s0,rfl,hF5.s3,hF5.s4,rfl,hF5.s6,hF5.s7⟩
 rintro e a8 w8 h8'
 obtain ⟨rfl,hW8,hs8,rfl⟩ := h8'.out
 have HE := keep hfin
 have hop8 := hW8.opens
 rw [hs8] at hop8
 generalize slot a8 = gg at hop8
 subst hop8
 clear hfin h8' hW8 hs8 hreg hop e2 e5 cM5 hms5 hd hN hF5 hF4 hF3 hF2 hF1 hkM3 hkT3 hMs3 hB3 hkM hkT kM hb1 b0 b1 b3 b5 hM hM1 hw0 hw1 hw3 hw5
 go_ret
 exact HE.out
end Go.Proofs.YtemdnmfldihalaaGreatDoor.Lr
