/- Laid together: LfMIfA, LfMFor. -/
import Derived.Test.YtemdnmfldihalaaGreatDoorLfMIf
import Derived.Test.YtemdnmfldihalaaGreatDoorGr18
namespace Go.Proofs.YtemdnmfldihalaaGreatDoor.Lr
set_option maxHeartbeats 32000000
set_option maxRecDepth 100000
set_option linter.unusedVariables false
set_option linter.unusedSimpArgs false
open Go.ChangeShapes Go.WideShapes Go.ChangeAt Go.RowKit Lg
def dkOf (rs : List Vr) (ns : List Nm) (dark : Bool) (m : Nat) (e : Ex) : Bool := match exprK rs ns dark m e with
 | .ok b => b || dark
 | .error _ => dark
theorem blockK_stmts {f : St → Ks → Except Int Ks} {l : List St} {k k' : Ks} (h : blockK f l k = .ok k') : ∃ k1,stmtsK f l k = .ok k1 := by
 unfold blockK at h
 obtain ⟨k1,h1,_⟩ := thenK_inv h
 exact ⟨k1,h1⟩
theorem CkS.room {rs : List Vr} {m : Nat} {dark : Bool} {s : St} {ns : List Nm} {wk lt : Nat} {ks' : Ks} (h : stmtK rs (m + 1) dark s ⟨ns,wk,lt⟩ = .ok ks') : wk + 1 ≤ 300 := by
 rw [stmtK] at h
 split at h
 ·cases h
 ·dsimp only at *; omega
theorem CkS.branches {rs : List Vr} {m : Nat} {dark : Bool} {ns : List Nm} {s : St} {mm : Mm} {e : Ex} (h : CkS rs (m + 1) dark ns s mm) (hw : wfS (m + 1) s) (hk : s.kind = 4) (ha : s.args = [e]) : CkB rs m (dkOf rs ns dark m e) ns s.thn mm ∧ CkB rs m (dkOf rs ns dark m e) ns s.els mm := by
 obtain ⟨wk,lt,ks',h1,h2,h3,h4,h5⟩ := h.ok
 have hr := CkS.room h3
 rcases stmt_cases hw h3 with ⟨x,s,q,_⟩ | ⟨x,s,v,q,_⟩ | ⟨x,y,u,v,q,_⟩ | ⟨x,s,k1,q,hx,hs,hth,hel,hb1,hb2⟩ | ⟨k1,q,_⟩ | ⟨x,s,q,_⟩
 ·rw [hk] at q; exact absurd q (by decide)
 ·rw [hk] at q; exact absurd q (by decide)
 ·rw [hk] at q; exact absurd q (by decide)
 ·rw [ha] at hx
  injection hx with hx
  subst hx
  have hdk : dkOf rs ns dark m e = (s || dark) := by unfold dkOf; rw [hs]
  rw [hdk]
  obtain ⟨k2,hk2⟩ := blockK_stmts hb1
  obtain ⟨k3,hk3⟩ := blockK_stmts hb2
  have hg := ((block_gd _ (fun u _ k a b => stmt_gd rs m _ u k a b) ⟨ns,wk + 1,lt⟩ hr h2).2 _ hb1)
  refine ⟨⟨⟨ns,wk + 1,lt⟩,k2,rfl,hr,h2,hk2,h4,h5⟩,⟨k1,k3,hg.2,hg.1.most,hg.1.lets,hk3,?_,?_⟩⟩
  ·rw [hg.2]; exact h4
  ·have := hg.1.work
   dsimp only at this
   omega
 ·rw [hk] at q; exact absurd q (by decide)
 ·rw [hk] at q; exact absurd q (by decide)
theorem KeepX.later {lo hi : Nat} {Ls Ex : List Nat} {w W W2 : World} (h : KeepX lo hi Ls Ex w W) (hhi : hi ≤ W.heap.size) (hL : ∀ b ∈ Ls,lo ≤ b ∧ b < hi) (hb : Below W.heap.size W W2) : KeepX lo hi Ls Ex w W2 := keep_rest h (Fs.of_below (l:=[]) hb) (by simp) hhi hL
theorem if_good {t : Rt} {B : Nat} {rs : List Vr} {A : Value} {sc : List (List UInt8 × Nat)} {nv : Value} {ns : List Nm} {dark : Bool} {m : Nat} {s : St} {e : Ex} {w w1 w2 w3 w4 : World} {r : Ending} {ke : Nat} {de : Array Value} {u0 u1 nvj : Value} {b0 b1 mid top : Nat} {bs : List Nat}
  (hwf : wfS (m + 1) s) (hk : s.kind = 4) (ha : s.args = [e]) (hM : MSt w t B rs A sc nv) (hb1 : Below w.heap.size w w1) (hb2 : Below w1.heap.size w1 w2) (hG : GoodE t sc rs m w2 w1.heap.size w2.heap.size (.func (.func ke) #[] de) e) (hst : StI t B rs A sc nv w2 w3 bs nvj)
  (h0 : MadeX t rs sc w2.heap.size mid w3 bs nvj u0 (CkB rs m (dkOf rs ns dark m e) ns s.thn) (evB (evS rs m) s.thn)) (h1 : MadeX t rs sc mid top w3 bs nvj u1 (CkB rs m (dkOf rs ns dark m e) ns s.els) (evB (evS rs m) s.els)) (hx0 : b0 ∈ bs ∧ Bk w3 b0 [u0] 75) (hx1 : b1 ∈ bs ∧ Bk w3 b1 [u1] 75)
  (hW : WithIs t.M (.func (.func ke) #[] de) (.func (.func 83) #[] #[.pointer (some ⟨b0,0,none⟩),.pointer (some ⟨b1,0,none⟩)]) w3 r w4) :
  ∃ v nv' Ls,MdsP t B rs A sc nv (CkS rs (m + 1) dark ns s) (actS rs (m + 1) s) w r w4 v nv' sc Ls := by
 obtain ⟨l0,t0,L0,m0⟩ := h0
 obtain ⟨l1,t1,L1,m1⟩ := h1
 have a0 := m0.a
 have a1 := m0.b
 have a2 := m0.c
 have a4 := m1.a
 have a5 := m1.b
 have a6 := m1.c
 have a7 := m1.d
 have a8 := m0.d
 have g0 := m0.good.1
 have g1 := m1.good.1
 have z1 := hb1.size
 have z2 := hb2.size
 have z3 := hst.fc.size
 have z4 := hW.s
 have hb12 := hb1.trans (hb2.mono z1)
 have hMl := hM.lt
 have hnvw : ∀ k,nv.ownBlock = some k → k < w.heap.size := fun k hk => (hM.own k hk).2
 have hown : ∀ b ∈ rowX nvj,b < w.heap.size ∨ w2.heap.size ≤ b := fun b hb => by
  rcases hst.fc.own b (rowX_mem.1 hb) with q | q
  ·exact .inl (hnvw b q)
  ·exact .inr q
 have G3 : GoodE t sc rs m w3 w1.heap.size w2.heap.size (.func (.func ke) #[] de) e := hG.more (Nat.le_refl _) (Nat.le_refl _) (fun i a b => hst.fc.block i b (by omega) (fun q => by have := hnvw i q; omega))
 have hLs : ∀ b ∈ L0 ++ L1,w2.heap.size ≤ b ∧ b < w3.heap.size := fun b hb => by
  rcases List.mem_append.1 hb with hb | hb
  ·have := g0 b hb; omega
  ·have := g1 b hb; omega
 have hlow : ∀ c ∈ Chg t sc [],c < w.heap.size := fun c hc => hM.old c (by
  simp only [Chg,Own,List.mem_cons,List.mem_append] at hc ⊢
  rcases hc with hc | (hc | hc) | hc
  ·exact .inl hc
  ·exact .inr (.inr (.inr (.inl hc)))
  ·exact .inr (.inr (.inr (.inr hc)))
  ·cases hc)
 have k4 : ∀ i,i < w3.heap.size → w4.heap[i]? = w3.heap[i]? := fun i hi => hW.b.block i hi
 have G0 : GoodA t sc sc rs w4 l0 t0 L0 (rowX nvj) u0 (CkB rs m (dkOf rs ns dark m e) ns s.thn) (evB (evS rs m) s.thn) := m0.good.more (Nat.le_refl _) (Nat.le_refl _) (fun i _ b _ _ _ _ => k4 i (by omega)) (fun b hb => hb) g0 (fun b hb _ _ => hb) (fun b hb _ _ => hb) (fun _ _ _ _ _ hs _ => hs)
 have G1 : GoodA t sc sc rs w4 l1 t1 L1 (rowX nvj) u1 (CkB rs m (dkOf rs ns dark m e) ns s.els) (evB (evS rs m) s.els) := m1.good.more (Nat.le_refl _) (Nat.le_refl _) (fun i _ b _ _ _ _ => k4 i (by omega)) (fun b hb => hb) g1 (fun b hb _ _ => hb) (fun b hb _ _ => hb) (fun _ _ _ _ _ hs _ => hs)
 have hbox : ∀ b u,b ∈ bs → Bk w3 b [u] 75 → ∀ W W2,KeepX w.heap.size w4.heap.size (L0 ++ L1) (rowX nvj) w4 W → w4.heap.size ≤ W.heap.size → Below W.heap.size W W2 → W2.cell? ⟨b,0,none⟩ = some u := fun b u hb hk W W2 hK hs hB => by
  obtain ⟨q1,q2,q3⟩ := hst.bs b hb
  have hn : b ∉ L0 ++ L1 := fun hc => by
   rcases List.mem_append.1 hc with hc | hc
   ·have := g0 b hc; have := m0.bs b hb; omega
   ·have := g1 b hc; have := m1.bs b hb; omega
  rw [World.cell?_of_block (hB.block b (by omega)),World.cell?_of_block (hK.1 b (by omega) (by omega) hn (fun hc => q3 (rowX_mem.1 hc))),World.cell?_of_block (k4 b q2)]
  exact hk.cell 0 rfl
 obtain ⟨v,hr,hga⟩ := hW.good (sc:=sc) (sc' := sc) (lo:=w.heap.size) (le:=w1.heap.size) (he:=w2.heap.size) (Ls:=L0 ++ L1) (Ex:=rowX nvj) (C:=CkS rs (m + 1) dark ns s) (F:=fun mm n => if n = 0 then evB (evS rs m) s.els mm else evB (evS rs m) s.thn mm) hM.sep.apart (hlow _ (by simp [Chg])) (by omega) (fun b hb => by have := hLs b hb; omega) (fun b hb => (hst.ms.own b (rowX_mem.1 hb)).2) z1 z3 (fun b hb => by have := hLs b hb; omega) (fun b hb => by have := hown b hb; omega) G3 (enters_of Tryz.func83 (by kernel_rfl) rfl) (fun W hK hs mm hR hE hGa hC n W2 hB hev => by
  obtain ⟨c0,c1⟩ := hC.branches hwf hk ha
  have hL4 : ∀ b ∈ L0 ++ L1,w.heap.size ≤ b ∧ b < w4.heap.size := fun b hb => by have := hLs b hb; omega
  have hK2 := hK.later hs hL4 hB
  refine choice_then t rs sc w4 l0 t0 l1 t1 L0 L1 (rowX nvj) u0 u1 _ _ _ _ b0 b1 G0 G1 (by omega) (fun c hc => by have := hlow c hc; omega) mm n W2 (hR.below hM.sep.apart hB) ⟨hE,hGa⟩ c0 c1 (hK2.sub (by omega) (by omega) (fun b hb => by simp [hb]) (fun b hb q1 q2 => ?_)) (hK2.sub (by omega) (by omega) (fun b hb => by simp [hb]) (fun b hb q1 q2 => ?_)) (by have := hB.size; omega) (by have := hB.size; omega) a1 (hbox b0 u0 hx0.1 hx0.2 W W2 hK hs hB) (hbox b1 u1 hx1.1 hx1.2 W W2 hK hs hB)
  ·rcases List.mem_append.1 hb with hb | hb
   ·exact hb
   ·have := g1 b hb; omega
  ·rcases List.mem_append.1 hb with hb | hb
   ·have := g0 b hb; omega
   ·exact hb)
 exact ⟨v,nvj,L0 ++ L1,hr,hst.ms.below hW.b,((Fc.of_below hb12 nv).trans hst.fc).trans (Fc.of_below hW.b nvj),⟨[],by simp⟩,fun c hc => .inl hc,fun b hb => ((List.mem_append.1 hb).elim (fun hb => m0.ints b hb) (fun hb => m1.ints b hb)).below hW.b,hga.cong (fun _ h => h) (fun mm h => act_if hk ha mm h)⟩
theorem choice_make (m : Nat) (ihB : MakeB m) (K B : Nat) (t : Rt) (rs : List Vr) (A : Value) (sc : List (List UInt8 × Nat)) (nv : Value) (ns : List Nm) (dark : Bool) (s : St) (e : Ex) (s1 s2 s3 : Value) (w : World) (hK : m ≤ K) (hK10 : K + 1 ≤ 10) (hwf : wfS (m + 1) s) (hk : s.kind = 4) (ha : s.args = [e]) (hwe : wfE m e) (hth : ∀ u ∈ s.thn,wfS m u) (hel : ∀ u ∈ s.els,wfS m u) (hM : MSt w t B rs A sc nv) (hns : sc.map Prod.fst = ns.map Nm.name) (hroom : sc.length + szS (m + 1) s ≤ 900) (hi1 : ExIs w B 11 (ar s.args) s1) (hi2 : StIs w B 10 (K + 1) s.thn s2) (hi3 : StIs w B 10 (K + 1) s.els s3) :
  Calls Tryz.prog 65 #[.pointer (some ⟨t.M,0,none⟩),.agg (stA s s1 s2 s3)] w fun r w' => ∃ v nv' Ls,MdsP t B rs A sc nv (CkS rs (m + 1) dark ns s) (actS rs (m + 1) s) w r w' v nv' sc Ls := by
 obtain ⟨p,n,c,rfl⟩ := ex_slice hi1
 obtain ⟨p2,n2,k2,rfl⟩ := hi2.slice
 obtain ⟨p3,n3,k3,rfl⟩ := hi3.slice
 obtain ⟨w1,hw1⟩ : ∃ y,w.alloc (.cells #[.int .i64 s.kind,.int .i64 s.n,.string ⟨s.name.toArray⟩,.bool s.secret,.slice p n c,.slice p2 n2 k2,.slice p3 n3 k3] 89) = y := ⟨_,rfl⟩
 have hb1 : Below w.heap.size w w1 := by rw [← hw1]; exact (Below.refl _ _).alloc (Nat.le_refl _) _
 have hbE : Bk w1 w.heap.size [.int .i64 s.kind,.int .i64 s.n,.string ⟨s.name.toArray⟩,.bool s.secret,.slice p n c,.slice p2 n2 k2,.slice p3 n3 k3] 89 := by rw [← hw1]; exact Bk.new _ _ _
 have hn : n ≤ 1000 := by have := (ex_args hi1).1; dsimp [ar] at this; rw [ha] at this; simp at this; omega
 have hMl := hM.lt
 have hMB := hM.hB
 rw [szS_succ] at hroom
 have HP := keep (part_call m (expr_make m) (K:=10) (by omega) (hM.mkd hns) hi1 hn (by intro a h; dsimp [ar] at h; rw [ha] at h; rw [List.mem_singleton] at h; rw [h]; exact hwe) hb1 0 e (by dsimp [ar]; rw [ha]; rfl) w1 (Below.refl _ _))
 have HBk : Hid (∀ w2,Below w.heap.size w w2 → ∀ W nvj,MSt W t B rs A sc nvj → Fc t.M nv nvj w2 W → (Calls Tryz.prog 47 #[.pointer (some ⟨t.M,0,none⟩),.slice p2 n2 k2] W fun r W' => ∃ v nv' Ls,MdsP t B rs A sc nvj (CkB rs m (dkOf rs ns dark m e) ns s.thn) (evB (evS rs m) s.thn) W r W' v nv' sc Ls) ∧ (Calls Tryz.prog 47 #[.pointer (some ⟨t.M,0,none⟩),.slice p3 n3 k3] W fun r W' => ∃ v nv' Ls,MdsP t B rs A sc nvj (CkB rs m (dkOf rs ns dark m e) ns s.els) (evB (evS rs m) s.els) W r W' v nv' sc Ls)) := by
  intro w2 hb W nvj hms hfc
  have hB2 : Below B w W := (hb.mono (by omega)).trans (hfc.below hMB (by have := hb.size; omega) (fun i q => (hM.own i q).1))
  exact ⟨ihB K B t rs A sc nvj ns (dkOf rs ns dark m e) s.thn _ W hK (by omega) hth hms hns (by omega) (hi2.below hB2),ihB K B t rs A sc nvj ns (dkOf rs ns dark m e) s.els _ W hK (by omega) hel hms hns (by omega) (hi3.below hB2)⟩
 have HGood := keep (fun (w2 w3 w4 : World) r ke de u0 u1 nvj b0 b1 mid top bs hb2 hG hst h0 h1 hx0 hx1 hW => if_good (ns:=ns) (dark:=dark) (w:=w) (w1:=w1) (w2:=w2) (w3:=w3) (w4:=w4) (r:=r) (ke:=ke) (de:=de) (u0:=u0) (u1:=u1) (nvj:=nvj) (b0:=b0) (b1:=b1) (mid:=mid) (top:=top) (bs:=bs) hwf hk ha hM hb1 hb2 hG hst h0 h1 hx0 hx1 hW)
 have HM := keep hM
 have HB1 := keep hb1
 have HbE := keep hbE
 have HW1 := keep hw1
 have x4 := hbE.cell 4 rfl
 unfold stA
 generalize s.kind = tk at *
 generalize s.n = tn at *
 generalize s.name = tx at *
 generalize s.secret = ts at *
 clear hw1 hb1 hbE hi1 hi2 hi3 hM hwf hth hel hwe ihB hk ha
 go_enter Tryz.func65,Tryz.ntmps65
 show (Code.seq (fstC mIfCode) (Code.seq (fstC (sndC mIfCode)) (Code.seq (fstC (sndC (sndC mIfCode))) (sndC (sndC (sndC mIfCode)))))).wp Tryz.prog _ _ w
 refine wp_seq (wp_mono (Q:=fun e a' w' => Hid (e = .normal ∧ a' = ⟨#[.pointer (some ⟨t.M,0,none⟩),.agg #[.int .i64 tk,.int .i64 tn,.string ⟨tx.toArray⟩,.bool ts,.slice p n c,.slice p2 n2 k2,.slice p3 n3 k3],undef,.pointer (some ⟨w.heap.size,0,none⟩),.nilFunc,undef,undef,undef,undef,undef,undef,undef,undef,undef,undef,undef,undef,undef,undef,undef,undef,undef,undef,undef],[]⟩ ∧ w' = w1)) ?_ ?_)
 ·conv => arg 2; whnf
  go_wp2_with (first | rw [HW1.out])
  first | trivial | exact ⟨rfl,rfl,rfl⟩
 intro e1 a1 w1' h1
 obtain ⟨rfl,rfl,rfl⟩ := h1.out
 refine wp_seq (wp_mono (Q:=fun e' a' w' => Hid (e' = .normal ∧ ∃ ke de,a' = ⟨#[.pointer (some ⟨t.M,0,none⟩),.agg #[.int .i64 tk,.int .i64 tn,.string ⟨tx.toArray⟩,.bool ts,.slice p n c,.slice p2 n2 k2,.slice p3 n3 k3],undef,.pointer (some ⟨w.heap.size,0,none⟩),.nilFunc,.func (.func ke) #[] de,undef,undef,.pointer (some ⟨t.M,0,none⟩),.pointer (some ⟨w.heap.size,4,none⟩),.slice p n c,.func (.func ke) #[] de,undef,undef,undef,undef,undef,undef,undef,undef,undef,undef,undef,undef],[]⟩ ∧ Below w1'.heap.size w1' w' ∧ GoodE t sc rs m w' w1'.heap.size w'.heap.size (.func (.func ke) #[] de) e)) ?_ ?_)
 ·conv => arg 2; whnf
  go_wp2_with fail
  refine HP.out.mono ?_
  rintro r w2 ⟨v,rfl,hb2,hg2⟩
  obtain ⟨k,d,rfl⟩ := goodE_func _ _ _ _ hg2
  have HG2 := keep hg2
  have HB2 := keep hb2
  clear hb2 hg2 HP HGood HBk
  go_wp2
  first | exact ⟨rfl,k,d,rfl,HB2.out,HG2.out⟩ | exact ⟨k,d,rfl,HB2.out,HG2.out⟩ | exact ⟨k,d,⟨rfl,rfl⟩,HB2.out,HG2.out⟩
 intro e2 a2 w2 h2
 obtain ⟨rfl,ke,de,rfl,hb2,hg2⟩ := h2.out
 have hb12 := HB1.out.trans (hb2.mono HB1.out.size)
 have hE2 := HbE.out.fs (Fs.of_below (l:=[]) hb2) (by simp)
 have HC0 : Hid (∀ W nvj,MSt W t B rs A sc nvj → Fc t.M nv nvj w2 W → Calls Tryz.prog 47 #[.pointer (some ⟨t.M,0,none⟩),.slice p2 n2 k2] W fun r W' => ∃ v nv' Ls,MdsP t B rs A sc nvj (CkB rs m (dkOf rs ns dark m e) ns s.thn) (evB (evS rs m) s.thn) W r W' v nv' sc Ls) := fun W nvj a b => (HBk.out w2 hb12 W nvj a b).1
 have HC1 : Hid (∀ W nvj,MSt W t B rs A sc nvj → Fc t.M nv nvj w2 W → Calls Tryz.prog 47 #[.pointer (some ⟨t.M,0,none⟩),.slice p3 n3 k3] W fun r W' => ∃ v nv' Ls,MdsP t B rs A sc nvj (CkB rs m (dkOf rs ns dark m e) ns s.els) (evB (evS rs m) s.els) W r W' v nv' sc Ls) := fun W nvj a b => (HBk.out w2 hb12 W nvj a b).2
 refine wp_seq (wp_mono (mIf_reg t B rs A sc nv w.heap.size p2 n2 k2 p3 n3 k3 (CkB rs m (dkOf rs ns dark m e) ns s.thn) (CkB rs m (dkOf rs ns dark m e) ns s.els) (evB (evS rs m) s.thn) (evB (evS rs m) s.els) (fun i => match i with | 1 => .agg #[.int .i64 tk,.int .i64 tn,.string ⟨tx.toArray⟩,.bool ts,.slice p n c,.slice p2 n2 k2,.slice p3 n3 k3] | 4 => .nilFunc | 5 => .func (.func ke) #[] de | 8 => .pointer (some ⟨t.M,0,none⟩) | 9 => .pointer (some ⟨w.heap.size,4,none⟩) | 10 => .slice p n c | 11 => .func (.func ke) #[] de | _ => undef) w2 (hE2.cell 5 rfl) (hE2.cell 6 rfl) (HM.out.below hb12) (by omega) (fun q => by have := (HM.out.own _ q).2; omega) HC0 HC1) ?_)
 rintro e3 a3 w3 ⟨rfl,u15,u19,b0,b1,nvj,bs,mid,top,rfl,hst,h0,h1',hx0,hx1⟩
 have HEnd := keep (fun r w4 hW => HGood.out w2 w3 w4 r ke de u15 u19 nvj b0 b1 mid top bs hb2 hg2 hst h0 h1' hx0 hx1 hW)
 obtain ⟨f0,d0,rfl⟩ := h0.func
 obtain ⟨f1,d1,rfl⟩ := h1'.func
 clear hst h0 h1' hx0 hx1 HGood HBk HC0 HC1 hE2 hb12 hb2 hg2 h2 h1 HM HB1 HbE HW1
 show (sndC (sndC (sndC mIfCode))).wp Tryz.prog _ _ w3
 conv => arg 2; whnf
 go_wp2_with fail
 refine (with_make t.M ke 83 #[] de #[] #[.pointer (some ⟨b0,0,none⟩),.pointer (some ⟨b1,0,none⟩)] w3).mono ?_
 intro r w4 hW
 have HE := keep (HEnd.out r w4 hW)
 have hr := hW.r
 subst hr
 clear hW HEnd
 go_wp2
 go_ret
 exact HE.out
structure WdF (a : Act) : Prop where
 len : a.tmps.toList.length = 35
 dfr : a.defers = []
theorem WdF.opens {a : Act} (h : WdF a) : a = ⟨#[slot a 0,slot a 1,slot a 2,slot a 3,slot a 4,slot a 5,slot a 6,slot a 7,slot a 8,slot a 9,slot a 10,slot a 11,slot a 12,slot a 13,slot a 14,slot a 15,slot a 16,slot a 17,slot a 18,slot a 19,slot a 20,slot a 21,slot a 22,slot a 23,slot a 24,slot a 25,slot a 26,slot a 27,slot a 28,slot a 29,slot a 30,slot a 31,slot a 32,slot a 33,slot a 34],[]⟩ := by
 obtain ⟨⟨l⟩,d⟩ := a
 obtain ⟨h1,h2⟩ := h
 dsimp only at h1 h2
 subst h2
 have e0 : l = (List.range 35).map (fun i => l.getD i undef) := by
  refine List.ext_getElem (by simp [h1]) fun i h1 h2 => ?_
  rw [List.getElem_map,List.getElem_range,List.getD_eq_getElem?_getD,List.getElem?_eq_getElem h1,Option.getD_some]
 have e : (List.range 35).map (fun i => l.getD i undef) = [l.getD 0 undef,l.getD 1 undef,l.getD 2 undef,l.getD 3 undef,l.getD 4 undef,l.getD 5 undef,l.getD 6 undef,l.getD 7 undef,l.getD 8 undef,l.getD 9 undef,l.getD 10 undef,l.getD 11 undef,l.getD 12 undef,l.getD 13 undef,l.getD 14 undef,l.getD 15 undef,l.getD 16 undef,l.getD 17 undef,l.getD 18 undef,l.getD 19 undef,l.getD 20 undef,l.getD 21 undef,l.getD 22 undef,l.getD 23 undef,l.getD 24 undef,l.getD 25 undef,l.getD 26 undef,l.getD 27 undef,l.getD 28 undef,l.getD 29 undef,l.getD 30 undef,l.getD 31 undef,l.getD 32 undef,l.getD 33 undef,l.getD 34 undef] := by kernel_rfl
 exact congrArg (fun x : List Value => (⟨⟨x⟩,[]⟩ : Act)) (e0.trans e)
structure Ff1 (a : Act) (M bM bT : Nat) : Prop where
 wide : WdF a
 s0 : slot a 0 = .pointer (some ⟨M,0,none⟩)
 s2 : slot a 2 = .pointer (some ⟨bM,0,none⟩)
 s3 : slot a 3 = .pointer (some ⟨bT,0,none⟩)
 s4 : slot a 4 = .nilFunc
theorem Ff1.opens {a : Act} {M bM bT : Nat} (h : Ff1 a M bM bT) : ∃ g : Nat → Value,a = ⟨#[.pointer (some ⟨M,0,none⟩),g 1,.pointer (some ⟨bM,0,none⟩),.pointer (some ⟨bT,0,none⟩),.nilFunc,g 5,g 6,g 7,g 8,g 9,g 10,g 11,g 12,g 13,g 14,g 15,g 16,g 17,g 18,g 19,g 20,g 21,g 22,g 23,g 24,g 25,g 26,g 27,g 28,g 29,g 30,g 31,g 32,g 33,g 34],[]⟩ := by
 refine ⟨slot a,?_⟩
 have e := h.wide.opens
 rw [h.s0,h.s2,h.s3,h.s4] at e
 exact e
structure Ff2 (a : Act) (M bM bT q : Nat) : Prop where
 wide : WdF a
 s0 : slot a 0 = .pointer (some ⟨M,0,none⟩)
 s2 : slot a 2 = .pointer (some ⟨bM,0,none⟩)
 s3 : slot a 3 = .pointer (some ⟨bT,0,none⟩)
 s4 : slot a 4 = .nilFunc
 s5 : slot a 5 = .int .i64 (q : Int)
theorem Ff2.opens {a : Act} {M bM bT q : Nat} (h : Ff2 a M bM bT q) : ∃ g : Nat → Value,a = ⟨#[.pointer (some ⟨M,0,none⟩),g 1,.pointer (some ⟨bM,0,none⟩),.pointer (some ⟨bT,0,none⟩),.nilFunc,.int .i64 (q : Int),g 6,g 7,g 8,g 9,g 10,g 11,g 12,g 13,g 14,g 15,g 16,g 17,g 18,g 19,g 20,g 21,g 22,g 23,g 24,g 25,g 26,g 27,g 28,g 29,g 30,g 31,g 32,g 33,g 34],[]⟩ := by
 refine ⟨slot a,?_⟩
 have e := h.wide.opens
 rw [h.s0,h.s2,h.s3,h.s4,h.s5] at e
 exact e
structure Ff3 (a : Act) (M bM bT q bw : Nat) : Prop where
 wide : WdF a
 s0 : slot a 0 = .pointer (some ⟨M,0,none⟩)
 s2 : slot a 2 = .pointer (some ⟨bM,0,none⟩)
 s3 : slot a 3 = .pointer (some ⟨bT,0,none⟩)
 s4 : slot a 4 = .nilFunc
 s5 : slot a 5 = .int .i64 (q : Int)
 s6 : slot a 6 = .pointer (some ⟨bw,0,none⟩)
theorem Ff3.opens {a : Act} {M bM bT q bw : Nat} (h : Ff3 a M bM bT q bw) : ∃ g : Nat → Value,a = ⟨#[.pointer (some ⟨M,0,none⟩),g 1,.pointer (some ⟨bM,0,none⟩),.pointer (some ⟨bT,0,none⟩),.nilFunc,.int .i64 (q : Int),.pointer (some ⟨bw,0,none⟩),g 7,g 8,g 9,g 10,g 11,g 12,g 13,g 14,g 15,g 16,g 17,g 18,g 19,g 20,g 21,g 22,g 23,g 24,g 25,g 26,g 27,g 28,g 29,g 30,g 31,g 32,g 33,g 34],[]⟩ := by
 refine ⟨slot a,?_⟩
 have e := h.wide.opens
 rw [h.s0,h.s2,h.s3,h.s4,h.s5,h.s6] at e
 exact e
structure Ff4 (a : Act) (M bM bT q bw br : Nat) : Prop where
 wide : WdF a
 s0 : slot a 0 = .pointer (some ⟨M,0,none⟩)
 s2 : slot a 2 = .pointer (some ⟨bM,0,none⟩)
 s3 : slot a 3 = .pointer (some ⟨bT,0,none⟩)
 s4 : slot a 4 = .nilFunc
 s5 : slot a 5 = .int .i64 (q : Int)
 s6 : slot a 6 = .pointer (some ⟨bw,0,none⟩)
 s7 : slot a 7 = .pointer (some ⟨br,0,none⟩)
theorem Ff4.opens {a : Act} {M bM bT q bw br : Nat} (h : Ff4 a M bM bT q bw br) : ∃ g : Nat → Value,a = ⟨#[.pointer (some ⟨M,0,none⟩),g 1,.pointer (some ⟨bM,0,none⟩),.pointer (some ⟨bT,0,none⟩),.nilFunc,.int .i64 (q : Int),.pointer (some ⟨bw,0,none⟩),.pointer (some ⟨br,0,none⟩),g 8,g 9,g 10,g 11,g 12,g 13,g 14,g 15,g 16,g 17,g 18,g 19,g 20,g 21,g 22,g 23,g 24,g 25,g 26,g 27,g 28,g 29,g 30,g 31,g 32,g 33,g 34],[]⟩ := by
 refine ⟨slot a,?_⟩
 have e := h.wide.opens
 rw [h.s0,h.s2,h.s3,h.s4,h.s5,h.s6,h.s7] at e
 exact e
theorem mFor_r0 (M : Nat) (tk tn : Int) (tx : List UInt8) (ts : Bool) (p1 : Option Addr) (n1 k1 : Nat) (p2 : Option Addr) (n2 k2 : Nat) (p3 : Option Addr) (n3 k3 : Nat) (w : World) (g : Nat → Value) : (fstC mLoopCode).wp Tryz.prog (OnB fun a' w' => Ff1 a' M w.heap.size (w.heap.size + 1) ∧ w' = (w.alloc (.cells #[.pointer (some ⟨M,0,none⟩)] 100)).alloc (.cells #[.int .i64 tk,.int .i64 tn,.string ⟨tx.toArray⟩,.bool ts,.slice p1 n1 k1,.slice p2 n2 k2,.slice p3 n3 k3] 89)) ⟨#[.pointer (some ⟨M,0,none⟩),.agg #[.int .i64 tk,.int .i64 tn,.string ⟨tx.toArray⟩,.bool ts,.slice p1 n1 k1,.slice p2 n2 k2,.slice p3 n3 k3],g 2,g 3,g 4,g 5,g 6,g 7,g 8,g 9,g 10,g 11,g 12,g 13,g 14,g 15,g 16,g 17,g 18,g 19,g 20,g 21,g 22,g 23,g 24,g 25,g 26,g 27,g 28,g 29,g 30,g 31,g 32,g 33,g 34],[]⟩ w := by
 conv => arg 2; whnf
 go_wp2
 exact ⟨rfl,⟨⟨rfl,rfl⟩,rfl,rfl,rfl,rfl⟩,rfl⟩
theorem mFor_r1 {a : Act} {M bM bT : Nat} (hF : Ff1 a M bM bT) (w : World) (p2 : Option Addr) (n2 k2 : Nat) (hT : w.cell? ⟨bT,5,none⟩ = some (.slice p2 n2 k2)) (h0 : ¬ n2 = 0) : (fstC (sndC mLoopCode)).wp Tryz.prog (OnB fun a' w' => Ff1 a' M bM bT ∧ w' = w) a w := by
 obtain ⟨gg,rfl⟩ := hF.opens
 have d1 : decide ((n2 : Int) = 0) = false := decide_eq_false (by omega)
 have d2 : decide (n2 = 0) = false := decide_eq_false h0
 clear hF
 conv => arg 2; whnf
 go_wp2
 all_goals first | exact ⟨rfl,⟨⟨rfl,rfl⟩,rfl,rfl,rfl,rfl⟩,rfl⟩ | (exact absurd (by assumption) h0)
theorem mFor_r3 {a : Act} {M bM bT : Nat} (hF : Ff1 a M bM bT) (w : World) (pn : Option Addr) (q cn : Nat) (hb : w.cell? ⟨bM,0,none⟩ = some (.pointer (some ⟨M,0,none⟩))) (hM : w.cell? ⟨M,2,none⟩ = some (.slice pn q cn)) : (fstC (sndC (sndC mLoopCode))).wp Tryz.prog (OnB fun a' w' => Ff2 a' M bM bT q ∧ w' = w) a w := by
 obtain ⟨gg,rfl⟩ := hF.opens
 clear hF
 conv => arg 2; whnf
 go_wp2
 exact ⟨rfl,⟨⟨rfl,rfl⟩,rfl,rfl,rfl,rfl,rfl⟩,rfl⟩
def For4P (M bM bT q : Nat) (Q : Nat → World → Prop) (a' : Act) (w' : World) : Prop := ∃ g w2,Q g w2 ∧ Ff3 a' M bM bT q w2.heap.size ∧ w' = w2.alloc (.cells #[.pointer (some ⟨g,0,none⟩)] 104)
def For5P (M bM bT q bw : Nat) (Q : Value → World → Prop) (a' : Act) (w' : World) : Prop := ∃ v w2,Q v w2 ∧ Ff4 a' M bM bT q bw w2.heap.size ∧ w' = w2.alloc (.cells #[v] 75)
theorem mFor_r4 {a : Act} {M bM bT q : Nat} (hF : Ff2 a M bM bT q) (w : World) (x : List UInt8) (hb : w.cell? ⟨bM,0,none⟩ = some (.pointer (some ⟨M,0,none⟩))) (hT : w.cell? ⟨bT,2,none⟩ = some (.string ⟨x.toArray⟩)) (Q : Nat → World → Prop) (HC : Hid (Calls Tryz.prog 46 #[.pointer (some ⟨M,0,none⟩),.string ⟨x.toArray⟩] w fun r w' => ∃ g,r = .returned (.pointer (some ⟨g,0,none⟩)) ∧ Q g w')) : (fstC (sndC (sndC (sndC mLoopCode)))).wp Tryz.prog (OnB (For4P M bM bT q Q)) a w := by
 obtain ⟨gg,rfl⟩ := hF.opens
 clear hF
 conv => arg 2; whnf
 go_wp2_with fail
 refine HC.out.mono ?_
 rintro r w2 ⟨g,rfl,hq⟩
 have HQ := keep hq
 clear hq HC hb hT
 go_wp2
 exact ⟨rfl,g,w2,HQ.out,⟨⟨rfl,rfl⟩,rfl,rfl,rfl,rfl,rfl,rfl⟩,rfl⟩
theorem mFor_r5 {a : Act} {M bM bT q bw : Nat} (hF : Ff3 a M bM bT q bw) (w : World) (p2 : Option Addr) (n2 k2 : Nat) (hb : w.cell? ⟨bM,0,none⟩ = some (.pointer (some ⟨M,0,none⟩))) (hT : w.cell? ⟨bT,5,none⟩ = some (.slice p2 n2 k2)) (Q : Value → World → Prop) (HC : Hid (Calls Tryz.prog 47 #[.pointer (some ⟨M,0,none⟩),.slice p2 n2 k2] w fun r w' => ∃ k d,r = .returned (.func (.func k) #[] d) ∧ Q (.func (.func k) #[] d) w')) : (fstC (sndC (sndC (sndC (sndC mLoopCode))))).wp Tryz.prog (OnB (For5P M bM bT q bw Q)) a w := by
 obtain ⟨gg,rfl⟩ := hF.opens
 clear hF
 conv => arg 2; whnf
 go_wp2_with fail
 refine HC.out.mono ?_
 rintro r w2 ⟨k,d,rfl,hq⟩
 have HQ := keep hq
 clear hq HC hb hT
 go_wp2
 exact ⟨rfl,_,w2,HQ.out,⟨⟨rfl,rfl⟩,rfl,rfl,rfl,rfl,rfl,rfl,rfl⟩,rfl⟩
theorem mFor_end {a : Act} {M bM bT q bw br : Nat} (hF : Ff4 a M bM bT q bw br) (w : World) : (sndC (sndC (sndC (sndC (sndC (sndC mLoopCode)))))).wp Tryz.prog (fun e a' w' => Hid (e = .ret ∧ WdF a' ∧ slot a' 4 = .func (.func 85) #[] #[.pointer (some ⟨bT,0,none⟩),.pointer (some ⟨bM,0,none⟩),.pointer (some ⟨bw,0,none⟩),.pointer (some ⟨br,0,none⟩)] ∧ w' = w)) a w := by
 obtain ⟨gg,rfl⟩ := hF.opens
 clear hF
 conv => arg 2; whnf
 go_wp2
 first | exact ⟨⟨rfl,rfl⟩,rfl⟩ | exact ⟨⟨rfl,rfl⟩,rfl,rfl⟩ | exact ⟨rfl,⟨rfl,rfl⟩,rfl,rfl⟩
end Go.Proofs.YtemdnmfldihalaaGreatDoor.Lr
