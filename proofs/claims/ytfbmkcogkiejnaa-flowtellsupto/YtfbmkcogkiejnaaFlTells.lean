/- Own, Reads, Makes, Check, Seen and Run tell what the document tells: FlowTells, walked. Written by tools/gen_fltells.py. -/
import Derived.Test.YtfbmkcogkiejnaaFrRun
import Derived.Test.YtfbmkcogkiejnaaFrSame
import Derived.Test.YtfbmkcogkiejnaaFlSame
import Derived.Test.YtfbmkcogkiejnaaFrCheck
import Derived.Test.YtfbmkcogkiejnaaGr50
import Derived.Test.YtfbmkcogkiejnaaFlOwn
namespace Go.Proofs.Ytfbmkcogkiejnaa.Fl
set_option linter.unusedVariables false
set_option linter.unusedSimpArgs false
open Go.ChangeShapes Go.WideShapes Go.ChangeAt Go.RowKit Lg Lr

/-- Instructions end one way. -/
theorem runs_det {code : List Ix} {T : Nat → Int} {k : Nat} {P : List Int} {A : List (List Int)} {ls ls' : List Lk} {e e' : En} (h : Runs code T k P A ls e) (h' : Runs code T k P A ls' e') : ls = ls' ∧ e = e' := by
  induction h generalizing ls' e' with
  | ret k P A i hi ho =>
    cases h' with
    | ret _ _ _ j hj hp => rw [hi] at hj; cases hj; exact ⟨rfl, rfl⟩
    | trap _ _ _ j hj hp => rw [hi] at hj; cases hj; omega
    | step _ _ _ j _ _ hj h0 h1 _ => rw [hi] at hj; cases hj; exact absurd ho h0
  | trap k P A i hi ho =>
    cases h' with
    | ret _ _ _ j hj hp => rw [hi] at hj; cases hj; omega
    | trap _ _ _ j hj hp => rw [hi] at hj; cases hj; exact ⟨rfl, rfl⟩
    | step _ _ _ j _ _ hj h0 h1 _ => rw [hi] at hj; cases hj; exact absurd ho h1
  | step k P A i ls e hi h0 h1 _ ih =>
    cases h' with
    | ret _ _ _ j hj hp => rw [hi] at hj; cases hj; exact absurd hp h0
    | trap _ _ _ j hj hp => rw [hi] at hj; cases hj; exact absurd hp h1
    | step _ _ _ j _ _ hj _ _ hr =>
      rw [hi] at hj
      cases hj
      obtain ⟨e1, e2⟩ := ih hr
      exact ⟨by rw [e1], e2⟩
theorem tab_yieldsG {ops : Array Oper} {o : Oper} {a : Act} {S : World → Prop} (hgd : Region.wanted o (yielded ops a.tmps) = true) (x : Operand) (ho : o.op = .load 29 x) (g : Nat) (hx : a.eval x = .pointer (some ⟨g, 0, none⟩)) (T : Nat → Int) (hS : ∀ w, S w → Tb.Blk w g T) : YieldsIf Try.prog ops S o (.agg (Tb.tabA T)) a :=
  .inl ⟨hgd, fun w hw => by
    unfold execOp
    simp only [ho, hx, Instr.loadAt, Instr.sureAddr, Sem.run_bind, Sem.run_pure, Result.andThen_ok, run_loadVar_row w g 29 29 (Tb.tabA T) (0, 0) _ (hS w hw) Try.underlying29 rfl (Tb.tab_info T)]⟩
theorem GvIs_mono {w : World} {B B' : Nat} {ws : List Int} {aa : List (List Int)} {v : Value} (h : GvIs w B ws aa v) (hB : B ≤ B') : GvIs w B' ws aa v := by
  obtain ⟨u1, u2, e, i1, i2⟩ := h
  exact ⟨u1, u2, e, i1.mono hB, ArrsIs_mono i2 hB⟩
/-- An instruction that is there, all of whose places are there: those of the list that were looked at. -/
def okP (op : Int) (l : List Int) (n : Int) (k : Nat) : Bool := decide (1 ≤ op) && decide (op ≤ 23) && (l.take k).all (fun p => wi p n)
theorem okP_step {op : Int} {l : List Int} {n : Int} {k : Nat} {p : Int} (h : l[k]? = some p) : okP op l n (k + 1) = (okP op l n k && wi p n) := by
  unfold okP
  rw [List.take_add_one, h, Option.toList_some, List.all_append, Bool.and_assoc, Bool.and_assoc, Bool.and_assoc]
  simp
theorem okP_no {op : Int} {l : List Int} {n : Int} {k : Nat} (h : okP op l n 0 = false) : okP op l n k = false := by
  unfold okP at h ⊢
  rw [List.take_zero, List.all_nil, Bool.and_true] at h
  rw [h, Bool.false_and]
theorem okP_rds {i : Ix} {n : Int} (h : okP i.op [i.a, i.b, i.c, i.d] n 4 = true) : ∀ p ∈ rds i, 0 ≤ p ∧ p < n := by
  unfold okP at h
  simp only [List.take_succ_cons, List.take_zero, List.all_cons, List.all_nil, Bool.and_true, Bool.and_eq_true, wi_iff] at h
  obtain ⟨_, ha, hb, hc, hd⟩ := h
  intro p hp
  unfold rds at hp
  split at hp
  · simp at hp; rcases hp with rfl | rfl <;> assumption
  · split at hp
    · simp at hp; rcases hp with rfl | rfl | rfl <;> assumption
    · split at hp
      · simp at hp; rcases hp with rfl | rfl <;> assumption
      · split at hp
        · simp at hp; subst hp; exact ha
        · cases hp
theorem bits_7 {T : Nat → Int} {op : Int} {all : Bool} (h : TabR T) : 0 ≤ bitsG T op all ∧ bitsG T op all ≤ 7 := by
  unfold bitsG
  split
  · omega
  · split
    · unfold Tb.allV
      split
      · omega
      · split
        · omega
        · split <;> omega
    · rename_i h9 hx
      have h1 : ¬ op < 1 := fun x => hx (.inr (.inl x))
      have h2 : ¬ 17 < op := fun x => hx (.inr (.inr x))
      exact h.t7 op.toNat (by omega) (by omega)
set_option maxHeartbeats 64000000 in
set_option maxRecDepth 100000 in
theorem tells_any (B : Nat) (f : Fx) (s1 s2 s3 : Value) (T : Nat → Int) (ws : List Int) (aa : List (List Int)) (gv : Value) (i : Ix) (P : List Int) (sv : Value) (all : Bool) (w : World) (hB : B ≤ w.heap.size) (h : FxIs w B f s1 s2 s3) (hTI : Tb.I64 T) (hg : GvIs w B ws aa gv) (hv : IntsIs w B P sv) (hNc : f.code.length ≤ 1048576) (hN : f.sec.length ≤ 1048576) (hNa : f.arrs.length ≤ 1048576) (hT1 : ws.length + sumL aa ≤ 1048576) :
    Calls Try.prog 3 #[.agg (fxA f s1 s2 s3), .agg (Tb.tabA T), gv, .agg (ixA i), sv, .bool all] w fun r w' => r = .returned (.bool true) ∧ Below w.heap.size w w' := by
  obtain ⟨p1, n1, c1, hs1, hx1⟩ := id h.code
  obtain ⟨p2, n2, c2, hs2, hx2⟩ := id h.sec
  obtain ⟨p3, n3, c3, hs3, hx3⟩ := id h.arrs
  subst hs1 hs2 hs3
  have HG0 := keep hg
  obtain ⟨t1, t2, rfl, hi, ha⟩ := hg
  obtain ⟨p4, n4, c4, hs4, hx4⟩ := id hi
  obtain ⟨p5, n5, c5, hs5, hx5⟩ := id ha
  subst hs4 hs5
  have HV0 := keep hv
  obtain ⟨pv, nv, cv, rfl, hnv, hx6⟩ := id hv
  obtain ⟨pr, hpr⟩ : ∃ k : Int, f.params = k := ⟨f.params, rfl⟩
  obtain ⟨op, d, a, b, c, imm⟩ := i
  obtain ⟨w1, hw1⟩ : ∃ y, w.alloc (.cells #[.slice p1 n1 c1, .slice p2 n2 c2, .int .i64 pr, .slice p3 n3 c3] 26) = y := ⟨_, rfl⟩
  obtain ⟨w2, hw2⟩ : ∃ y, w1.alloc (.cells (Tb.tabA T) 29) = y := ⟨_, rfl⟩
  obtain ⟨w3, hw3⟩ : ∃ y, w2.alloc (.cells #[.slice p4 n4 c4, .slice p5 n5 c5] 33) = y := ⟨_, rfl⟩
  obtain ⟨w4, hw4⟩ : ∃ y, w3.alloc (.cells #[.int .i64 op, .int .i64 d, .int .i64 a, .int .i64 b, .int .i64 c, .int .i64 imm] 35) = y := ⟨_, rfl⟩
  obtain ⟨F, hF⟩ : ∃ y, w.heap.size = y := ⟨_, rfl⟩
  obtain ⟨TB, hTB⟩ : ∃ y, w1.heap.size = y := ⟨_, rfl⟩
  obtain ⟨G, hG⟩ : ∃ y, w2.heap.size = y := ⟨_, rfl⟩
  obtain ⟨X, hX⟩ : ∃ y, w3.heap.size = y := ⟨_, rfl⟩
  have b1 : Below w.heap.size w w1 := by rw [← hw1]; exact (Below.refl _ _).alloc (Nat.le_refl _) _
  have b2 : Below w1.heap.size w1 w2 := by rw [← hw2]; exact (Below.refl _ _).alloc (Nat.le_refl _) _
  have b3 : Below w2.heap.size w2 w3 := by rw [← hw3]; exact (Below.refl _ _).alloc (Nat.le_refl _) _
  have b4 : Below w3.heap.size w3 w4 := by rw [← hw4]; exact (Below.refl _ _).alloc (Nat.le_refl _) _
  have b34 := b3.trans (b4.mono b3.size)
  have b24 := b2.trans (b34.mono b2.size)
  have b14 := b1.trans (b24.mono b1.size)
  have kF1 : Bk w1 F [.slice p1 n1 c1, .slice p2 n2 c2, .int .i64 pr, .slice p3 n3 c3] 26 := by rw [← hw1, ← hF]; exact Bk.new _ _ _
  have kF := kF1.fs (Fs.of_below (l := []) b24) (by simp)
  have kT2 : Tb.Blk w2 TB T := by rw [← hw2, ← hTB]; exact Tb.blk_alloc w1 T
  have kT : Tb.Blk w4 TB T := kT2.below b34 kT2.lt
  have kG3 : Bk w3 G [.slice p4 n4 c4, .slice p5 n5 c5] 33 := by rw [← hw3, ← hG]; exact Bk.new _ _ _
  have kG := kG3.fs (Fs.of_below (l := []) b4) (by simp)
  have kX : Bk w4 X [.int .i64 op, .int .i64 d, .int .i64 a, .int .i64 b, .int .i64 c, .int .i64 imm] 35 := by rw [← hw4, ← hX]; exact Bk.new _ _ _
  have HBx : Hid (∀ W, Below w4.heap.size w4 W → Bk W F [.slice p1 n1 c1, .slice p2 n2 c2, .int .i64 pr, .slice p3 n3 c3] 26 ∧ Bk W G [.slice p4 n4 c4, .slice p5 n5 c5] 33 ∧ Bk W X [.int .i64 op, .int .i64 d, .int .i64 a, .int .i64 b, .int .i64 c, .int .i64 imm] 35) := fun W hW => ⟨kF.fs (Fs.of_below (l := []) hW) (by simp), kG.fs (Fs.of_below (l := []) hW) (by simp), kX.fs (Fs.of_below (l := []) hW) (by simp)⟩
  have HTk : Hid (∀ W, Below w4.heap.size w4 W → Tb.Blk W TB T) := fun W hW => kT.below hW kT.lt
  have HIn : Hid (∀ W, Below w4.heap.size w4 W → B ≤ W.heap.size ∧ FxIs W B f (.slice p1 n1 c1) (.slice p2 n2 c2) (.slice p3 n3 c3) ∧ GvIs W B ws aa (.agg #[.slice p4 n4 c4, .slice p5 n5 c5]) ∧ IntsIs W B P (.slice pv nv cv)) := fun W hW => by
    have hb := b14.trans (hW.mono b14.size)
    exact ⟨Nat.le_trans hB hb.size, h.below (hb.mono hB), HG0.out.below (hb.mono hB), HV0.out.below (hb.mono hB)⟩
  have HBw : Hid (∀ W, Below w4.heap.size w4 W → Below w.heap.size w W) := fun W hW => b14.trans (hW.mono b14.size)
  have HW1 := keep hw1
  have HW2 := keep hw2
  have HW3 := keep hw3
  have HW4 := keep hw4
  have HF := keep hF
  have HTB := keep hTB
  have HG := keep hG
  have HX := keep hX
  have HT1 := keep hT1
  have HN := keep hN
  have HNc := keep hNc
  have HNa := keep hNa
  have HPr := keep hpr
  have HTI := keep hTI
  have HNv := keep hnv
  have HL4 := keep hx4.1
  unfold fxA ixA
  dsimp only
  rw [hpr]
  clear hw1 hw2 hw3 hw4 hF hTB hG hX b1 b2 b3 b4 b34 b24 b14 kF1 kF kT2 kT kG3 kG kX hi ha hx1 hx2 hx3 hx4 hx5 hx6 h hB hT1 hN hNc hNa hpr hTI hv hnv
  go_enter Try.func3, Try.ntmps3
  go_wp2_with (first | rw [HW1.out] | rw [HW2.out] | rw [HW3.out] | rw [HW4.out] | rw [HF.out] | rw [HTB.out] | rw [HG.out] | rw [HX.out] | fail)
  have HSS : Hid (∀ W', Below w4.heap.size w4 W' → W'.cell? ⟨F, 0, none⟩ = some (.slice p1 n1 c1) ∧ W'.cell? ⟨F, 1, none⟩ = some (.slice p2 n2 c2) ∧ W'.cell? ⟨F, 2, none⟩ = some (.int .i64 pr) ∧ W'.cell? ⟨F, 3, none⟩ = some (.slice p3 n3 c3) ∧ W'.cell? ⟨X, 0, none⟩ = some (.int .i64 op) ∧ W'.cell? ⟨X, 1, none⟩ = some (.int .i64 d) ∧ W'.cell? ⟨X, 2, none⟩ = some (.int .i64 a) ∧ W'.cell? ⟨X, 3, none⟩ = some (.int .i64 b) ∧ W'.cell? ⟨X, 4, none⟩ = some (.int .i64 c) ∧ W'.cell? ⟨X, 5, none⟩ = some (.int .i64 imm)) := fun W' hW => by
    obtain ⟨kF, kG, kX⟩ := HBx.out W' hW
    exact ⟨kF.cell 0 rfl, kF.cell 1 rfl, kF.cell 2 rfl, kF.cell 3 rfl, kX.cell 0 rfl, kX.cell 1 rfl, kX.cell 2 rfl, kX.cell 3 rfl, kX.cell 4 rfl, kX.cell 5 rfl⟩
  refine wp_region_noPanic ?_
  refine Ord.wpM_begin (fun W' : World => W'.cell? ⟨F, 0, none⟩ = some (.slice p1 n1 c1) ∧ W'.cell? ⟨F, 1, none⟩ = some (.slice p2 n2 c2) ∧ W'.cell? ⟨F, 2, none⟩ = some (.int .i64 pr) ∧ W'.cell? ⟨F, 3, none⟩ = some (.slice p3 n3 c3) ∧ W'.cell? ⟨X, 0, none⟩ = some (.int .i64 op) ∧ W'.cell? ⟨X, 1, none⟩ = some (.int .i64 d) ∧ W'.cell? ⟨X, 2, none⟩ = some (.int .i64 a) ∧ W'.cell? ⟨X, 3, none⟩ = some (.int .i64 b) ∧ W'.cell? ⟨X, 4, none⟩ = some (.int .i64 c) ∧ W'.cell? ⟨X, 5, none⟩ = some (.int .i64 imm)) [0, 1, 2, 3, 4, 5, 6, 7, 8, 9, 10, 11, 12, 13, 14, 15, 16, 17, 18, 19] (by kernel_rfl) ?_
  have HD : Hid (Below w4.heap.size w4 w4.drew) := Below.drew (Below.refl _ _)
  generalize w4.drew = wd at *
  have hS := HSS.out wd HD.out
  refine Ord.wpM_take (i := 0) (v := .agg #[.slice p1 n1 c1, .slice p2 n2 c2, .int .i64 pr, .slice p3 n3 c3]) (by simp only [List.getElem?_toArray, List.getElem?_cons_zero, List.getElem?_cons_succ]; rfl) (by kernel_rfl) (by kernel_rfl) (by kernel_rfl) (by kernel_rfl) (fun _ _ _ h => h) (Or.inl ⟨by rfl, by intro W' hW; obtain ⟨q0, q1, q2, q3, q4, q5, q6, q7, q8, q9⟩ := hW; go_simp⟩) hS ?_
  try simp only [Act.put, List.setIfInBounds_toArray, List.set_cons_zero, List.set_cons_succ]
  refine Ord.wpM_take (i := 2) (v := .agg #[.slice p1 n1 c1, .slice p2 n2 c2, .int .i64 pr, .slice p3 n3 c3]) (by simp only [List.getElem?_toArray, List.getElem?_cons_zero, List.getElem?_cons_succ]; rfl) (by kernel_rfl) (by kernel_rfl) (by kernel_rfl) (by kernel_rfl) (fun _ _ _ h => h) (Or.inl ⟨by rfl, by intro W' hW; obtain ⟨q0, q1, q2, q3, q4, q5, q6, q7, q8, q9⟩ := hW; go_simp⟩) hS ?_
  try simp only [Act.put, List.setIfInBounds_toArray, List.set_cons_zero, List.set_cons_succ]
  obtain ⟨i1, i2, i3, i4⟩ := HIn.out wd HD.out
  have HC := keep (own_any B f _ _ _ wd i1 i2 HNc.out HN.out HNa.out)
  unfold fxA at HC
  rw [HPr.out] at HC
  clear i1 i2 i3 i4
  refine Ord.wpM_one (i := 1) (by kernel_rfl) (by simp only [List.getElem?_toArray, List.getElem?_cons_zero, List.getElem?_cons_succ]; rfl) (fun K hK => ?_)
  go_simp
  refine HC.out.mono ?_
  rintro r wA ⟨v1, v2, v3, lo1, lo2, lo3, rfl, hl1, hl2, hl3, ho1, ho2, r1, r2, r3, hbA⟩
  have HBA := keep (HD.out.trans (hbA.mono HD.out.size))
  obtain ⟨q1, m1, e1, rfl⟩ := RowX.slice r1
  obtain ⟨q2, m2, e2, rfl⟩ := RowX.slice r2
  obtain ⟨q3, m3, e3, rfl⟩ := RowX.slice r3
  rw [HPr.out]
  have HFx : Hid (FxIs wA wA.heap.size f (.slice q1 m1 e1) (.slice q2 m2 e2) (.slice q3 m3 e3)) := ⟨rowX_code r1 HNc.out, rowX_bools r2 HN.out, rowX_vars r3 HNa.out⟩
  clear hl1 hl2 hl3 ho1 ho2 r1 r2 r3 hbA HC
  go_simp
  refine hK.out _ _ (fun _ => HSS.out _ (HBA.out)) ?_
  clear hK K
  try simp only [Act.put, List.setIfInBounds_toArray, List.set_cons_zero, List.set_cons_succ]
  have hS := HSS.out _ (HBA.out)
  obtain ⟨i1, i2, i3, i4⟩ := HIn.out wA HBA.out
  have HC := keep (sameFlat_any wA.heap.size f _ _ _ _ _ _ wA (Nat.le_refl _) HFx.out (i2.mono i1))
  unfold fxA at HC
  rw [HPr.out] at HC
  clear i1 i2 i3 i4
  refine Ord.wpM_one (i := 3) (by kernel_rfl) (by simp only [List.getElem?_toArray, List.getElem?_cons_zero, List.getElem?_cons_succ]; rfl) (fun K hK => ?_)
  go_simp
  refine HC.out.mono ?_
  rintro r wB ⟨rfl, hbB⟩
  have HBB := keep (HBA.out.trans (hbB.mono HBA.out.size))
  clear hbB HC HFx
  go_simp
  refine hK.out _ _ (fun _ => HSS.out _ (HBB.out)) ?_
  clear hK K
  try simp only [Act.put, List.setIfInBounds_toArray, List.set_cons_zero, List.set_cons_succ]
  have hS := HSS.out _ (HBB.out)
  refine Ord.wpM_take (i := 4) (v := .bool false) (by simp only [List.getElem?_toArray, List.getElem?_cons_zero, List.getElem?_cons_succ]; rfl) (by kernel_rfl) (by kernel_rfl) (by kernel_rfl) (by kernel_rfl) (fun _ _ _ h => h) (Or.inl ⟨by rfl, by intro W' hW; obtain ⟨q0, q1, q2, q3, q4, q5, q6, q7, q8, q9⟩ := hW; go_simp⟩) hS ?_
  try simp only [Act.put, List.setIfInBounds_toArray, List.set_cons_zero, List.set_cons_succ]
  refine Ord.wpM_take (i := 5) (v := .bool false) (by simp only [List.getElem?_toArray, List.getElem?_cons_zero, List.getElem?_cons_succ]; rfl) (by kernel_rfl) (by kernel_rfl) (by kernel_rfl) (by kernel_rfl) (fun _ _ _ h => h) (Or.inl ⟨by rfl, by intro W' hW; obtain ⟨q0, q1, q2, q3, q4, q5, q6, q7, q8, q9⟩ := hW; go_simp⟩) hS ?_
  try simp only [Act.put, List.setIfInBounds_toArray, List.set_cons_zero, List.set_cons_succ]
  refine Ord.wpM_take (i := 6) (v := .agg #[.int .i64 op, .int .i64 d, .int .i64 a, .int .i64 b, .int .i64 c, .int .i64 imm]) (by simp only [List.getElem?_toArray, List.getElem?_cons_zero, List.getElem?_cons_succ]; rfl) (by kernel_rfl) (by kernel_rfl) (by kernel_rfl) (by kernel_rfl) (fun _ _ _ h => h) (Or.inl ⟨by rfl, by intro W' hW; obtain ⟨q0, q1, q2, q3, q4, q5, q6, q7, q8, q9⟩ := hW; go_simp⟩) hS ?_
  try simp only [Act.put, List.setIfInBounds_toArray, List.set_cons_zero, List.set_cons_succ]
  refine Ord.wpM_take (i := 8) (v := .agg #[.int .i64 op, .int .i64 d, .int .i64 a, .int .i64 b, .int .i64 c, .int .i64 imm]) (by simp only [List.getElem?_toArray, List.getElem?_cons_zero, List.getElem?_cons_succ]; rfl) (by kernel_rfl) (by kernel_rfl) (by kernel_rfl) (by kernel_rfl) (fun _ _ _ h => h) (Or.inl ⟨by rfl, by intro W' hW; obtain ⟨q0, q1, q2, q3, q4, q5, q6, q7, q8, q9⟩ := hW; go_simp⟩) hS ?_
  try simp only [Act.put, List.setIfInBounds_toArray, List.set_cons_zero, List.set_cons_succ]
  have HC := keep (reads_any ⟨op, d, a, b, c, imm⟩ wB)
  unfold ixA at HC
  dsimp only at HC
  refine Ord.wpM_one (i := 7) (by kernel_rfl) (by simp only [List.getElem?_toArray, List.getElem?_cons_zero, List.getElem?_cons_succ]; rfl) (fun K hK => ?_)
  go_simp
  refine HC.out.mono ?_
  rintro r wC ⟨v, rfl, hv1, hbC⟩
  obtain ⟨q4, m4, e4, rfl⟩ := hv1.slice
  have HBC := keep (HBB.out.trans (hbC.mono HBB.out.size))
  have HV1 := keep hv1
  clear hbC HC hv1
  go_simp
  refine hK.out _ _ (fun _ => HSS.out _ (HBC.out)) ?_
  clear hK K
  try simp only [Act.put, List.setIfInBounds_toArray, List.set_cons_zero, List.set_cons_succ]
  have hS := HSS.out _ (HBC.out)
  have HC := keep (rreads_any ⟨op, d, a, b, c, imm⟩ wC)
  unfold ixA at HC
  dsimp only at HC
  refine Ord.wpM_one (i := 9) (by kernel_rfl) (by simp only [List.getElem?_toArray, List.getElem?_cons_zero, List.getElem?_cons_succ]; rfl) (fun K hK => ?_)
  go_simp
  refine HC.out.mono ?_
  rintro r wD ⟨v, rfl, hv2, hbD⟩
  obtain ⟨q5, m5, e5, rfl⟩ := RowX.slice hv2
  have HBD := keep (HBC.out.trans (hbD.mono HBC.out.size))
  have hrl := rds_len ⟨op, d, a, b, c, imm⟩
  have HC2 := keep (sameInts_any wD.heap.size _ _ _ _ wD (Nat.le_refl _) ((HV1.out.below hbD).mono hbD.size) (Lr.RowI.ints hv2 (by omega)))
  clear hbD HC hv2 HV1 hrl
  go_simp
  refine hK.out _ _ (fun _ => HSS.out _ (HBD.out)) ?_
  clear hK K
  try simp only [Act.put, List.setIfInBounds_toArray, List.set_cons_zero, List.set_cons_succ]
  have hS := HSS.out _ (HBD.out)
  refine Ord.wpM_one (i := 10) (by kernel_rfl) (by simp only [List.getElem?_toArray, List.getElem?_cons_zero, List.getElem?_cons_succ]; rfl) (fun K hK => ?_)
  go_simp
  refine HC2.out.mono ?_
  rintro r wE ⟨q, rfl, hq, hbE⟩
  obtain rfl : q = true := hq.2 (by first | rfl | trivial)
  have HBE := keep (HBD.out.trans (hbE.mono HBD.out.size))
  clear hbE HC2 hq
  go_simp
  refine hK.out _ _ (fun _ => HSS.out _ (HBE.out)) ?_
  clear hK K
  try simp only [Act.put, List.setIfInBounds_toArray, List.set_cons_zero, List.set_cons_succ]
  have hS := HSS.out _ (HBE.out)
  refine Ord.wpM_take (i := 11) (v := .bool false) (by simp only [List.getElem?_toArray, List.getElem?_cons_zero, List.getElem?_cons_succ]; rfl) (by kernel_rfl) (by kernel_rfl) (by kernel_rfl) (by kernel_rfl) (fun _ _ _ h => h) (Or.inl ⟨by rfl, by intro W' hW; obtain ⟨q0, q1, q2, q3, q4, q5, q6, q7, q8, q9⟩ := hW; go_simp⟩) hS ?_
  try simp only [Act.put, List.setIfInBounds_toArray, List.set_cons_zero, List.set_cons_succ]
  refine Ord.wpM_take (i := 12) (v := .bool false) (by simp only [List.getElem?_toArray, List.getElem?_cons_zero, List.getElem?_cons_succ]; rfl) (by kernel_rfl) (by kernel_rfl) (by kernel_rfl) (by kernel_rfl) (fun _ _ _ h => h) (Or.inl ⟨by rfl, by intro W' hW; obtain ⟨q0, q1, q2, q3, q4, q5, q6, q7, q8, q9⟩ := hW; go_simp⟩) hS ?_
  try simp only [Act.put, List.setIfInBounds_toArray, List.set_cons_zero, List.set_cons_succ]
  refine Ord.wpM_take (i := 13) (v := .bool false) (by simp only [List.getElem?_toArray, List.getElem?_cons_zero, List.getElem?_cons_succ]; rfl) (by kernel_rfl) (by kernel_rfl) (by kernel_rfl) (by kernel_rfl) (fun _ _ _ h => h) (Or.inl ⟨by rfl, by intro W' hW; obtain ⟨q0, q1, q2, q3, q4, q5, q6, q7, q8, q9⟩ := hW; go_simp⟩) hS ?_
  try simp only [Act.put, List.setIfInBounds_toArray, List.set_cons_zero, List.set_cons_succ]
  refine Ord.wpM_take (i := 14) (v := .agg #[.int .i64 op, .int .i64 d, .int .i64 a, .int .i64 b, .int .i64 c, .int .i64 imm]) (by simp only [List.getElem?_toArray, List.getElem?_cons_zero, List.getElem?_cons_succ]; rfl) (by kernel_rfl) (by kernel_rfl) (by kernel_rfl) (by kernel_rfl) (fun _ _ _ h => h) (Or.inl ⟨by rfl, by intro W' hW; obtain ⟨q0, q1, q2, q3, q4, q5, q6, q7, q8, q9⟩ := hW; go_simp⟩) hS ?_
  try simp only [Act.put, List.setIfInBounds_toArray, List.set_cons_zero, List.set_cons_succ]
  refine Ord.wpM_take (i := 16) (v := .agg #[.int .i64 op, .int .i64 d, .int .i64 a, .int .i64 b, .int .i64 c, .int .i64 imm]) (by simp only [List.getElem?_toArray, List.getElem?_cons_zero, List.getElem?_cons_succ]; rfl) (by kernel_rfl) (by kernel_rfl) (by kernel_rfl) (by kernel_rfl) (fun _ _ _ h => h) (Or.inl ⟨by rfl, by intro W' hW; obtain ⟨q0, q1, q2, q3, q4, q5, q6, q7, q8, q9⟩ := hW; go_simp⟩) hS ?_
  try simp only [Act.put, List.setIfInBounds_toArray, List.set_cons_zero, List.set_cons_succ]
  have HC := keep (makes_any ⟨op, d, a, b, c, imm⟩ wE)
  unfold ixA at HC
  dsimp only at HC
  obtain ⟨mk, hmk⟩ : ∃ q, mks ⟨op, d, a, b, c, imm⟩ = q := ⟨_, rfl⟩
  rw [hmk] at HC
  have HMk := keep hmk
  clear hmk
  refine Ord.wpM_one (i := 15) (by kernel_rfl) (by simp only [List.getElem?_toArray, List.getElem?_cons_zero, List.getElem?_cons_succ]; rfl) (fun K hK => ?_)
  go_simp
  refine HC.out.mono ?_
  rintro r wG ⟨rfl, hbG⟩
  have HBG := keep (HBE.out.trans (hbG.mono HBE.out.size))
  clear hbG HC
  go_simp
  refine hK.out _ _ (fun _ => HSS.out _ (HBG.out)) ?_
  clear hK K
  try simp only [Act.put, List.setIfInBounds_toArray, List.set_cons_zero, List.set_cons_succ]
  have hS := HSS.out _ (HBG.out)
  have HC := keep (rmakes_any ⟨op, d, a, b, c, imm⟩ wG)
  unfold ixA at HC
  dsimp only at HC
  rw [HMk.out] at HC
  refine Ord.wpM_one (i := 17) (by kernel_rfl) (by simp only [List.getElem?_toArray, List.getElem?_cons_zero, List.getElem?_cons_succ]; rfl) (fun K hK => ?_)
  go_simp
  refine HC.out.mono ?_
  rintro r wH ⟨rfl, hbH⟩
  have HBH := keep (HBG.out.trans (hbH.mono HBG.out.size))
  clear hbH HC
  go_simp
  refine hK.out _ _ (fun _ => HSS.out _ (HBH.out)) ?_
  clear hK K
  try simp only [Act.put, List.setIfInBounds_toArray, List.set_cons_zero, List.set_cons_succ]
  have hS := HSS.out _ (HBH.out)
  refine Ord.wpM_take (i := 18) (v := .bool false) (by simp only [List.getElem?_toArray, List.getElem?_cons_zero, List.getElem?_cons_succ]; rfl) (by kernel_rfl) (by kernel_rfl) (by kernel_rfl) (by kernel_rfl) (fun _ _ _ h => h) (Or.inl ⟨by rfl, by intro W' hW; obtain ⟨q0, q1, q2, q3, q4, q5, q6, q7, q8, q9⟩ := hW; go_simp⟩) hS ?_
  try simp only [Act.put, List.setIfInBounds_toArray, List.set_cons_zero, List.set_cons_succ]
  refine Ord.wpM_take (i := 19) (v := .bool false) (by simp only [List.getElem?_toArray, List.getElem?_cons_zero, List.getElem?_cons_succ]; rfl) (by kernel_rfl) (by kernel_rfl) (by kernel_rfl) (by kernel_rfl) (fun _ _ _ h => h) (Or.inl ⟨by rfl, by intro W' hW; obtain ⟨q0, q1, q2, q3, q4, q5, q6, q7, q8, q9⟩ := hW; go_simp⟩) hS ?_
  try simp only [Act.put, List.setIfInBounds_toArray, List.set_cons_zero, List.set_cons_succ]
  refine Ord.wpM_done (by kernel_rfl) ?_ _
  refine NoPanic.normal ?_
  clear HSS hS HBA HBB HBC HBD HBE HBG HD
  obtain ⟨kF, kG, kX⟩ := HBx.out wH HBH.out
  have f0 := kF.cell 0 rfl
  have f1 := kF.cell 1 rfl
  have f2 := kF.cell 2 rfl
  have f3 := kF.cell 3 rfl
  obtain ⟨k1, hk1⟩ : ∃ y, (checkF f).1 = y := ⟨_, rfl⟩
  obtain ⟨k2, hk2⟩ : ∃ y, (checkF f).2 = y := ⟨_, rfl⟩
  have HK1 := keep hk1
  clear kF kG kX
  obtain ⟨i1, i2, i3, i4⟩ := HIn.out wH HBH.out
  have HCk := keep (check_any B f _ _ _ wH i1 i2)
  unfold fxA at HCk
  rw [HPr.out] at HCk
  have HCr := keep (fun W (hW : Below w4.heap.size w4 W) => rcheck_any B f _ _ _ W (HIn.out W hW).1 (HIn.out W hW).2.1)
  unfold fxA at HCr
  rw [HPr.out] at HCr
  unfold ChkP at HCk HCr
  rw [hk1, hk2] at HCk HCr
  clear i1 i2 i3 i4 hk1 hk2
  go_wp2_with fail
  refine HCk.out.mono ?_
  rintro r w5 ⟨rfl, hb5⟩
  have HB5 := keep (HBH.out.trans (hb5.mono HBH.out.size))
  clear hb5 HCk f0 f1 f2 f3
  obtain ⟨kF, kG, kX⟩ := HBx.out w5 HB5.out
  have f0 := kF.cell 0 rfl
  have f1 := kF.cell 1 rfl
  have f2 := kF.cell 2 rfl
  have f3 := kF.cell 3 rfl
  clear kF kG kX
  have HCr5 := keep (HCr.out w5 HB5.out)
  clear HCr
  go_wp2_with fail
  refine HCr5.out.mono ?_
  rintro r w6 ⟨rfl, hb6⟩
  have HB6 := keep (HB5.out.trans (hb6.mono HB5.out.size))
  clear hb6 HCr5 f0 f1 f2 f3
  have HT6 := keep (HTk.out w6 HB6.out)
  obtain ⟨z, hz⟩ : ∃ z, Tb.wrongT T = z := ⟨_, rfl⟩
  have HWr := keep (Rt.wrong_any T HTI.out w6)
  rw [hz] at HWr
  have HZ := keep hz
  clear hz
  go_wp2_with (first | refine Tb.load_want rfl _ rfl TB rfl T HT6.out ?_ | fail)
  refine HWr.out.mono ?_
  rintro r w7 ⟨rfl, hb7⟩
  have HB7 := keep (HB6.out.trans (hb7.mono HB6.out.size))
  clear hb7 HWr HT6
  by_cases hz0 : z = 0
  · subst hz0
    have HTR := keep (tabR_of HZ.out)
    clear HZ
    obtain ⟨kF, kG, kX⟩ := HBx.out w7 HB7.out
    have x0 := kX.cell 0 rfl
    have x1 := kX.cell 1 rfl
    have x2 := kX.cell 2 rfl
    have x3 := kX.cell 3 rfl
    have x4 := kX.cell 4 rfl
    have x5 := kX.cell 5 rfl
    clear kF kG kX
    obtain ⟨w8, hw8⟩ : ∃ y, w7.alloc (.cells #[.int .i64 a, .int .i64 b, .int .i64 c, .int .i64 d] 3) = y := ⟨_, rfl⟩
    obtain ⟨SB, hSB⟩ : ∃ y, w7.heap.size = y := ⟨_, rfl⟩
    have kS : Bk w8 SB [.int .i64 a, .int .i64 b, .int .i64 c, .int .i64 d] 3 := by rw [← hw8, ← hSB]; exact Bk.new _ _ _
    have hb8 : Below w7.heap.size w7 w8 := by rw [← hw8]; exact (Below.refl _ _).alloc (Nat.le_refl _) _
    have HB8 := keep (HB7.out.trans (hb8.mono HB7.out.size))
    have HkS := keep kS
    have HW8 := keep hw8
    have HSB := keep hSB
    clear hw8 hSB kS hb8
    by_cases h1 : 1 ≤ op
    · by_cases h23 : op ≤ 23
      · have d1' : decide (1 ≤ op) = true := decide_eq_true h1
        have d2' : decide (op ≤ 23) = true := decide_eq_true h23
        have HO0 : Hid (okP op [a, b, c, d] (nv : Int) 0 = true) := by show _ = _; unfold okP; rw [d1', d2']; rfl
        clear h1 h23
        go_wp2_with (first | rw [HW8.out] | rw [HSB.out] | fail)
        go_loopw [83, 17] (fun j q wx => ∃ k : Nat, k ≤ 4 ∧ j = .int .i64 (k : Int) ∧ q = .bool (okP op [a, b, c, d] (nv : Int) k) ∧ wx = w8) (fun j _ _ => 4 - (intOf j).toNat)
        case atStart => exact ⟨0, by omega, rfl, by rw [HO0.out], rfl⟩
        case round =>
          obtain ⟨k, hk, rfl, rfl, rfl⟩ := hrel
          by_cases hkl : k < 4
          · obtain ⟨p, hp⟩ : ∃ p, [a, b, c, d][k]? = some p := ⟨_, List.getElem?_eq_getElem (by simpa using hkl)⟩
            have hc : wr.cell? ⟨SB, k, none⟩ = some (.int .i64 p) := HkS.out.cell k (by have := congrArg (Option.map (Value.int .i64)) hp; rw [← List.getElem?_map] at this; exact this)
            have hst := okP_step (op := op) (n := (nv : Int)) hp
            have d1 : decide ((k : Int) < 4) = true := decide_eq_true (by omega)
            have hkz : (k : Int) < 4 := by omega
            have hk0 : (0 : Int) ≤ (k : Int) := by omega
            have hwr : IntKind.i64.wrap ((k : Int) + 1) = (k : Int) + 1 := by rw [IntKind.wrap_i64]; omega
            obtain ⟨q, hq⟩ : ∃ q, okP op [a, b, c, d] (nv : Int) k = q := ⟨_, rfl⟩
            rw [hq] at hst ⊢
            have HSt := keep hst
            clear hp hst hq
            cases q with
            | false =>
              go_wp2
              go_roundw
              case rel => exact ⟨k + 1, by omega, by go_num, by rw [HSt.out]; rfl, by first | rfl | trivial⟩
              case measure => simp [intOf]; omega
            | true =>
              by_cases h0 : 0 ≤ p
              · have d2 : decide (0 ≤ p) = true := decide_eq_true h0
                by_cases h1 : p < (nv : Int)
                · have d3 : decide (p < (nv : Int)) = true := decide_eq_true h1
                  have HW : Hid (wi p (nv : Int) = true) := wi_iff.2 ⟨h0, h1⟩
                  clear h0 h1
                  go_wp2
                  go_roundw
                  case rel => exact ⟨k + 1, by omega, by go_num, by rw [HSt.out, HW.out]; rfl, by first | rfl | trivial⟩
                  case measure => simp [intOf]; omega
                · have d3 : decide (p < (nv : Int)) = false := decide_eq_false h1
                  have h1' : ¬ (p < (nv : Int)) := h1
                  have HW : Hid (wi p (nv : Int) = false) := by show _ = _; unfold wi; rw [d3, Bool.and_false]
                  go_wp2
                  go_roundw
                  case rel => exact ⟨k + 1, by omega, by go_num, by rw [HSt.out, HW.out]; rfl, by first | rfl | trivial⟩
                  case measure => simp [intOf]; omega
              · have d2 : decide (0 ≤ p) = false := decide_eq_false h0
                have HW : Hid (wi p (nv : Int) = false) := by show _ = _; unfold wi; rw [d2, Bool.false_and]
                go_wp2
                go_roundw
                case rel => exact ⟨k + 1, by omega, by go_num, by rw [HSt.out, HW.out]; rfl, by first | rfl | trivial⟩
                case measure => simp [intOf]; omega
          · have hke : k = 4 := by omega
            subst hke
            clear hkl hk x0 x1 x2 x3 x4 x5
            obtain ⟨q, hq⟩ : ∃ q, okP op [a, b, c, d] (nv : Int) 4 = q := ⟨_, rfl⟩
            rw [hq]
            have HQ := keep hq
            clear hq
            cases q with
            | false =>
              go_wp2
              go_quiet (fail)
              have HBs : Hid (Below w4.heap.size w4 (wr.drewN nq)) := HB8.out.trans ((below_drewN (Below.refl _ _) nq).mono HB8.out.size)
              generalize wr.drewN nq = ws0 at *
              obtain ⟨kF, kG, kX⟩ := HBx.out ws0 HBs.out
              have f0 := kF.cell 0 rfl
              have f1 := kF.cell 1 rfl
              have f2 := kF.cell 2 rfl
              have f3 := kF.cell 3 rfl
              have g0 := kG.cell 0 rfl
              have g1 := kG.cell 1 rfl
              clear kF kG kX
              by_cases hc1 : k1 = 0
              · subst hc1
                have hck := check_zero HK1.out
                have HC0 := keep hck
                have HR := keep (right_of (f := f) HK1.out)
                clear hck
                by_cases hw0 : (n4 : Int) = pr
                · have hp0 : 0 ≤ pr := by have := HR.out.p0; have := HPr.out; omega
                  subst hw0
                  have hmm : n4 ≤ 1048576 := by have h1 := HR.out.p1; have h2 := HPr.out; have h3 := HN.out; omega
                  have HMk := keep (fun W => make_vars n4 (by omega) W)
                  have hmz : (0 : Int) ≤ (n4 : Int) := by omega
                  have HSS : Hid (∀ W', Below w4.heap.size w4 W' → W'.cell? ⟨F, 0, none⟩ = some (.slice p1 n1 c1) ∧ W'.cell? ⟨F, 1, none⟩ = some (.slice p2 n2 c2) ∧ W'.cell? ⟨F, 2, none⟩ = some (.int .i64 (n4 : Int)) ∧ W'.cell? ⟨F, 3, none⟩ = some (.slice p3 n3 c3) ∧ W'.cell? ⟨G, 0, none⟩ = some (.slice p4 n4 c4) ∧ W'.cell? ⟨G, 1, none⟩ = some (.slice p5 n5 c5)) := fun W' hW => by
                    obtain ⟨kF, kG, kX⟩ := HBx.out W' hW
                    exact ⟨kF.cell 0 rfl, kF.cell 1 rfl, kF.cell 2 rfl, kF.cell 3 rfl, kG.cell 0 rfl, kG.cell 1 rfl⟩
                  go_wp2_with fail
                  refine wp_region_noPanic ?_
                  refine Ord.wpM_begin (fun W' : World => W'.cell? ⟨F, 0, none⟩ = some (.slice p1 n1 c1) ∧ W'.cell? ⟨F, 1, none⟩ = some (.slice p2 n2 c2) ∧ W'.cell? ⟨F, 2, none⟩ = some (.int .i64 (n4 : Int)) ∧ W'.cell? ⟨F, 3, none⟩ = some (.slice p3 n3 c3) ∧ W'.cell? ⟨G, 0, none⟩ = some (.slice p4 n4 c4) ∧ W'.cell? ⟨G, 1, none⟩ = some (.slice p5 n5 c5)) [0, 1, 2, 3, 4, 5, 6, 7, 8, 9, 10, 11, 12, 13, 14, 15, 16, 17, 18, 19, 20] (by kernel_rfl) ?_
                  have HD : Hid (Below w4.heap.size w4 ws0.drew) := HBs.out.trans ((Below.drew (Below.refl _ _)).mono HBs.out.size)
                  generalize ws0.drew = wd at *
                  have hS := HSS.out wd HD.out
                  refine Ord.wpM_take (i := 0) (v := .int .i64 0) (by simp only [List.getElem?_toArray, List.getElem?_cons_zero, List.getElem?_cons_succ]; rfl) (by kernel_rfl) (by kernel_rfl) (by kernel_rfl) (by kernel_rfl) (fun _ _ _ h => h) (Or.inl ⟨by rfl, by intro W' hW; obtain ⟨q0, q1, q2, q3, q4, q5⟩ := hW; go_simp⟩) hS ?_
                  try simp only [Act.put, List.setIfInBounds_toArray, List.set_cons_zero, List.set_cons_succ]
                  refine Ord.wpM_take (i := 1) (v := .bool false) (by simp only [List.getElem?_toArray, List.getElem?_cons_zero, List.getElem?_cons_succ]; rfl) (by kernel_rfl) (by kernel_rfl) (by kernel_rfl) (by kernel_rfl) (fun _ _ _ h => h) (Or.inl ⟨by rfl, by intro W' hW; obtain ⟨q0, q1, q2, q3, q4, q5⟩ := hW; go_simp⟩) hS ?_
                  try simp only [Act.put, List.setIfInBounds_toArray, List.set_cons_zero, List.set_cons_succ]
                  refine Ord.wpM_take (i := 2) (v := .bool false) (by simp only [List.getElem?_toArray, List.getElem?_cons_zero, List.getElem?_cons_succ]; rfl) (by kernel_rfl) (by kernel_rfl) (by kernel_rfl) (by kernel_rfl) (fun _ _ _ h => h) (Or.inl ⟨by rfl, by intro W' hW; obtain ⟨q0, q1, q2, q3, q4, q5⟩ := hW; go_simp⟩) hS ?_
                  try simp only [Act.put, List.setIfInBounds_toArray, List.set_cons_zero, List.set_cons_succ]
                  refine Ord.wpM_take (i := 3) (v := .pointer (some ⟨G, 0, none⟩)) (by simp only [List.getElem?_toArray, List.getElem?_cons_zero, List.getElem?_cons_succ]; rfl) (by kernel_rfl) (by kernel_rfl) (by kernel_rfl) (by kernel_rfl) (fun _ _ _ h => h) (Or.inl ⟨by rfl, by intro W' hW; obtain ⟨q0, q1, q2, q3, q4, q5⟩ := hW; go_simp⟩) hS ?_
                  try simp only [Act.put, List.setIfInBounds_toArray, List.set_cons_zero, List.set_cons_succ]
                  refine Ord.wpM_take (i := 4) (v := .slice p4 n4 c4) (by simp only [List.getElem?_toArray, List.getElem?_cons_zero, List.getElem?_cons_succ]; rfl) (by kernel_rfl) (by kernel_rfl) (by kernel_rfl) (by kernel_rfl) (fun _ _ _ h => h) (Or.inl ⟨by rfl, by intro W' hW; obtain ⟨q0, q1, q2, q3, q4, q5⟩ := hW; go_simp⟩) hS ?_
                  try simp only [Act.put, List.setIfInBounds_toArray, List.set_cons_zero, List.set_cons_succ]
                  refine Ord.wpM_take (i := 5) (v := .int .i64 (n4 : Int)) (by simp only [List.getElem?_toArray, List.getElem?_cons_zero, List.getElem?_cons_succ]; rfl) (by kernel_rfl) (by kernel_rfl) (by kernel_rfl) (by kernel_rfl) (fun _ _ _ h => h) (Or.inl ⟨by rfl, by intro W' hW; obtain ⟨q0, q1, q2, q3, q4, q5⟩ := hW; go_simp⟩) hS ?_
                  try simp only [Act.put, List.setIfInBounds_toArray, List.set_cons_zero, List.set_cons_succ]
                  refine Ord.wpM_take (i := 6) (v := .pointer (some ⟨F, 2, none⟩)) (by simp only [List.getElem?_toArray, List.getElem?_cons_zero, List.getElem?_cons_succ]; rfl) (by kernel_rfl) (by kernel_rfl) (by kernel_rfl) (by kernel_rfl) (fun _ _ _ h => h) (Or.inl ⟨by rfl, by intro W' hW; obtain ⟨q0, q1, q2, q3, q4, q5⟩ := hW; go_simp⟩) hS ?_
                  try simp only [Act.put, List.setIfInBounds_toArray, List.set_cons_zero, List.set_cons_succ]
                  refine Ord.wpM_take (i := 7) (v := .int .i64 (n4 : Int)) (by simp only [List.getElem?_toArray, List.getElem?_cons_zero, List.getElem?_cons_succ]; rfl) (by kernel_rfl) (by kernel_rfl) (by kernel_rfl) (by kernel_rfl) (fun _ _ _ h => h) (Or.inl ⟨by rfl, by intro W' hW; obtain ⟨q0, q1, q2, q3, q4, q5⟩ := hW; go_simp⟩) hS ?_
                  try simp only [Act.put, List.setIfInBounds_toArray, List.set_cons_zero, List.set_cons_succ]
                  refine Ord.wpM_take (i := 8) (v := .bool false) (by simp only [List.getElem?_toArray, List.getElem?_cons_zero, List.getElem?_cons_succ]; rfl) (by kernel_rfl) (by kernel_rfl) (by kernel_rfl) (by kernel_rfl) (fun _ _ _ h => h) (Or.inl ⟨by rfl, by intro W' hW; obtain ⟨q0, q1, q2, q3, q4, q5⟩ := hW; go_simp⟩) hS ?_
                  try simp only [Act.put, List.setIfInBounds_toArray, List.set_cons_zero, List.set_cons_succ]
                  refine Ord.wpM_take (i := 9) (v := .bool false) (by simp only [List.getElem?_toArray, List.getElem?_cons_zero, List.getElem?_cons_succ]; rfl) (by kernel_rfl) (by kernel_rfl) (by kernel_rfl) (by kernel_rfl) (fun _ _ _ h => h) (Or.inl ⟨by rfl, by intro W' hW; obtain ⟨q0, q1, q2, q3, q4, q5⟩ := hW; go_simp⟩) hS ?_
                  try simp only [Act.put, List.setIfInBounds_toArray, List.set_cons_zero, List.set_cons_succ]
                  refine Ord.wpM_take (i := 10) (v := .bool false) (by simp only [List.getElem?_toArray, List.getElem?_cons_zero, List.getElem?_cons_succ]; rfl) (by kernel_rfl) (by kernel_rfl) (by kernel_rfl) (by kernel_rfl) (fun _ _ _ h => h) (Or.inl ⟨by rfl, by intro W' hW; obtain ⟨q0, q1, q2, q3, q4, q5⟩ := hW; go_simp⟩) hS ?_
                  try simp only [Act.put, List.setIfInBounds_toArray, List.set_cons_zero, List.set_cons_succ]
                  refine Ord.wpM_take (i := 11) (v := .pointer (some ⟨F, 2, none⟩)) (by simp only [List.getElem?_toArray, List.getElem?_cons_zero, List.getElem?_cons_succ]; rfl) (by kernel_rfl) (by kernel_rfl) (by kernel_rfl) (by kernel_rfl) (fun _ _ _ h => h) (Or.inl ⟨by rfl, by intro W' hW; obtain ⟨q0, q1, q2, q3, q4, q5⟩ := hW; go_simp⟩) hS ?_
                  try simp only [Act.put, List.setIfInBounds_toArray, List.set_cons_zero, List.set_cons_succ]
                  refine Ord.wpM_take (i := 12) (v := .int .i64 (n4 : Int)) (by simp only [List.getElem?_toArray, List.getElem?_cons_zero, List.getElem?_cons_succ]; rfl) (by kernel_rfl) (by kernel_rfl) (by kernel_rfl) (by kernel_rfl) (fun _ _ _ h => h) (Or.inl ⟨by rfl, by intro W' hW; obtain ⟨q0, q1, q2, q3, q4, q5⟩ := hW; go_simp⟩) hS ?_
                  try simp only [Act.put, List.setIfInBounds_toArray, List.set_cons_zero, List.set_cons_succ]
                  refine Ord.wpM_take (i := 14) (v := .pointer (some ⟨F, 3, none⟩)) (by simp only [List.getElem?_toArray, List.getElem?_cons_zero, List.getElem?_cons_succ]; rfl) (by kernel_rfl) (by kernel_rfl) (by kernel_rfl) (by kernel_rfl) (fun _ _ _ h => h) (Or.inl ⟨by rfl, by intro W' hW; obtain ⟨q0, q1, q2, q3, q4, q5⟩ := hW; go_simp⟩) hS ?_
                  try simp only [Act.put, List.setIfInBounds_toArray, List.set_cons_zero, List.set_cons_succ]
                  refine Ord.wpM_take (i := 15) (v := .slice p3 n3 c3) (by simp only [List.getElem?_toArray, List.getElem?_cons_zero, List.getElem?_cons_succ]; rfl) (by kernel_rfl) (by kernel_rfl) (by kernel_rfl) (by kernel_rfl) (fun _ _ _ h => h) (Or.inl ⟨by rfl, by intro W' hW; obtain ⟨q0, q1, q2, q3, q4, q5⟩ := hW; go_simp⟩) hS ?_
                  try simp only [Act.put, List.setIfInBounds_toArray, List.set_cons_zero, List.set_cons_succ]
                  refine Ord.wpM_take (i := 17) (v := .agg #[.slice p4 n4 c4, .slice p5 n5 c5]) (by simp only [List.getElem?_toArray, List.getElem?_cons_zero, List.getElem?_cons_succ]; rfl) (by kernel_rfl) (by kernel_rfl) (by kernel_rfl) (by kernel_rfl) (fun _ _ _ h => h) (Or.inl ⟨by rfl, by intro W' hW; obtain ⟨q0, q1, q2, q3, q4, q5⟩ := hW; go_simp⟩) hS ?_
                  try simp only [Act.put, List.setIfInBounds_toArray, List.set_cons_zero, List.set_cons_succ]
                  have hmk := HMk.out wd
                  obtain ⟨wv, hwv⟩ : ∃ y, wd.alloc (.cells (madeCells #[.string ⟨#[]⟩, .bool false, .int .i64 0] (n4 * 3)) 75) = y := ⟨_, rfl⟩
                  obtain ⟨VB, hVB⟩ : ∃ y, wd.heap.size = y := ⟨_, rfl⟩
                  have HBv : Hid (Below w4.heap.size w4 wv) := by show Below _ _ _; rw [← hwv]; exact HD.out.trans ((Below.refl _ _).alloc HD.out.size _)
                  have HVr : Hid (VrIs wv wv.heap.size (List.replicate n4 zV) (.slice (some ⟨VB, 0, none⟩) n4 n4)) := by
                    have h1 := vars_zero wd n4 (by omega)
                    rw [hwv, hVB] at h1
                    have h2 : wv.heap.size = wd.heap.size + 1 := by rw [← hwv]; simp
                    rw [h2, hVB]; exact h1
                  rw [hwv, hVB] at hmk
                  have HFt := keep (rfits_any wv.heap.size (List.replicate n4 zV) f.arrs _ _ (.slice none 0 0) ws aa _ wv (Nat.le_refl _) HVr.out (VrIs_mono (HIn.out wv HBv.out).2.1.arrs (HIn.out wv HBv.out).1) ⟨_, _, _, rfl⟩ (GvIs_mono (HIn.out wv HBv.out).2.2.1 (HIn.out wv HBv.out).1) (fun _ _ j _ => by have h1 := sumL_le aa j; have h2 := HT1.out; omega))
                  clear hwv hVB
                  refine Ord.wpM_one (i := 13) (by kernel_rfl) (by simp only [List.getElem?_toArray, List.getElem?_cons_zero, List.getElem?_cons_succ]; rfl) (fun K hK => ?_)
                  go_simp
                  refine hK.out _ _ (fun _ => HSS.out wv HBv.out) ?_
                  clear hK K hmk
                  try simp only [Act.put, List.setIfInBounds_toArray, List.set_cons_zero, List.set_cons_succ]
                  have hS := HSS.out wv HBv.out
                  refine Ord.wpM_take (i := 16) (v := .agg #[.slice (some ⟨VB, 0, none⟩) n4 n4, .slice p3 n3 c3, .slice none 0 0]) (by simp only [List.getElem?_toArray, List.getElem?_cons_zero, List.getElem?_cons_succ]; rfl) (by kernel_rfl) (by kernel_rfl) (by kernel_rfl) (by kernel_rfl) (fun _ _ _ h => h) (Or.inl ⟨by rfl, by intro W' hW; obtain ⟨q0, q1, q2, q3, q4, q5⟩ := hW; go_simp⟩) hS ?_
                  try simp only [Act.put, List.setIfInBounds_toArray, List.set_cons_zero, List.set_cons_succ]
                  refine Ord.wpM_one (i := 18) (by kernel_rfl) (by simp only [List.getElem?_toArray, List.getElem?_cons_zero, List.getElem?_cons_succ]; rfl) (fun K hK => ?_)
                  go_simp
                  refine HFt.out.mono ?_
                  rintro r wf ⟨cc, rfl, hcc, hbf⟩
                  have HBf := keep (HBv.out.trans (hbf.mono HBv.out.size))
                  clear hbf HFt
                  go_simp
                  refine hK.out _ _ (fun _ => HSS.out wf HBf.out) ?_
                  clear hK K
                  try simp only [Act.put, List.setIfInBounds_toArray, List.set_cons_zero, List.set_cons_succ]
                  have hS := HSS.out wf HBf.out
                  cases hcc with
                  | many hh =>
                    refine Ord.wpM_take (i := 19) (v := .bool true) (by simp only [List.getElem?_toArray, List.getElem?_cons_zero, List.getElem?_cons_succ]; rfl) (by kernel_rfl) (by kernel_rfl) (by kernel_rfl) (by kernel_rfl) (fun _ _ _ h => h) (Or.inl ⟨by rfl, by intro W' hW; obtain ⟨q0, q1, q2, q3, q4, q5⟩ := hW; go_simp⟩) hS ?_
                    try simp only [Act.put, List.setIfInBounds_toArray, List.set_cons_zero, List.set_cons_succ]
                    refine Ord.wpM_take (i := 20) (v := .bool true) (by simp only [List.getElem?_toArray, List.getElem?_cons_zero, List.getElem?_cons_succ]; rfl) (by kernel_rfl) (by kernel_rfl) (by kernel_rfl) (by kernel_rfl) (fun _ _ _ h => h) (Or.inl ⟨by rfl, by intro W' hW; obtain ⟨q0, q1, q2, q3, q4, q5⟩ := hW; go_simp⟩) hS ?_
                    try simp only [Act.put, List.setIfInBounds_toArray, List.set_cons_zero, List.set_cons_succ]
                    refine Ord.wpM_done (by kernel_rfl) ?_ _
                    refine NoPanic.normal ?_
                    clear HSS hS
                    go_wp2
                    go_ret
                    exact ⟨rfl, HBw.out _ HBf.out⟩
                  | range hh1 hh2 =>
                    refine Ord.wpM_take (i := 19) (v := .bool true) (by simp only [List.getElem?_toArray, List.getElem?_cons_zero, List.getElem?_cons_succ]; rfl) (by kernel_rfl) (by kernel_rfl) (by kernel_rfl) (by kernel_rfl) (fun _ _ _ h => h) (Or.inl ⟨by rfl, by intro W' hW; obtain ⟨q0, q1, q2, q3, q4, q5⟩ := hW; go_simp⟩) hS ?_
                    try simp only [Act.put, List.setIfInBounds_toArray, List.set_cons_zero, List.set_cons_succ]
                    refine Ord.wpM_take (i := 20) (v := .bool true) (by simp only [List.getElem?_toArray, List.getElem?_cons_zero, List.getElem?_cons_succ]; rfl) (by kernel_rfl) (by kernel_rfl) (by kernel_rfl) (by kernel_rfl) (fun _ _ _ h => h) (Or.inl ⟨by rfl, by intro W' hW; obtain ⟨q0, q1, q2, q3, q4, q5⟩ := hW; go_simp⟩) hS ?_
                    try simp only [Act.put, List.setIfInBounds_toArray, List.set_cons_zero, List.set_cons_succ]
                    refine Ord.wpM_done (by kernel_rfl) ?_ _
                    refine NoPanic.normal ?_
                    clear HSS hS
                    go_wp2
                    go_ret
                    exact ⟨rfl, HBw.out _ HBf.out⟩
                  | ok hh1 hh2 =>
                    refine Ord.wpM_take (i := 19) (v := .bool false) (by simp only [List.getElem?_toArray, List.getElem?_cons_zero, List.getElem?_cons_succ]; rfl) (by kernel_rfl) (by kernel_rfl) (by kernel_rfl) (by kernel_rfl) (fun _ _ _ h => h) (Or.inl ⟨by rfl, by intro W' hW; obtain ⟨q0, q1, q2, q3, q4, q5⟩ := hW; go_simp⟩) hS ?_
                    try simp only [Act.put, List.setIfInBounds_toArray, List.set_cons_zero, List.set_cons_succ]
                    refine Ord.wpM_take (i := 20) (v := .bool false) (by simp only [List.getElem?_toArray, List.getElem?_cons_zero, List.getElem?_cons_succ]; rfl) (by kernel_rfl) (by kernel_rfl) (by kernel_rfl) (by kernel_rfl) (fun _ _ _ h => h) (Or.inl ⟨by rfl, by intro W' hW; obtain ⟨q0, q1, q2, q3, q4, q5⟩ := hW; go_simp⟩) hS ?_
                    try simp only [Act.put, List.setIfInBounds_toArray, List.set_cons_zero, List.set_cons_succ]
                    refine Ord.wpM_done (by kernel_rfl) ?_ _
                    refine NoPanic.normal ?_
                    clear HSS hS
                    have HSh : Hid (Shape (List.replicate f.params.toNat zV) f.arrs ws aa) := by show Shape _ _ _ _; rw [HPr.out, Int.toNat_natCast]; exact hh1
                    have HAW := keep hh2
                    clear hh1 hh2
                    clear f0 f1 f2 f3 g0 g1
                    obtain ⟨kF, kG, kX⟩ := HBx.out wf HBf.out
                    have f0 := kF.cell 0 rfl
                    have f1 := kF.cell 1 rfl
                    have f2 := kF.cell 2 rfl
                    have f3 := kF.cell 3 rfl
                    have g0 := kG.cell 0 rfl
                    have g1 := kG.cell 1 rfl
                    clear kF kG kX
                    have HT9 := keep (HTk.out wf HBf.out)
                    obtain ⟨i1, i2, i3, i4⟩ := HIn.out wf HBf.out
                    have HPm : Hid (f.sec.length ≤ 17592186044416 ∧ f.params ≤ 8796093022208) := ⟨by have := HN.out; omega, by have h1 := HN.out; have h2 := HR.out.p1; omega⟩
                    have HSu : Hid (sumL aa ≤ 1048576) := by have := HT1.out; show _ ≤ _; omega
                    have HRn := keep (run_any B f T _ _ _ ws aa _ wf i1 i2 i3 HC0.out HTR.out.t7 HPm.out.1 HPm.out.2 HSh.out HAW.out HSu.out)
                    unfold fxA at HRn
                    rw [HPr.out] at HRn
                    clear i1 i2 i3 i4
                    go_wp2_with (first | refine Tb.load_tab rfl _ rfl TB rfl T HT9.out ?_ | fail)
                    refine HRn.out.mono ?_
                    rintro r w9 ⟨ls, e, v, sA, hr1, rfl, hlk1, har1, hb9⟩
                    obtain ⟨pl, cl, rfl⟩ := lks_slice hlk1
                    obtain ⟨pa, na, ca, rfl⟩ := har1.slice
                    have HB9 := keep (HBf.out.trans (hb9.mono HBf.out.size))
                    obtain ⟨w10, hw10⟩ : ∃ y, w9.alloc (.cells #[.int .i64 e.word, .bool e.trap, .slice pa na ca] 51) = y := ⟨_, rfl⟩
                    obtain ⟨E1, hE1⟩ : ∃ y, w9.heap.size = y := ⟨_, rfl⟩
                    have hb10 : Below w9.heap.size w9 w10 := by rw [← hw10]; exact (Below.refl _ _).alloc (Nat.le_refl _) _
                    have kE1 : Bk w10 E1 [.int .i64 e.word, .bool e.trap, .slice pa na ca] 51 := by rw [← hw10, ← hE1]; exact Bk.new _ _ _
                    have HB10 := keep (HB9.out.trans (hb10.mono HB9.out.size))
                    have HLk1 := keep (hlk1.below hb10)
                    have HAr1 := keep (har1.below hb10)
                    have HL1s : Hid (w9.heap.size ≤ w10.heap.size) := hb10.size
                    have HRu1 := keep hr1
                    have HW10 := keep hw10
                    have HE1 := keep hE1
                    have HkE1 := keep kE1
                    clear hb9 HRn hr1 hlk1 har1 hw10 hE1 hb10 HT9 kE1 f0 f1 f2 f3 g0 g1
                    obtain ⟨kF, kG, kX⟩ := HBx.out w10 HB10.out
                    have f0 := kF.cell 0 rfl
                    have f1 := kF.cell 1 rfl
                    have f2 := kF.cell 2 rfl
                    have f3 := kF.cell 3 rfl
                    have g0 := kG.cell 0 rfl
                    have g1 := kG.cell 1 rfl
                    clear kF kG kX
                    have HT10 := keep (HTk.out w10 HB10.out)
                    obtain ⟨i1, i2, i3, i4⟩ := HIn.out w10 HB10.out
                    have HRn := keep (rrun_any B f T _ _ _ ws aa _ w10 i1 i2 i3 HC0.out HTR.out HPm.out.1 HSh.out HAW.out HSu.out (by have h1 := HSh.out.a; have h2 := HNa.out; omega))
                    unfold fxA at HRn
                    rw [HPr.out] at HRn
                    clear i1 i2 i3 i4
                    go_wp2_with (first | rw [HW10.out, HE1.out] | refine Tb.load_tab rfl _ rfl TB rfl T HT10.out ?_ | fail)
                    refine HRn.out.mono ?_
                    rintro r w11 ⟨ls', e', v', sA', hr2, rfl, hlk2, har2, hb11⟩
                    obtain ⟨rfl, rfl⟩ := runs_det HRu1.out hr2
                    obtain ⟨pl', cl', rfl⟩ := lks_slice hlk2
                    obtain ⟨pa', na', ca', rfl⟩ := har2.slice
                    have HB11 := keep (HB10.out.trans (hb11.mono HB10.out.size))
                    obtain ⟨w12, hw12⟩ : ∃ y, w11.alloc (.cells #[.int .i64 e.word, .bool e.trap, .slice pa' na' ca'] 51) = y := ⟨_, rfl⟩
                    obtain ⟨E2, hE2⟩ : ∃ y, w11.heap.size = y := ⟨_, rfl⟩
                    have hb12 : Below w11.heap.size w11 w12 := by rw [← hw12]; exact (Below.refl _ _).alloc (Nat.le_refl _) _
                    have kE2 : Bk w12 E2 [.int .i64 e.word, .bool e.trap, .slice pa' na' ca'] 51 := by rw [← hw12, ← hE2]; exact Bk.new _ _ _
                    have HB12 := keep (HB11.out.trans (hb12.mono HB11.out.size))
                    have hb1112 : Below w10.heap.size w10 w12 := hb11.trans (hb12.mono hb11.size)
                    have kE1 := HkE1.out.fs (Fs.of_below (l := []) hb1112) (by simp)
                    have e0 := kE1.cell 0 rfl
                    have e1 := kE1.cell 1 rfl
                    have e2 := kE1.cell 2 rfl
                    have e3 := kE2.cell 0 rfl
                    have e4 := kE2.cell 1 rfl
                    have e5 := kE2.cell 2 rfl
                    have HSe := keep (sameEnded_any w12.heap.size e _ _ w12 (Nat.le_refl _) (ArrsIs_mono (HAr1.out.below (hb1112.mono HL1s.out)) (by have h1 := hb1112.size; have h3 := HL1s.out; omega)) (ArrsIs_mono (har2.below hb12) hb12.size))
                    have HSl := keep (fun W (hW : Below w12.heap.size w12 W) => sameLeaks_any W.heap.size ls _ _ W (Nat.le_refl _) ((HLk1.out.below ((hb1112.trans (hW.mono hb1112.size)).mono HL1s.out)).mono (by have h1 := hb1112.size; have h2 := hW.size; have h3 := HL1s.out; omega)) ((hlk2.below (hb12.trans (hW.mono hb12.size))).mono (by have h1 := hb12.size; have h2 := hW.size; omega)))
                    have HW12 := keep hw12
                    have HE2 := keep hE2
                    clear HRn hr2 hlk2 har2 hb11 hw12 hE2 hb12 HT10 hb1112 kE1 kE2 f0 f1 f2 f3 g0 g1
                    go_wp2_with (first | rw [HW12.out, HE2.out] | fail)
                    refine HSe.out.mono ?_
                    rintro r w13 ⟨rfl, hb13⟩
                    have HB13 := keep (HB12.out.trans (hb13.mono HB12.out.size))
                    have HSl2 := keep (HSl.out w13 hb13)
                    clear hb13 HSl HSe e0 e1 e2 e3 e4 e5
                    go_wp2_with fail
                    refine HSl2.out.mono ?_
                    rintro r w14 ⟨rfl, hb14⟩
                    have HB14 := keep (HB13.out.trans (hb14.mono HB13.out.size))
                    clear hb14 HSl2
                    go_wp2
                    go_ret
                    exact ⟨rfl, HBw.out _ HB14.out⟩
                · have hnn : ((n4 : Int) != pr) = true := by rw [bne_iff_ne]; exact hw0
                  clear hw0
                  go_wp2
                  go_quiet (fail)
                  go_wp2
                  go_ret
                  exact ⟨rfl, HBw.out _ (HBs.out.trans ((below_drewN (Below.refl _ _) nq).mono HBs.out.size))⟩
              · have hcn : (k1 != 0) = true := by rw [bne_iff_ne]; exact hc1
                clear hc1
                go_wp2
                go_quiet (fail)
                go_wp2
                go_ret
                exact ⟨rfl, HBw.out _ (HBs.out.trans ((below_drewN (Below.refl _ _) nq).mono HBs.out.size))⟩
            | true =>
              have HRng := keep (okP_rds (i := ⟨op, d, a, b, c, imm⟩) HQ.out)
              go_wp2_with fail
              have HSS : Hid (∀ W', Below w4.heap.size w4 W' → Tb.Blk W' TB T ∧ W'.cell? ⟨X, 0, none⟩ = some (.int .i64 op) ∧ W'.cell? ⟨X, 1, none⟩ = some (.int .i64 d) ∧ W'.cell? ⟨X, 2, none⟩ = some (.int .i64 a) ∧ W'.cell? ⟨X, 3, none⟩ = some (.int .i64 b) ∧ W'.cell? ⟨X, 4, none⟩ = some (.int .i64 c) ∧ W'.cell? ⟨X, 5, none⟩ = some (.int .i64 imm)) := fun W' hW => by
                obtain ⟨kF, kG, kX⟩ := HBx.out W' hW
                exact ⟨HTk.out W' hW, kX.cell 0 rfl, kX.cell 1 rfl, kX.cell 2 rfl, kX.cell 3 rfl, kX.cell 4 rfl, kX.cell 5 rfl⟩
              refine wp_region_noPanic ?_
              refine Ord.wpM_begin (fun W' : World => Tb.Blk W' TB T ∧ W'.cell? ⟨X, 0, none⟩ = some (.int .i64 op) ∧ W'.cell? ⟨X, 1, none⟩ = some (.int .i64 d) ∧ W'.cell? ⟨X, 2, none⟩ = some (.int .i64 a) ∧ W'.cell? ⟨X, 3, none⟩ = some (.int .i64 b) ∧ W'.cell? ⟨X, 4, none⟩ = some (.int .i64 c) ∧ W'.cell? ⟨X, 5, none⟩ = some (.int .i64 imm)) [0, 1, 2, 3, 4, 5, 6, 7, 8, 9, 10, 11, 12, 13, 14] (by kernel_rfl) ?_
              have HD : Hid (Below w4.heap.size w4 wr.drew) := HB8.out.trans ((Below.drew (Below.refl _ _)).mono HB8.out.size)
              generalize wr.drew = wd at *
              have hS := HSS.out wd HD.out
              refine Ord.wpM_take (i := 0) (v := .bool true) (by simp only [List.getElem?_toArray, List.getElem?_cons_zero, List.getElem?_cons_succ]; rfl) (by kernel_rfl) (by kernel_rfl) (by kernel_rfl) (by kernel_rfl) (fun _ _ _ h => h) (Or.inl ⟨by rfl, by intro W' hW; obtain ⟨q0, q1, q2, q3, q4, q5, q6⟩ := hW; go_simp⟩) hS ?_
              try simp only [Act.put, List.setIfInBounds_toArray, List.set_cons_zero, List.set_cons_succ]
              refine Ord.wpM_take (i := 1) (v := .bool true) (by simp only [List.getElem?_toArray, List.getElem?_cons_zero, List.getElem?_cons_succ]; rfl) (by kernel_rfl) (by kernel_rfl) (by kernel_rfl) (by kernel_rfl) (fun _ _ _ h => h) (Or.inl ⟨by rfl, by intro W' hW; obtain ⟨q0, q1, q2, q3, q4, q5, q6⟩ := hW; go_simp⟩) hS ?_
              try simp only [Act.put, List.setIfInBounds_toArray, List.set_cons_zero, List.set_cons_succ]
              refine Ord.wpM_take (i := 2) (v := .agg (Tb.tabA T)) (by simp only [List.getElem?_toArray, List.getElem?_cons_zero, List.getElem?_cons_succ]; rfl) (by kernel_rfl) (by kernel_rfl) (by kernel_rfl) (by kernel_rfl) (fun _ _ _ h => h) (tab_yieldsG (by rfl) (.tmp 7) rfl TB rfl T (fun W hW => hW.1)) hS ?_
              try simp only [Act.put, List.setIfInBounds_toArray, List.set_cons_zero, List.set_cons_succ]
              refine Ord.wpM_take (i := 3) (v := .agg #[.int .i64 op, .int .i64 d, .int .i64 a, .int .i64 b, .int .i64 c, .int .i64 imm]) (by simp only [List.getElem?_toArray, List.getElem?_cons_zero, List.getElem?_cons_succ]; rfl) (by kernel_rfl) (by kernel_rfl) (by kernel_rfl) (by kernel_rfl) (fun _ _ _ h => h) (Or.inl ⟨by rfl, by intro W' hW; obtain ⟨q0, q1, q2, q3, q4, q5, q6⟩ := hW; go_simp⟩) hS ?_
              try simp only [Act.put, List.setIfInBounds_toArray, List.set_cons_zero, List.set_cons_succ]
              refine Ord.wpM_take (i := 4) (v := .slice pv nv cv) (by simp only [List.getElem?_toArray, List.getElem?_cons_zero, List.getElem?_cons_succ]; rfl) (by kernel_rfl) (by kernel_rfl) (by kernel_rfl) (by kernel_rfl) (fun _ _ _ h => h) (Or.inl ⟨by rfl, by intro W' hW; obtain ⟨q0, q1, q2, q3, q4, q5, q6⟩ := hW; go_simp⟩) hS ?_
              try simp only [Act.put, List.setIfInBounds_toArray, List.set_cons_zero, List.set_cons_succ]
              refine Ord.wpM_take (i := 5) (v := .bool all) (by simp only [List.getElem?_toArray, List.getElem?_cons_zero, List.getElem?_cons_succ]; rfl) (by kernel_rfl) (by kernel_rfl) (by kernel_rfl) (by kernel_rfl) (fun _ _ _ h => h) (Or.inl ⟨by rfl, by intro W' hW; obtain ⟨q0, q1, q2, q3, q4, q5, q6⟩ := hW; go_simp⟩) hS ?_
              try simp only [Act.put, List.setIfInBounds_toArray, List.set_cons_zero, List.set_cons_succ]
              refine Ord.wpM_take (i := 7) (v := .agg (Tb.tabA T)) (by simp only [List.getElem?_toArray, List.getElem?_cons_zero, List.getElem?_cons_succ]; rfl) (by kernel_rfl) (by kernel_rfl) (by kernel_rfl) (by kernel_rfl) (fun _ _ _ h => h) (tab_yieldsG (by rfl) (.tmp 7) rfl TB rfl T (fun W hW => hW.1)) hS ?_
              try simp only [Act.put, List.setIfInBounds_toArray, List.set_cons_zero, List.set_cons_succ]
              refine Ord.wpM_take (i := 8) (v := .agg #[.int .i64 op, .int .i64 d, .int .i64 a, .int .i64 b, .int .i64 c, .int .i64 imm]) (by simp only [List.getElem?_toArray, List.getElem?_cons_zero, List.getElem?_cons_succ]; rfl) (by kernel_rfl) (by kernel_rfl) (by kernel_rfl) (by kernel_rfl) (fun _ _ _ h => h) (Or.inl ⟨by rfl, by intro W' hW; obtain ⟨q0, q1, q2, q3, q4, q5, q6⟩ := hW; go_simp⟩) hS ?_
              try simp only [Act.put, List.setIfInBounds_toArray, List.set_cons_zero, List.set_cons_succ]
              refine Ord.wpM_take (i := 9) (v := .slice pv nv cv) (by simp only [List.getElem?_toArray, List.getElem?_cons_zero, List.getElem?_cons_succ]; rfl) (by kernel_rfl) (by kernel_rfl) (by kernel_rfl) (by kernel_rfl) (fun _ _ _ h => h) (Or.inl ⟨by rfl, by intro W' hW; obtain ⟨q0, q1, q2, q3, q4, q5, q6⟩ := hW; go_simp⟩) hS ?_
              try simp only [Act.put, List.setIfInBounds_toArray, List.set_cons_zero, List.set_cons_succ]
              refine Ord.wpM_take (i := 10) (v := .bool all) (by simp only [List.getElem?_toArray, List.getElem?_cons_zero, List.getElem?_cons_succ]; rfl) (by kernel_rfl) (by kernel_rfl) (by kernel_rfl) (by kernel_rfl) (fun _ _ _ h => h) (Or.inl ⟨by rfl, by intro W' hW; obtain ⟨q0, q1, q2, q3, q4, q5, q6⟩ := hW; go_simp⟩) hS ?_
              try simp only [Act.put, List.setIfInBounds_toArray, List.set_cons_zero, List.set_cons_succ]
              have HC := keep (seen_any B T ⟨op, d, a, b, c, imm⟩ P _ all wd (HIn.out wd HD.out).1 (HIn.out wd HD.out).2.2.2 (bits_7 HTR.out))
              unfold ixA at HC
              dsimp only at HC
              refine Ord.wpM_one (i := 6) (by kernel_rfl) (by simp only [List.getElem?_toArray, List.getElem?_cons_zero, List.getElem?_cons_succ]; rfl) (fun K hK => ?_)
              go_simp
              refine HC.out.mono ?_
              rintro r wA ⟨v, rfl, hv1, hbA⟩
              obtain ⟨q4, m4, e4, rfl⟩ := RowX.slice hv1
              have HBA := keep (HD.out.trans (hbA.mono HD.out.size))
              have hvl := valsW_len (bitsG T op all) P (rds ⟨op, d, a, b, c, imm⟩) 0
              have hrl := rds_len ⟨op, d, a, b, c, imm⟩
              have HV1 := keep (Lr.RowI.ints hv1 (by dsimp only; omega))
              clear hbA HC hv1 hvl hrl
              refine hK.out _ _ (fun _ => HSS.out _ (HBA.out)) ?_
              clear hK K
              try simp only [Act.put, List.setIfInBounds_toArray, List.set_cons_zero, List.set_cons_succ]
              have HC := keep (rseen_any B T ⟨op, d, a, b, c, imm⟩ P _ all wA (HIn.out wA HBA.out).1 (HIn.out wA HBA.out).2.2.2 HTR.out (by rw [HNv.out]; exact HRng.out))
              unfold ixA at HC
              dsimp only at HC
              refine Ord.wpM_one (i := 11) (by kernel_rfl) (by simp only [List.getElem?_toArray, List.getElem?_cons_zero, List.getElem?_cons_succ]; rfl) (fun K hK => ?_)
              go_simp
              refine HC.out.mono ?_
              rintro r wB ⟨v, rfl, hv2, hbB⟩
              obtain ⟨q5, m5, e5, hsv, _⟩ := id hv2
              subst hsv
              have HBB := keep (HBA.out.trans (hbB.mono HBA.out.size))
              have HC2 := keep (sameInts_any wB.heap.size _ _ _ _ wB (Nat.le_refl _) ((HV1.out.below hbB).mono hbB.size) (hv2.ints (fun i hi => hi.2)))
              clear hbB HC hv2 HV1
              refine hK.out _ _ (fun _ => HSS.out _ (HBB.out)) ?_
              clear hK K
              try simp only [Act.put, List.setIfInBounds_toArray, List.set_cons_zero, List.set_cons_succ]
              refine Ord.wpM_one (i := 12) (by kernel_rfl) (by simp only [List.getElem?_toArray, List.getElem?_cons_zero, List.getElem?_cons_succ]; rfl) (fun K hK => ?_)
              go_simp
              refine HC2.out.mono ?_
              rintro r wE ⟨q, rfl, hq, hbE⟩
              obtain rfl : q = true := hq.2 (by first | rfl | trivial)
              have HBs := keep (HBB.out.trans (hbE.mono HBB.out.size))
              clear hbE HC2 hq
              go_simp
              refine hK.out _ _ (fun _ => HSS.out _ (HBs.out)) ?_
              clear hK K
              try simp only [Act.put, List.setIfInBounds_toArray, List.set_cons_zero, List.set_cons_succ]
              have hS := HSS.out _ HBs.out
              refine Ord.wpM_take (i := 13) (v := .bool false) (by simp only [List.getElem?_toArray, List.getElem?_cons_zero, List.getElem?_cons_succ]; rfl) (by kernel_rfl) (by kernel_rfl) (by kernel_rfl) (by kernel_rfl) (fun _ _ _ h => h) (Or.inl ⟨by rfl, by intro W' hW; obtain ⟨q0, q1, q2, q3, q4, q5, q6⟩ := hW; go_simp⟩) hS ?_
              try simp only [Act.put, List.setIfInBounds_toArray, List.set_cons_zero, List.set_cons_succ]
              refine Ord.wpM_take (i := 14) (v := .bool false) (by simp only [List.getElem?_toArray, List.getElem?_cons_zero, List.getElem?_cons_succ]; rfl) (by kernel_rfl) (by kernel_rfl) (by kernel_rfl) (by kernel_rfl) (fun _ _ _ h => h) (Or.inl ⟨by rfl, by intro W' hW; obtain ⟨q0, q1, q2, q3, q4, q5, q6⟩ := hW; go_simp⟩) hS ?_
              try simp only [Act.put, List.setIfInBounds_toArray, List.set_cons_zero, List.set_cons_succ]
              refine Ord.wpM_done (by kernel_rfl) ?_ _
              refine NoPanic.normal ?_
              clear HSS hS HD HBA HBB
              generalize wE = ws0 at *
              obtain ⟨kF, kG, kX⟩ := HBx.out ws0 HBs.out
              have f0 := kF.cell 0 rfl
              have f1 := kF.cell 1 rfl
              have f2 := kF.cell 2 rfl
              have f3 := kF.cell 3 rfl
              have g0 := kG.cell 0 rfl
              have g1 := kG.cell 1 rfl
              clear kF kG kX
              by_cases hc1 : k1 = 0
              · subst hc1
                have hck := check_zero HK1.out
                have HC0 := keep hck
                have HR := keep (right_of (f := f) HK1.out)
                clear hck
                by_cases hw0 : (n4 : Int) = pr
                · have hp0 : 0 ≤ pr := by have := HR.out.p0; have := HPr.out; omega
                  subst hw0
                  have hmm : n4 ≤ 1048576 := by have h1 := HR.out.p1; have h2 := HPr.out; have h3 := HN.out; omega
                  have HMk := keep (fun W => make_vars n4 (by omega) W)
                  have hmz : (0 : Int) ≤ (n4 : Int) := by omega
                  have HSS : Hid (∀ W', Below w4.heap.size w4 W' → W'.cell? ⟨F, 0, none⟩ = some (.slice p1 n1 c1) ∧ W'.cell? ⟨F, 1, none⟩ = some (.slice p2 n2 c2) ∧ W'.cell? ⟨F, 2, none⟩ = some (.int .i64 (n4 : Int)) ∧ W'.cell? ⟨F, 3, none⟩ = some (.slice p3 n3 c3) ∧ W'.cell? ⟨G, 0, none⟩ = some (.slice p4 n4 c4) ∧ W'.cell? ⟨G, 1, none⟩ = some (.slice p5 n5 c5)) := fun W' hW => by
                    obtain ⟨kF, kG, kX⟩ := HBx.out W' hW
                    exact ⟨kF.cell 0 rfl, kF.cell 1 rfl, kF.cell 2 rfl, kF.cell 3 rfl, kG.cell 0 rfl, kG.cell 1 rfl⟩
                  go_wp2_with fail
                  refine wp_region_noPanic ?_
                  refine Ord.wpM_begin (fun W' : World => W'.cell? ⟨F, 0, none⟩ = some (.slice p1 n1 c1) ∧ W'.cell? ⟨F, 1, none⟩ = some (.slice p2 n2 c2) ∧ W'.cell? ⟨F, 2, none⟩ = some (.int .i64 (n4 : Int)) ∧ W'.cell? ⟨F, 3, none⟩ = some (.slice p3 n3 c3) ∧ W'.cell? ⟨G, 0, none⟩ = some (.slice p4 n4 c4) ∧ W'.cell? ⟨G, 1, none⟩ = some (.slice p5 n5 c5)) [0, 1, 2, 3, 4, 5, 6, 7, 8, 9, 10, 11, 12, 13, 14, 15, 16, 17, 18, 19, 20] (by kernel_rfl) ?_
                  have HD : Hid (Below w4.heap.size w4 ws0.drew) := HBs.out.trans ((Below.drew (Below.refl _ _)).mono HBs.out.size)
                  generalize ws0.drew = wd at *
                  have hS := HSS.out wd HD.out
                  refine Ord.wpM_take (i := 0) (v := .int .i64 0) (by simp only [List.getElem?_toArray, List.getElem?_cons_zero, List.getElem?_cons_succ]; rfl) (by kernel_rfl) (by kernel_rfl) (by kernel_rfl) (by kernel_rfl) (fun _ _ _ h => h) (Or.inl ⟨by rfl, by intro W' hW; obtain ⟨q0, q1, q2, q3, q4, q5⟩ := hW; go_simp⟩) hS ?_
                  try simp only [Act.put, List.setIfInBounds_toArray, List.set_cons_zero, List.set_cons_succ]
                  refine Ord.wpM_take (i := 1) (v := .bool false) (by simp only [List.getElem?_toArray, List.getElem?_cons_zero, List.getElem?_cons_succ]; rfl) (by kernel_rfl) (by kernel_rfl) (by kernel_rfl) (by kernel_rfl) (fun _ _ _ h => h) (Or.inl ⟨by rfl, by intro W' hW; obtain ⟨q0, q1, q2, q3, q4, q5⟩ := hW; go_simp⟩) hS ?_
                  try simp only [Act.put, List.setIfInBounds_toArray, List.set_cons_zero, List.set_cons_succ]
                  refine Ord.wpM_take (i := 2) (v := .bool false) (by simp only [List.getElem?_toArray, List.getElem?_cons_zero, List.getElem?_cons_succ]; rfl) (by kernel_rfl) (by kernel_rfl) (by kernel_rfl) (by kernel_rfl) (fun _ _ _ h => h) (Or.inl ⟨by rfl, by intro W' hW; obtain ⟨q0, q1, q2, q3, q4, q5⟩ := hW; go_simp⟩) hS ?_
                  try simp only [Act.put, List.setIfInBounds_toArray, List.set_cons_zero, List.set_cons_succ]
                  refine Ord.wpM_take (i := 3) (v := .pointer (some ⟨G, 0, none⟩)) (by simp only [List.getElem?_toArray, List.getElem?_cons_zero, List.getElem?_cons_succ]; rfl) (by kernel_rfl) (by kernel_rfl) (by kernel_rfl) (by kernel_rfl) (fun _ _ _ h => h) (Or.inl ⟨by rfl, by intro W' hW; obtain ⟨q0, q1, q2, q3, q4, q5⟩ := hW; go_simp⟩) hS ?_
                  try simp only [Act.put, List.setIfInBounds_toArray, List.set_cons_zero, List.set_cons_succ]
                  refine Ord.wpM_take (i := 4) (v := .slice p4 n4 c4) (by simp only [List.getElem?_toArray, List.getElem?_cons_zero, List.getElem?_cons_succ]; rfl) (by kernel_rfl) (by kernel_rfl) (by kernel_rfl) (by kernel_rfl) (fun _ _ _ h => h) (Or.inl ⟨by rfl, by intro W' hW; obtain ⟨q0, q1, q2, q3, q4, q5⟩ := hW; go_simp⟩) hS ?_
                  try simp only [Act.put, List.setIfInBounds_toArray, List.set_cons_zero, List.set_cons_succ]
                  refine Ord.wpM_take (i := 5) (v := .int .i64 (n4 : Int)) (by simp only [List.getElem?_toArray, List.getElem?_cons_zero, List.getElem?_cons_succ]; rfl) (by kernel_rfl) (by kernel_rfl) (by kernel_rfl) (by kernel_rfl) (fun _ _ _ h => h) (Or.inl ⟨by rfl, by intro W' hW; obtain ⟨q0, q1, q2, q3, q4, q5⟩ := hW; go_simp⟩) hS ?_
                  try simp only [Act.put, List.setIfInBounds_toArray, List.set_cons_zero, List.set_cons_succ]
                  refine Ord.wpM_take (i := 6) (v := .pointer (some ⟨F, 2, none⟩)) (by simp only [List.getElem?_toArray, List.getElem?_cons_zero, List.getElem?_cons_succ]; rfl) (by kernel_rfl) (by kernel_rfl) (by kernel_rfl) (by kernel_rfl) (fun _ _ _ h => h) (Or.inl ⟨by rfl, by intro W' hW; obtain ⟨q0, q1, q2, q3, q4, q5⟩ := hW; go_simp⟩) hS ?_
                  try simp only [Act.put, List.setIfInBounds_toArray, List.set_cons_zero, List.set_cons_succ]
                  refine Ord.wpM_take (i := 7) (v := .int .i64 (n4 : Int)) (by simp only [List.getElem?_toArray, List.getElem?_cons_zero, List.getElem?_cons_succ]; rfl) (by kernel_rfl) (by kernel_rfl) (by kernel_rfl) (by kernel_rfl) (fun _ _ _ h => h) (Or.inl ⟨by rfl, by intro W' hW; obtain ⟨q0, q1, q2, q3, q4, q5⟩ := hW; go_simp⟩) hS ?_
                  try simp only [Act.put, List.setIfInBounds_toArray, List.set_cons_zero, List.set_cons_succ]
                  refine Ord.wpM_take (i := 8) (v := .bool false) (by simp only [List.getElem?_toArray, List.getElem?_cons_zero, List.getElem?_cons_succ]; rfl) (by kernel_rfl) (by kernel_rfl) (by kernel_rfl) (by kernel_rfl) (fun _ _ _ h => h) (Or.inl ⟨by rfl, by intro W' hW; obtain ⟨q0, q1, q2, q3, q4, q5⟩ := hW; go_simp⟩) hS ?_
                  try simp only [Act.put, List.setIfInBounds_toArray, List.set_cons_zero, List.set_cons_succ]
                  refine Ord.wpM_take (i := 9) (v := .bool false) (by simp only [List.getElem?_toArray, List.getElem?_cons_zero, List.getElem?_cons_succ]; rfl) (by kernel_rfl) (by kernel_rfl) (by kernel_rfl) (by kernel_rfl) (fun _ _ _ h => h) (Or.inl ⟨by rfl, by intro W' hW; obtain ⟨q0, q1, q2, q3, q4, q5⟩ := hW; go_simp⟩) hS ?_
                  try simp only [Act.put, List.setIfInBounds_toArray, List.set_cons_zero, List.set_cons_succ]
                  refine Ord.wpM_take (i := 10) (v := .bool false) (by simp only [List.getElem?_toArray, List.getElem?_cons_zero, List.getElem?_cons_succ]; rfl) (by kernel_rfl) (by kernel_rfl) (by kernel_rfl) (by kernel_rfl) (fun _ _ _ h => h) (Or.inl ⟨by rfl, by intro W' hW; obtain ⟨q0, q1, q2, q3, q4, q5⟩ := hW; go_simp⟩) hS ?_
                  try simp only [Act.put, List.setIfInBounds_toArray, List.set_cons_zero, List.set_cons_succ]
                  refine Ord.wpM_take (i := 11) (v := .pointer (some ⟨F, 2, none⟩)) (by simp only [List.getElem?_toArray, List.getElem?_cons_zero, List.getElem?_cons_succ]; rfl) (by kernel_rfl) (by kernel_rfl) (by kernel_rfl) (by kernel_rfl) (fun _ _ _ h => h) (Or.inl ⟨by rfl, by intro W' hW; obtain ⟨q0, q1, q2, q3, q4, q5⟩ := hW; go_simp⟩) hS ?_
                  try simp only [Act.put, List.setIfInBounds_toArray, List.set_cons_zero, List.set_cons_succ]
                  refine Ord.wpM_take (i := 12) (v := .int .i64 (n4 : Int)) (by simp only [List.getElem?_toArray, List.getElem?_cons_zero, List.getElem?_cons_succ]; rfl) (by kernel_rfl) (by kernel_rfl) (by kernel_rfl) (by kernel_rfl) (fun _ _ _ h => h) (Or.inl ⟨by rfl, by intro W' hW; obtain ⟨q0, q1, q2, q3, q4, q5⟩ := hW; go_simp⟩) hS ?_
                  try simp only [Act.put, List.setIfInBounds_toArray, List.set_cons_zero, List.set_cons_succ]
                  refine Ord.wpM_take (i := 14) (v := .pointer (some ⟨F, 3, none⟩)) (by simp only [List.getElem?_toArray, List.getElem?_cons_zero, List.getElem?_cons_succ]; rfl) (by kernel_rfl) (by kernel_rfl) (by kernel_rfl) (by kernel_rfl) (fun _ _ _ h => h) (Or.inl ⟨by rfl, by intro W' hW; obtain ⟨q0, q1, q2, q3, q4, q5⟩ := hW; go_simp⟩) hS ?_
                  try simp only [Act.put, List.setIfInBounds_toArray, List.set_cons_zero, List.set_cons_succ]
                  refine Ord.wpM_take (i := 15) (v := .slice p3 n3 c3) (by simp only [List.getElem?_toArray, List.getElem?_cons_zero, List.getElem?_cons_succ]; rfl) (by kernel_rfl) (by kernel_rfl) (by kernel_rfl) (by kernel_rfl) (fun _ _ _ h => h) (Or.inl ⟨by rfl, by intro W' hW; obtain ⟨q0, q1, q2, q3, q4, q5⟩ := hW; go_simp⟩) hS ?_
                  try simp only [Act.put, List.setIfInBounds_toArray, List.set_cons_zero, List.set_cons_succ]
                  refine Ord.wpM_take (i := 17) (v := .agg #[.slice p4 n4 c4, .slice p5 n5 c5]) (by simp only [List.getElem?_toArray, List.getElem?_cons_zero, List.getElem?_cons_succ]; rfl) (by kernel_rfl) (by kernel_rfl) (by kernel_rfl) (by kernel_rfl) (fun _ _ _ h => h) (Or.inl ⟨by rfl, by intro W' hW; obtain ⟨q0, q1, q2, q3, q4, q5⟩ := hW; go_simp⟩) hS ?_
                  try simp only [Act.put, List.setIfInBounds_toArray, List.set_cons_zero, List.set_cons_succ]
                  have hmk := HMk.out wd
                  obtain ⟨wv, hwv⟩ : ∃ y, wd.alloc (.cells (madeCells #[.string ⟨#[]⟩, .bool false, .int .i64 0] (n4 * 3)) 75) = y := ⟨_, rfl⟩
                  obtain ⟨VB, hVB⟩ : ∃ y, wd.heap.size = y := ⟨_, rfl⟩
                  have HBv : Hid (Below w4.heap.size w4 wv) := by show Below _ _ _; rw [← hwv]; exact HD.out.trans ((Below.refl _ _).alloc HD.out.size _)
                  have HVr : Hid (VrIs wv wv.heap.size (List.replicate n4 zV) (.slice (some ⟨VB, 0, none⟩) n4 n4)) := by
                    have h1 := vars_zero wd n4 (by omega)
                    rw [hwv, hVB] at h1
                    have h2 : wv.heap.size = wd.heap.size + 1 := by rw [← hwv]; simp
                    rw [h2, hVB]; exact h1
                  rw [hwv, hVB] at hmk
                  have HFt := keep (rfits_any wv.heap.size (List.replicate n4 zV) f.arrs _ _ (.slice none 0 0) ws aa _ wv (Nat.le_refl _) HVr.out (VrIs_mono (HIn.out wv HBv.out).2.1.arrs (HIn.out wv HBv.out).1) ⟨_, _, _, rfl⟩ (GvIs_mono (HIn.out wv HBv.out).2.2.1 (HIn.out wv HBv.out).1) (fun _ _ j _ => by have h1 := sumL_le aa j; have h2 := HT1.out; omega))
                  clear hwv hVB
                  refine Ord.wpM_one (i := 13) (by kernel_rfl) (by simp only [List.getElem?_toArray, List.getElem?_cons_zero, List.getElem?_cons_succ]; rfl) (fun K hK => ?_)
                  go_simp
                  refine hK.out _ _ (fun _ => HSS.out wv HBv.out) ?_
                  clear hK K hmk
                  try simp only [Act.put, List.setIfInBounds_toArray, List.set_cons_zero, List.set_cons_succ]
                  have hS := HSS.out wv HBv.out
                  refine Ord.wpM_take (i := 16) (v := .agg #[.slice (some ⟨VB, 0, none⟩) n4 n4, .slice p3 n3 c3, .slice none 0 0]) (by simp only [List.getElem?_toArray, List.getElem?_cons_zero, List.getElem?_cons_succ]; rfl) (by kernel_rfl) (by kernel_rfl) (by kernel_rfl) (by kernel_rfl) (fun _ _ _ h => h) (Or.inl ⟨by rfl, by intro W' hW; obtain ⟨q0, q1, q2, q3, q4, q5⟩ := hW; go_simp⟩) hS ?_
                  try simp only [Act.put, List.setIfInBounds_toArray, List.set_cons_zero, List.set_cons_succ]
                  refine Ord.wpM_one (i := 18) (by kernel_rfl) (by simp only [List.getElem?_toArray, List.getElem?_cons_zero, List.getElem?_cons_succ]; rfl) (fun K hK => ?_)
                  go_simp
                  refine HFt.out.mono ?_
                  rintro r wf ⟨cc, rfl, hcc, hbf⟩
                  have HBf := keep (HBv.out.trans (hbf.mono HBv.out.size))
                  clear hbf HFt
                  go_simp
                  refine hK.out _ _ (fun _ => HSS.out wf HBf.out) ?_
                  clear hK K
                  try simp only [Act.put, List.setIfInBounds_toArray, List.set_cons_zero, List.set_cons_succ]
                  have hS := HSS.out wf HBf.out
                  cases hcc with
                  | many hh =>
                    refine Ord.wpM_take (i := 19) (v := .bool true) (by simp only [List.getElem?_toArray, List.getElem?_cons_zero, List.getElem?_cons_succ]; rfl) (by kernel_rfl) (by kernel_rfl) (by kernel_rfl) (by kernel_rfl) (fun _ _ _ h => h) (Or.inl ⟨by rfl, by intro W' hW; obtain ⟨q0, q1, q2, q3, q4, q5⟩ := hW; go_simp⟩) hS ?_
                    try simp only [Act.put, List.setIfInBounds_toArray, List.set_cons_zero, List.set_cons_succ]
                    refine Ord.wpM_take (i := 20) (v := .bool true) (by simp only [List.getElem?_toArray, List.getElem?_cons_zero, List.getElem?_cons_succ]; rfl) (by kernel_rfl) (by kernel_rfl) (by kernel_rfl) (by kernel_rfl) (fun _ _ _ h => h) (Or.inl ⟨by rfl, by intro W' hW; obtain ⟨q0, q1, q2, q3, q4, q5⟩ := hW; go_simp⟩) hS ?_
                    try simp only [Act.put, List.setIfInBounds_toArray, List.set_cons_zero, List.set_cons_succ]
                    refine Ord.wpM_done (by kernel_rfl) ?_ _
                    refine NoPanic.normal ?_
                    clear HSS hS
                    go_wp2
                    go_ret
                    exact ⟨rfl, HBw.out _ HBf.out⟩
                  | range hh1 hh2 =>
                    refine Ord.wpM_take (i := 19) (v := .bool true) (by simp only [List.getElem?_toArray, List.getElem?_cons_zero, List.getElem?_cons_succ]; rfl) (by kernel_rfl) (by kernel_rfl) (by kernel_rfl) (by kernel_rfl) (fun _ _ _ h => h) (Or.inl ⟨by rfl, by intro W' hW; obtain ⟨q0, q1, q2, q3, q4, q5⟩ := hW; go_simp⟩) hS ?_
                    try simp only [Act.put, List.setIfInBounds_toArray, List.set_cons_zero, List.set_cons_succ]
                    refine Ord.wpM_take (i := 20) (v := .bool true) (by simp only [List.getElem?_toArray, List.getElem?_cons_zero, List.getElem?_cons_succ]; rfl) (by kernel_rfl) (by kernel_rfl) (by kernel_rfl) (by kernel_rfl) (fun _ _ _ h => h) (Or.inl ⟨by rfl, by intro W' hW; obtain ⟨q0, q1, q2, q3, q4, q5⟩ := hW; go_simp⟩) hS ?_
                    try simp only [Act.put, List.setIfInBounds_toArray, List.set_cons_zero, List.set_cons_succ]
                    refine Ord.wpM_done (by kernel_rfl) ?_ _
                    refine NoPanic.normal ?_
                    clear HSS hS
                    go_wp2
                    go_ret
                    exact ⟨rfl, HBw.out _ HBf.out⟩
                  | ok hh1 hh2 =>
                    refine Ord.wpM_take (i := 19) (v := .bool false) (by simp only [List.getElem?_toArray, List.getElem?_cons_zero, List.getElem?_cons_succ]; rfl) (by kernel_rfl) (by kernel_rfl) (by kernel_rfl) (by kernel_rfl) (fun _ _ _ h => h) (Or.inl ⟨by rfl, by intro W' hW; obtain ⟨q0, q1, q2, q3, q4, q5⟩ := hW; go_simp⟩) hS ?_
                    try simp only [Act.put, List.setIfInBounds_toArray, List.set_cons_zero, List.set_cons_succ]
                    refine Ord.wpM_take (i := 20) (v := .bool false) (by simp only [List.getElem?_toArray, List.getElem?_cons_zero, List.getElem?_cons_succ]; rfl) (by kernel_rfl) (by kernel_rfl) (by kernel_rfl) (by kernel_rfl) (fun _ _ _ h => h) (Or.inl ⟨by rfl, by intro W' hW; obtain ⟨q0, q1, q2, q3, q4, q5⟩ := hW; go_simp⟩) hS ?_
                    try simp only [Act.put, List.setIfInBounds_toArray, List.set_cons_zero, List.set_cons_succ]
                    refine Ord.wpM_done (by kernel_rfl) ?_ _
                    refine NoPanic.normal ?_
                    clear HSS hS
                    have HSh : Hid (Shape (List.replicate f.params.toNat zV) f.arrs ws aa) := by show Shape _ _ _ _; rw [HPr.out, Int.toNat_natCast]; exact hh1
                    have HAW := keep hh2
                    clear hh1 hh2
                    clear f0 f1 f2 f3 g0 g1
                    obtain ⟨kF, kG, kX⟩ := HBx.out wf HBf.out
                    have f0 := kF.cell 0 rfl
                    have f1 := kF.cell 1 rfl
                    have f2 := kF.cell 2 rfl
                    have f3 := kF.cell 3 rfl
                    have g0 := kG.cell 0 rfl
                    have g1 := kG.cell 1 rfl
                    clear kF kG kX
                    have HT9 := keep (HTk.out wf HBf.out)
                    obtain ⟨i1, i2, i3, i4⟩ := HIn.out wf HBf.out
                    have HPm : Hid (f.sec.length ≤ 17592186044416 ∧ f.params ≤ 8796093022208) := ⟨by have := HN.out; omega, by have h1 := HN.out; have h2 := HR.out.p1; omega⟩
                    have HSu : Hid (sumL aa ≤ 1048576) := by have := HT1.out; show _ ≤ _; omega
                    have HRn := keep (run_any B f T _ _ _ ws aa _ wf i1 i2 i3 HC0.out HTR.out.t7 HPm.out.1 HPm.out.2 HSh.out HAW.out HSu.out)
                    unfold fxA at HRn
                    rw [HPr.out] at HRn
                    clear i1 i2 i3 i4
                    go_wp2_with (first | refine Tb.load_tab rfl _ rfl TB rfl T HT9.out ?_ | fail)
                    refine HRn.out.mono ?_
                    rintro r w9 ⟨ls, e, v, sA, hr1, rfl, hlk1, har1, hb9⟩
                    obtain ⟨pl, cl, rfl⟩ := lks_slice hlk1
                    obtain ⟨pa, na, ca, rfl⟩ := har1.slice
                    have HB9 := keep (HBf.out.trans (hb9.mono HBf.out.size))
                    obtain ⟨w10, hw10⟩ : ∃ y, w9.alloc (.cells #[.int .i64 e.word, .bool e.trap, .slice pa na ca] 51) = y := ⟨_, rfl⟩
                    obtain ⟨E1, hE1⟩ : ∃ y, w9.heap.size = y := ⟨_, rfl⟩
                    have hb10 : Below w9.heap.size w9 w10 := by rw [← hw10]; exact (Below.refl _ _).alloc (Nat.le_refl _) _
                    have kE1 : Bk w10 E1 [.int .i64 e.word, .bool e.trap, .slice pa na ca] 51 := by rw [← hw10, ← hE1]; exact Bk.new _ _ _
                    have HB10 := keep (HB9.out.trans (hb10.mono HB9.out.size))
                    have HLk1 := keep (hlk1.below hb10)
                    have HAr1 := keep (har1.below hb10)
                    have HL1s : Hid (w9.heap.size ≤ w10.heap.size) := hb10.size
                    have HRu1 := keep hr1
                    have HW10 := keep hw10
                    have HE1 := keep hE1
                    have HkE1 := keep kE1
                    clear hb9 HRn hr1 hlk1 har1 hw10 hE1 hb10 HT9 kE1 f0 f1 f2 f3 g0 g1
                    obtain ⟨kF, kG, kX⟩ := HBx.out w10 HB10.out
                    have f0 := kF.cell 0 rfl
                    have f1 := kF.cell 1 rfl
                    have f2 := kF.cell 2 rfl
                    have f3 := kF.cell 3 rfl
                    have g0 := kG.cell 0 rfl
                    have g1 := kG.cell 1 rfl
                    clear kF kG kX
                    have HT10 := keep (HTk.out w10 HB10.out)
                    obtain ⟨i1, i2, i3, i4⟩ := HIn.out w10 HB10.out
                    have HRn := keep (rrun_any B f T _ _ _ ws aa _ w10 i1 i2 i3 HC0.out HTR.out HPm.out.1 HSh.out HAW.out HSu.out (by have h1 := HSh.out.a; have h2 := HNa.out; omega))
                    unfold fxA at HRn
                    rw [HPr.out] at HRn
                    clear i1 i2 i3 i4
                    go_wp2_with (first | rw [HW10.out, HE1.out] | refine Tb.load_tab rfl _ rfl TB rfl T HT10.out ?_ | fail)
                    refine HRn.out.mono ?_
                    rintro r w11 ⟨ls', e', v', sA', hr2, rfl, hlk2, har2, hb11⟩
                    obtain ⟨rfl, rfl⟩ := runs_det HRu1.out hr2
                    obtain ⟨pl', cl', rfl⟩ := lks_slice hlk2
                    obtain ⟨pa', na', ca', rfl⟩ := har2.slice
                    have HB11 := keep (HB10.out.trans (hb11.mono HB10.out.size))
                    obtain ⟨w12, hw12⟩ : ∃ y, w11.alloc (.cells #[.int .i64 e.word, .bool e.trap, .slice pa' na' ca'] 51) = y := ⟨_, rfl⟩
                    obtain ⟨E2, hE2⟩ : ∃ y, w11.heap.size = y := ⟨_, rfl⟩
                    have hb12 : Below w11.heap.size w11 w12 := by rw [← hw12]; exact (Below.refl _ _).alloc (Nat.le_refl _) _
                    have kE2 : Bk w12 E2 [.int .i64 e.word, .bool e.trap, .slice pa' na' ca'] 51 := by rw [← hw12, ← hE2]; exact Bk.new _ _ _
                    have HB12 := keep (HB11.out.trans (hb12.mono HB11.out.size))
                    have hb1112 : Below w10.heap.size w10 w12 := hb11.trans (hb12.mono hb11.size)
                    have kE1 := HkE1.out.fs (Fs.of_below (l := []) hb1112) (by simp)
                    have e0 := kE1.cell 0 rfl
                    have e1 := kE1.cell 1 rfl
                    have e2 := kE1.cell 2 rfl
                    have e3 := kE2.cell 0 rfl
                    have e4 := kE2.cell 1 rfl
                    have e5 := kE2.cell 2 rfl
                    have HSe := keep (sameEnded_any w12.heap.size e _ _ w12 (Nat.le_refl _) (ArrsIs_mono (HAr1.out.below (hb1112.mono HL1s.out)) (by have h1 := hb1112.size; have h3 := HL1s.out; omega)) (ArrsIs_mono (har2.below hb12) hb12.size))
                    have HSl := keep (fun W (hW : Below w12.heap.size w12 W) => sameLeaks_any W.heap.size ls _ _ W (Nat.le_refl _) ((HLk1.out.below ((hb1112.trans (hW.mono hb1112.size)).mono HL1s.out)).mono (by have h1 := hb1112.size; have h2 := hW.size; have h3 := HL1s.out; omega)) ((hlk2.below (hb12.trans (hW.mono hb12.size))).mono (by have h1 := hb12.size; have h2 := hW.size; omega)))
                    have HW12 := keep hw12
                    have HE2 := keep hE2
                    clear HRn hr2 hlk2 har2 hb11 hw12 hE2 hb12 HT10 hb1112 kE1 kE2 f0 f1 f2 f3 g0 g1
                    go_wp2_with (first | rw [HW12.out, HE2.out] | fail)
                    refine HSe.out.mono ?_
                    rintro r w13 ⟨rfl, hb13⟩
                    have HB13 := keep (HB12.out.trans (hb13.mono HB12.out.size))
                    have HSl2 := keep (HSl.out w13 hb13)
                    clear hb13 HSl HSe e0 e1 e2 e3 e4 e5
                    go_wp2_with fail
                    refine HSl2.out.mono ?_
                    rintro r w14 ⟨rfl, hb14⟩
                    have HB14 := keep (HB13.out.trans (hb14.mono HB13.out.size))
                    clear hb14 HSl2
                    go_wp2
                    go_ret
                    exact ⟨rfl, HBw.out _ HB14.out⟩
                · have hnn : ((n4 : Int) != pr) = true := by rw [bne_iff_ne]; exact hw0
                  clear hw0
                  go_wp2
                  go_quiet (fail)
                  go_wp2
                  go_ret
                  exact ⟨rfl, HBw.out _ (HBs.out.trans ((below_drewN (Below.refl _ _) nq).mono HBs.out.size))⟩
              · have hcn : (k1 != 0) = true := by rw [bne_iff_ne]; exact hc1
                clear hc1
                go_wp2
                go_quiet (fail)
                go_wp2
                go_ret
                exact ⟨rfl, HBw.out _ (HBs.out.trans ((below_drewN (Below.refl _ _) nq).mono HBs.out.size))⟩
      · have d1' : decide (1 ≤ op) = true := decide_eq_true h1
        have d2' : decide (op ≤ 23) = false := decide_eq_false h23
        have HO0 : Hid (okP op [a, b, c, d] (nv : Int) 0 = false) := by show _ = _; unfold okP; rw [d1', d2']; rfl
        clear h1
        go_wp2_with (first | rw [HW8.out] | rw [HSB.out] | fail)
        go_loopw [83, 17] (fun j q wx => ∃ k : Nat, k ≤ 4 ∧ j = .int .i64 (k : Int) ∧ q = .bool (okP op [a, b, c, d] (nv : Int) k) ∧ wx = w8) (fun j _ _ => 4 - (intOf j).toNat)
        case atStart => exact ⟨0, by omega, rfl, by rw [HO0.out], rfl⟩
        case round =>
          obtain ⟨k, hk, rfl, rfl, rfl⟩ := hrel
          by_cases hkl : k < 4
          · obtain ⟨p, hp⟩ : ∃ p, [a, b, c, d][k]? = some p := ⟨_, List.getElem?_eq_getElem (by simpa using hkl)⟩
            have hc : wr.cell? ⟨SB, k, none⟩ = some (.int .i64 p) := HkS.out.cell k (by have := congrArg (Option.map (Value.int .i64)) hp; rw [← List.getElem?_map] at this; exact this)
            have hst := okP_step (op := op) (n := (nv : Int)) hp
            have d1 : decide ((k : Int) < 4) = true := decide_eq_true (by omega)
            have hkz : (k : Int) < 4 := by omega
            have hk0 : (0 : Int) ≤ (k : Int) := by omega
            have hwr : IntKind.i64.wrap ((k : Int) + 1) = (k : Int) + 1 := by rw [IntKind.wrap_i64]; omega
            obtain ⟨q, hq⟩ : ∃ q, okP op [a, b, c, d] (nv : Int) k = q := ⟨_, rfl⟩
            rw [hq] at hst ⊢
            have HSt := keep hst
            clear hp hst hq
            cases q with
            | false =>
              go_wp2
              go_roundw
              case rel => exact ⟨k + 1, by omega, by go_num, by rw [HSt.out]; rfl, by first | rfl | trivial⟩
              case measure => simp [intOf]; omega
            | true =>
              by_cases h0 : 0 ≤ p
              · have d2 : decide (0 ≤ p) = true := decide_eq_true h0
                by_cases h1 : p < (nv : Int)
                · have d3 : decide (p < (nv : Int)) = true := decide_eq_true h1
                  have HW : Hid (wi p (nv : Int) = true) := wi_iff.2 ⟨h0, h1⟩
                  clear h0 h1
                  go_wp2
                  go_roundw
                  case rel => exact ⟨k + 1, by omega, by go_num, by rw [HSt.out, HW.out]; rfl, by first | rfl | trivial⟩
                  case measure => simp [intOf]; omega
                · have d3 : decide (p < (nv : Int)) = false := decide_eq_false h1
                  have h1' : ¬ (p < (nv : Int)) := h1
                  have HW : Hid (wi p (nv : Int) = false) := by show _ = _; unfold wi; rw [d3, Bool.and_false]
                  go_wp2
                  go_roundw
                  case rel => exact ⟨k + 1, by omega, by go_num, by rw [HSt.out, HW.out]; rfl, by first | rfl | trivial⟩
                  case measure => simp [intOf]; omega
              · have d2 : decide (0 ≤ p) = false := decide_eq_false h0
                have HW : Hid (wi p (nv : Int) = false) := by show _ = _; unfold wi; rw [d2, Bool.false_and]
                go_wp2
                go_roundw
                case rel => exact ⟨k + 1, by omega, by go_num, by rw [HSt.out, HW.out]; rfl, by first | rfl | trivial⟩
                case measure => simp [intOf]; omega
          · have hke : k = 4 := by omega
            subst hke
            clear hkl hk x0 x1 x2 x3 x4 x5
            obtain ⟨q, hq⟩ : ∃ q, okP op [a, b, c, d] (nv : Int) 4 = q := ⟨_, rfl⟩
            rw [hq]
            have HQ := keep hq
            clear hq
            cases q with
            | false =>
              go_wp2
              go_quiet (fail)
              have HBs : Hid (Below w4.heap.size w4 (wr.drewN nq)) := HB8.out.trans ((below_drewN (Below.refl _ _) nq).mono HB8.out.size)
              generalize wr.drewN nq = ws0 at *
              obtain ⟨kF, kG, kX⟩ := HBx.out ws0 HBs.out
              have f0 := kF.cell 0 rfl
              have f1 := kF.cell 1 rfl
              have f2 := kF.cell 2 rfl
              have f3 := kF.cell 3 rfl
              have g0 := kG.cell 0 rfl
              have g1 := kG.cell 1 rfl
              clear kF kG kX
              by_cases hc1 : k1 = 0
              · subst hc1
                have hck := check_zero HK1.out
                have HC0 := keep hck
                have HR := keep (right_of (f := f) HK1.out)
                clear hck
                by_cases hw0 : (n4 : Int) = pr
                · have hp0 : 0 ≤ pr := by have := HR.out.p0; have := HPr.out; omega
                  subst hw0
                  have hmm : n4 ≤ 1048576 := by have h1 := HR.out.p1; have h2 := HPr.out; have h3 := HN.out; omega
                  have HMk := keep (fun W => make_vars n4 (by omega) W)
                  have hmz : (0 : Int) ≤ (n4 : Int) := by omega
                  have HSS : Hid (∀ W', Below w4.heap.size w4 W' → W'.cell? ⟨F, 0, none⟩ = some (.slice p1 n1 c1) ∧ W'.cell? ⟨F, 1, none⟩ = some (.slice p2 n2 c2) ∧ W'.cell? ⟨F, 2, none⟩ = some (.int .i64 (n4 : Int)) ∧ W'.cell? ⟨F, 3, none⟩ = some (.slice p3 n3 c3) ∧ W'.cell? ⟨G, 0, none⟩ = some (.slice p4 n4 c4) ∧ W'.cell? ⟨G, 1, none⟩ = some (.slice p5 n5 c5)) := fun W' hW => by
                    obtain ⟨kF, kG, kX⟩ := HBx.out W' hW
                    exact ⟨kF.cell 0 rfl, kF.cell 1 rfl, kF.cell 2 rfl, kF.cell 3 rfl, kG.cell 0 rfl, kG.cell 1 rfl⟩
                  go_wp2_with fail
                  refine wp_region_noPanic ?_
                  refine Ord.wpM_begin (fun W' : World => W'.cell? ⟨F, 0, none⟩ = some (.slice p1 n1 c1) ∧ W'.cell? ⟨F, 1, none⟩ = some (.slice p2 n2 c2) ∧ W'.cell? ⟨F, 2, none⟩ = some (.int .i64 (n4 : Int)) ∧ W'.cell? ⟨F, 3, none⟩ = some (.slice p3 n3 c3) ∧ W'.cell? ⟨G, 0, none⟩ = some (.slice p4 n4 c4) ∧ W'.cell? ⟨G, 1, none⟩ = some (.slice p5 n5 c5)) [0, 1, 2, 3, 4, 5, 6, 7, 8, 9, 10, 11, 12, 13, 14, 15, 16, 17, 18, 19, 20] (by kernel_rfl) ?_
                  have HD : Hid (Below w4.heap.size w4 ws0.drew) := HBs.out.trans ((Below.drew (Below.refl _ _)).mono HBs.out.size)
                  generalize ws0.drew = wd at *
                  have hS := HSS.out wd HD.out
                  refine Ord.wpM_take (i := 0) (v := .int .i64 0) (by simp only [List.getElem?_toArray, List.getElem?_cons_zero, List.getElem?_cons_succ]; rfl) (by kernel_rfl) (by kernel_rfl) (by kernel_rfl) (by kernel_rfl) (fun _ _ _ h => h) (Or.inl ⟨by rfl, by intro W' hW; obtain ⟨q0, q1, q2, q3, q4, q5⟩ := hW; go_simp⟩) hS ?_
                  try simp only [Act.put, List.setIfInBounds_toArray, List.set_cons_zero, List.set_cons_succ]
                  refine Ord.wpM_take (i := 1) (v := .bool false) (by simp only [List.getElem?_toArray, List.getElem?_cons_zero, List.getElem?_cons_succ]; rfl) (by kernel_rfl) (by kernel_rfl) (by kernel_rfl) (by kernel_rfl) (fun _ _ _ h => h) (Or.inl ⟨by rfl, by intro W' hW; obtain ⟨q0, q1, q2, q3, q4, q5⟩ := hW; go_simp⟩) hS ?_
                  try simp only [Act.put, List.setIfInBounds_toArray, List.set_cons_zero, List.set_cons_succ]
                  refine Ord.wpM_take (i := 2) (v := .bool false) (by simp only [List.getElem?_toArray, List.getElem?_cons_zero, List.getElem?_cons_succ]; rfl) (by kernel_rfl) (by kernel_rfl) (by kernel_rfl) (by kernel_rfl) (fun _ _ _ h => h) (Or.inl ⟨by rfl, by intro W' hW; obtain ⟨q0, q1, q2, q3, q4, q5⟩ := hW; go_simp⟩) hS ?_
                  try simp only [Act.put, List.setIfInBounds_toArray, List.set_cons_zero, List.set_cons_succ]
                  refine Ord.wpM_take (i := 3) (v := .pointer (some ⟨G, 0, none⟩)) (by simp only [List.getElem?_toArray, List.getElem?_cons_zero, List.getElem?_cons_succ]; rfl) (by kernel_rfl) (by kernel_rfl) (by kernel_rfl) (by kernel_rfl) (fun _ _ _ h => h) (Or.inl ⟨by rfl, by intro W' hW; obtain ⟨q0, q1, q2, q3, q4, q5⟩ := hW; go_simp⟩) hS ?_
                  try simp only [Act.put, List.setIfInBounds_toArray, List.set_cons_zero, List.set_cons_succ]
                  refine Ord.wpM_take (i := 4) (v := .slice p4 n4 c4) (by simp only [List.getElem?_toArray, List.getElem?_cons_zero, List.getElem?_cons_succ]; rfl) (by kernel_rfl) (by kernel_rfl) (by kernel_rfl) (by kernel_rfl) (fun _ _ _ h => h) (Or.inl ⟨by rfl, by intro W' hW; obtain ⟨q0, q1, q2, q3, q4, q5⟩ := hW; go_simp⟩) hS ?_
                  try simp only [Act.put, List.setIfInBounds_toArray, List.set_cons_zero, List.set_cons_succ]
                  refine Ord.wpM_take (i := 5) (v := .int .i64 (n4 : Int)) (by simp only [List.getElem?_toArray, List.getElem?_cons_zero, List.getElem?_cons_succ]; rfl) (by kernel_rfl) (by kernel_rfl) (by kernel_rfl) (by kernel_rfl) (fun _ _ _ h => h) (Or.inl ⟨by rfl, by intro W' hW; obtain ⟨q0, q1, q2, q3, q4, q5⟩ := hW; go_simp⟩) hS ?_
                  try simp only [Act.put, List.setIfInBounds_toArray, List.set_cons_zero, List.set_cons_succ]
                  refine Ord.wpM_take (i := 6) (v := .pointer (some ⟨F, 2, none⟩)) (by simp only [List.getElem?_toArray, List.getElem?_cons_zero, List.getElem?_cons_succ]; rfl) (by kernel_rfl) (by kernel_rfl) (by kernel_rfl) (by kernel_rfl) (fun _ _ _ h => h) (Or.inl ⟨by rfl, by intro W' hW; obtain ⟨q0, q1, q2, q3, q4, q5⟩ := hW; go_simp⟩) hS ?_
                  try simp only [Act.put, List.setIfInBounds_toArray, List.set_cons_zero, List.set_cons_succ]
                  refine Ord.wpM_take (i := 7) (v := .int .i64 (n4 : Int)) (by simp only [List.getElem?_toArray, List.getElem?_cons_zero, List.getElem?_cons_succ]; rfl) (by kernel_rfl) (by kernel_rfl) (by kernel_rfl) (by kernel_rfl) (fun _ _ _ h => h) (Or.inl ⟨by rfl, by intro W' hW; obtain ⟨q0, q1, q2, q3, q4, q5⟩ := hW; go_simp⟩) hS ?_
                  try simp only [Act.put, List.setIfInBounds_toArray, List.set_cons_zero, List.set_cons_succ]
                  refine Ord.wpM_take (i := 8) (v := .bool false) (by simp only [List.getElem?_toArray, List.getElem?_cons_zero, List.getElem?_cons_succ]; rfl) (by kernel_rfl) (by kernel_rfl) (by kernel_rfl) (by kernel_rfl) (fun _ _ _ h => h) (Or.inl ⟨by rfl, by intro W' hW; obtain ⟨q0, q1, q2, q3, q4, q5⟩ := hW; go_simp⟩) hS ?_
                  try simp only [Act.put, List.setIfInBounds_toArray, List.set_cons_zero, List.set_cons_succ]
                  refine Ord.wpM_take (i := 9) (v := .bool false) (by simp only [List.getElem?_toArray, List.getElem?_cons_zero, List.getElem?_cons_succ]; rfl) (by kernel_rfl) (by kernel_rfl) (by kernel_rfl) (by kernel_rfl) (fun _ _ _ h => h) (Or.inl ⟨by rfl, by intro W' hW; obtain ⟨q0, q1, q2, q3, q4, q5⟩ := hW; go_simp⟩) hS ?_
                  try simp only [Act.put, List.setIfInBounds_toArray, List.set_cons_zero, List.set_cons_succ]
                  refine Ord.wpM_take (i := 10) (v := .bool false) (by simp only [List.getElem?_toArray, List.getElem?_cons_zero, List.getElem?_cons_succ]; rfl) (by kernel_rfl) (by kernel_rfl) (by kernel_rfl) (by kernel_rfl) (fun _ _ _ h => h) (Or.inl ⟨by rfl, by intro W' hW; obtain ⟨q0, q1, q2, q3, q4, q5⟩ := hW; go_simp⟩) hS ?_
                  try simp only [Act.put, List.setIfInBounds_toArray, List.set_cons_zero, List.set_cons_succ]
                  refine Ord.wpM_take (i := 11) (v := .pointer (some ⟨F, 2, none⟩)) (by simp only [List.getElem?_toArray, List.getElem?_cons_zero, List.getElem?_cons_succ]; rfl) (by kernel_rfl) (by kernel_rfl) (by kernel_rfl) (by kernel_rfl) (fun _ _ _ h => h) (Or.inl ⟨by rfl, by intro W' hW; obtain ⟨q0, q1, q2, q3, q4, q5⟩ := hW; go_simp⟩) hS ?_
                  try simp only [Act.put, List.setIfInBounds_toArray, List.set_cons_zero, List.set_cons_succ]
                  refine Ord.wpM_take (i := 12) (v := .int .i64 (n4 : Int)) (by simp only [List.getElem?_toArray, List.getElem?_cons_zero, List.getElem?_cons_succ]; rfl) (by kernel_rfl) (by kernel_rfl) (by kernel_rfl) (by kernel_rfl) (fun _ _ _ h => h) (Or.inl ⟨by rfl, by intro W' hW; obtain ⟨q0, q1, q2, q3, q4, q5⟩ := hW; go_simp⟩) hS ?_
                  try simp only [Act.put, List.setIfInBounds_toArray, List.set_cons_zero, List.set_cons_succ]
                  refine Ord.wpM_take (i := 14) (v := .pointer (some ⟨F, 3, none⟩)) (by simp only [List.getElem?_toArray, List.getElem?_cons_zero, List.getElem?_cons_succ]; rfl) (by kernel_rfl) (by kernel_rfl) (by kernel_rfl) (by kernel_rfl) (fun _ _ _ h => h) (Or.inl ⟨by rfl, by intro W' hW; obtain ⟨q0, q1, q2, q3, q4, q5⟩ := hW; go_simp⟩) hS ?_
                  try simp only [Act.put, List.setIfInBounds_toArray, List.set_cons_zero, List.set_cons_succ]
                  refine Ord.wpM_take (i := 15) (v := .slice p3 n3 c3) (by simp only [List.getElem?_toArray, List.getElem?_cons_zero, List.getElem?_cons_succ]; rfl) (by kernel_rfl) (by kernel_rfl) (by kernel_rfl) (by kernel_rfl) (fun _ _ _ h => h) (Or.inl ⟨by rfl, by intro W' hW; obtain ⟨q0, q1, q2, q3, q4, q5⟩ := hW; go_simp⟩) hS ?_
                  try simp only [Act.put, List.setIfInBounds_toArray, List.set_cons_zero, List.set_cons_succ]
                  refine Ord.wpM_take (i := 17) (v := .agg #[.slice p4 n4 c4, .slice p5 n5 c5]) (by simp only [List.getElem?_toArray, List.getElem?_cons_zero, List.getElem?_cons_succ]; rfl) (by kernel_rfl) (by kernel_rfl) (by kernel_rfl) (by kernel_rfl) (fun _ _ _ h => h) (Or.inl ⟨by rfl, by intro W' hW; obtain ⟨q0, q1, q2, q3, q4, q5⟩ := hW; go_simp⟩) hS ?_
                  try simp only [Act.put, List.setIfInBounds_toArray, List.set_cons_zero, List.set_cons_succ]
                  have hmk := HMk.out wd
                  obtain ⟨wv, hwv⟩ : ∃ y, wd.alloc (.cells (madeCells #[.string ⟨#[]⟩, .bool false, .int .i64 0] (n4 * 3)) 75) = y := ⟨_, rfl⟩
                  obtain ⟨VB, hVB⟩ : ∃ y, wd.heap.size = y := ⟨_, rfl⟩
                  have HBv : Hid (Below w4.heap.size w4 wv) := by show Below _ _ _; rw [← hwv]; exact HD.out.trans ((Below.refl _ _).alloc HD.out.size _)
                  have HVr : Hid (VrIs wv wv.heap.size (List.replicate n4 zV) (.slice (some ⟨VB, 0, none⟩) n4 n4)) := by
                    have h1 := vars_zero wd n4 (by omega)
                    rw [hwv, hVB] at h1
                    have h2 : wv.heap.size = wd.heap.size + 1 := by rw [← hwv]; simp
                    rw [h2, hVB]; exact h1
                  rw [hwv, hVB] at hmk
                  have HFt := keep (rfits_any wv.heap.size (List.replicate n4 zV) f.arrs _ _ (.slice none 0 0) ws aa _ wv (Nat.le_refl _) HVr.out (VrIs_mono (HIn.out wv HBv.out).2.1.arrs (HIn.out wv HBv.out).1) ⟨_, _, _, rfl⟩ (GvIs_mono (HIn.out wv HBv.out).2.2.1 (HIn.out wv HBv.out).1) (fun _ _ j _ => by have h1 := sumL_le aa j; have h2 := HT1.out; omega))
                  clear hwv hVB
                  refine Ord.wpM_one (i := 13) (by kernel_rfl) (by simp only [List.getElem?_toArray, List.getElem?_cons_zero, List.getElem?_cons_succ]; rfl) (fun K hK => ?_)
                  go_simp
                  refine hK.out _ _ (fun _ => HSS.out wv HBv.out) ?_
                  clear hK K hmk
                  try simp only [Act.put, List.setIfInBounds_toArray, List.set_cons_zero, List.set_cons_succ]
                  have hS := HSS.out wv HBv.out
                  refine Ord.wpM_take (i := 16) (v := .agg #[.slice (some ⟨VB, 0, none⟩) n4 n4, .slice p3 n3 c3, .slice none 0 0]) (by simp only [List.getElem?_toArray, List.getElem?_cons_zero, List.getElem?_cons_succ]; rfl) (by kernel_rfl) (by kernel_rfl) (by kernel_rfl) (by kernel_rfl) (fun _ _ _ h => h) (Or.inl ⟨by rfl, by intro W' hW; obtain ⟨q0, q1, q2, q3, q4, q5⟩ := hW; go_simp⟩) hS ?_
                  try simp only [Act.put, List.setIfInBounds_toArray, List.set_cons_zero, List.set_cons_succ]
                  refine Ord.wpM_one (i := 18) (by kernel_rfl) (by simp only [List.getElem?_toArray, List.getElem?_cons_zero, List.getElem?_cons_succ]; rfl) (fun K hK => ?_)
                  go_simp
                  refine HFt.out.mono ?_
                  rintro r wf ⟨cc, rfl, hcc, hbf⟩
                  have HBf := keep (HBv.out.trans (hbf.mono HBv.out.size))
                  clear hbf HFt
                  go_simp
                  refine hK.out _ _ (fun _ => HSS.out wf HBf.out) ?_
                  clear hK K
                  try simp only [Act.put, List.setIfInBounds_toArray, List.set_cons_zero, List.set_cons_succ]
                  have hS := HSS.out wf HBf.out
                  cases hcc with
                  | many hh =>
                    refine Ord.wpM_take (i := 19) (v := .bool true) (by simp only [List.getElem?_toArray, List.getElem?_cons_zero, List.getElem?_cons_succ]; rfl) (by kernel_rfl) (by kernel_rfl) (by kernel_rfl) (by kernel_rfl) (fun _ _ _ h => h) (Or.inl ⟨by rfl, by intro W' hW; obtain ⟨q0, q1, q2, q3, q4, q5⟩ := hW; go_simp⟩) hS ?_
                    try simp only [Act.put, List.setIfInBounds_toArray, List.set_cons_zero, List.set_cons_succ]
                    refine Ord.wpM_take (i := 20) (v := .bool true) (by simp only [List.getElem?_toArray, List.getElem?_cons_zero, List.getElem?_cons_succ]; rfl) (by kernel_rfl) (by kernel_rfl) (by kernel_rfl) (by kernel_rfl) (fun _ _ _ h => h) (Or.inl ⟨by rfl, by intro W' hW; obtain ⟨q0, q1, q2, q3, q4, q5⟩ := hW; go_simp⟩) hS ?_
                    try simp only [Act.put, List.setIfInBounds_toArray, List.set_cons_zero, List.set_cons_succ]
                    refine Ord.wpM_done (by kernel_rfl) ?_ _
                    refine NoPanic.normal ?_
                    clear HSS hS
                    go_wp2
                    go_ret
                    exact ⟨rfl, HBw.out _ HBf.out⟩
                  | range hh1 hh2 =>
                    refine Ord.wpM_take (i := 19) (v := .bool true) (by simp only [List.getElem?_toArray, List.getElem?_cons_zero, List.getElem?_cons_succ]; rfl) (by kernel_rfl) (by kernel_rfl) (by kernel_rfl) (by kernel_rfl) (fun _ _ _ h => h) (Or.inl ⟨by rfl, by intro W' hW; obtain ⟨q0, q1, q2, q3, q4, q5⟩ := hW; go_simp⟩) hS ?_
                    try simp only [Act.put, List.setIfInBounds_toArray, List.set_cons_zero, List.set_cons_succ]
                    refine Ord.wpM_take (i := 20) (v := .bool true) (by simp only [List.getElem?_toArray, List.getElem?_cons_zero, List.getElem?_cons_succ]; rfl) (by kernel_rfl) (by kernel_rfl) (by kernel_rfl) (by kernel_rfl) (fun _ _ _ h => h) (Or.inl ⟨by rfl, by intro W' hW; obtain ⟨q0, q1, q2, q3, q4, q5⟩ := hW; go_simp⟩) hS ?_
                    try simp only [Act.put, List.setIfInBounds_toArray, List.set_cons_zero, List.set_cons_succ]
                    refine Ord.wpM_done (by kernel_rfl) ?_ _
                    refine NoPanic.normal ?_
                    clear HSS hS
                    go_wp2
                    go_ret
                    exact ⟨rfl, HBw.out _ HBf.out⟩
                  | ok hh1 hh2 =>
                    refine Ord.wpM_take (i := 19) (v := .bool false) (by simp only [List.getElem?_toArray, List.getElem?_cons_zero, List.getElem?_cons_succ]; rfl) (by kernel_rfl) (by kernel_rfl) (by kernel_rfl) (by kernel_rfl) (fun _ _ _ h => h) (Or.inl ⟨by rfl, by intro W' hW; obtain ⟨q0, q1, q2, q3, q4, q5⟩ := hW; go_simp⟩) hS ?_
                    try simp only [Act.put, List.setIfInBounds_toArray, List.set_cons_zero, List.set_cons_succ]
                    refine Ord.wpM_take (i := 20) (v := .bool false) (by simp only [List.getElem?_toArray, List.getElem?_cons_zero, List.getElem?_cons_succ]; rfl) (by kernel_rfl) (by kernel_rfl) (by kernel_rfl) (by kernel_rfl) (fun _ _ _ h => h) (Or.inl ⟨by rfl, by intro W' hW; obtain ⟨q0, q1, q2, q3, q4, q5⟩ := hW; go_simp⟩) hS ?_
                    try simp only [Act.put, List.setIfInBounds_toArray, List.set_cons_zero, List.set_cons_succ]
                    refine Ord.wpM_done (by kernel_rfl) ?_ _
                    refine NoPanic.normal ?_
                    clear HSS hS
                    have HSh : Hid (Shape (List.replicate f.params.toNat zV) f.arrs ws aa) := by show Shape _ _ _ _; rw [HPr.out, Int.toNat_natCast]; exact hh1
                    have HAW := keep hh2
                    clear hh1 hh2
                    clear f0 f1 f2 f3 g0 g1
                    obtain ⟨kF, kG, kX⟩ := HBx.out wf HBf.out
                    have f0 := kF.cell 0 rfl
                    have f1 := kF.cell 1 rfl
                    have f2 := kF.cell 2 rfl
                    have f3 := kF.cell 3 rfl
                    have g0 := kG.cell 0 rfl
                    have g1 := kG.cell 1 rfl
                    clear kF kG kX
                    have HT9 := keep (HTk.out wf HBf.out)
                    obtain ⟨i1, i2, i3, i4⟩ := HIn.out wf HBf.out
                    have HPm : Hid (f.sec.length ≤ 17592186044416 ∧ f.params ≤ 8796093022208) := ⟨by have := HN.out; omega, by have h1 := HN.out; have h2 := HR.out.p1; omega⟩
                    have HSu : Hid (sumL aa ≤ 1048576) := by have := HT1.out; show _ ≤ _; omega
                    have HRn := keep (run_any B f T _ _ _ ws aa _ wf i1 i2 i3 HC0.out HTR.out.t7 HPm.out.1 HPm.out.2 HSh.out HAW.out HSu.out)
                    unfold fxA at HRn
                    rw [HPr.out] at HRn
                    clear i1 i2 i3 i4
                    go_wp2_with (first | refine Tb.load_tab rfl _ rfl TB rfl T HT9.out ?_ | fail)
                    refine HRn.out.mono ?_
                    rintro r w9 ⟨ls, e, v, sA, hr1, rfl, hlk1, har1, hb9⟩
                    obtain ⟨pl, cl, rfl⟩ := lks_slice hlk1
                    obtain ⟨pa, na, ca, rfl⟩ := har1.slice
                    have HB9 := keep (HBf.out.trans (hb9.mono HBf.out.size))
                    obtain ⟨w10, hw10⟩ : ∃ y, w9.alloc (.cells #[.int .i64 e.word, .bool e.trap, .slice pa na ca] 51) = y := ⟨_, rfl⟩
                    obtain ⟨E1, hE1⟩ : ∃ y, w9.heap.size = y := ⟨_, rfl⟩
                    have hb10 : Below w9.heap.size w9 w10 := by rw [← hw10]; exact (Below.refl _ _).alloc (Nat.le_refl _) _
                    have kE1 : Bk w10 E1 [.int .i64 e.word, .bool e.trap, .slice pa na ca] 51 := by rw [← hw10, ← hE1]; exact Bk.new _ _ _
                    have HB10 := keep (HB9.out.trans (hb10.mono HB9.out.size))
                    have HLk1 := keep (hlk1.below hb10)
                    have HAr1 := keep (har1.below hb10)
                    have HL1s : Hid (w9.heap.size ≤ w10.heap.size) := hb10.size
                    have HRu1 := keep hr1
                    have HW10 := keep hw10
                    have HE1 := keep hE1
                    have HkE1 := keep kE1
                    clear hb9 HRn hr1 hlk1 har1 hw10 hE1 hb10 HT9 kE1 f0 f1 f2 f3 g0 g1
                    obtain ⟨kF, kG, kX⟩ := HBx.out w10 HB10.out
                    have f0 := kF.cell 0 rfl
                    have f1 := kF.cell 1 rfl
                    have f2 := kF.cell 2 rfl
                    have f3 := kF.cell 3 rfl
                    have g0 := kG.cell 0 rfl
                    have g1 := kG.cell 1 rfl
                    clear kF kG kX
                    have HT10 := keep (HTk.out w10 HB10.out)
                    obtain ⟨i1, i2, i3, i4⟩ := HIn.out w10 HB10.out
                    have HRn := keep (rrun_any B f T _ _ _ ws aa _ w10 i1 i2 i3 HC0.out HTR.out HPm.out.1 HSh.out HAW.out HSu.out (by have h1 := HSh.out.a; have h2 := HNa.out; omega))
                    unfold fxA at HRn
                    rw [HPr.out] at HRn
                    clear i1 i2 i3 i4
                    go_wp2_with (first | rw [HW10.out, HE1.out] | refine Tb.load_tab rfl _ rfl TB rfl T HT10.out ?_ | fail)
                    refine HRn.out.mono ?_
                    rintro r w11 ⟨ls', e', v', sA', hr2, rfl, hlk2, har2, hb11⟩
                    obtain ⟨rfl, rfl⟩ := runs_det HRu1.out hr2
                    obtain ⟨pl', cl', rfl⟩ := lks_slice hlk2
                    obtain ⟨pa', na', ca', rfl⟩ := har2.slice
                    have HB11 := keep (HB10.out.trans (hb11.mono HB10.out.size))
                    obtain ⟨w12, hw12⟩ : ∃ y, w11.alloc (.cells #[.int .i64 e.word, .bool e.trap, .slice pa' na' ca'] 51) = y := ⟨_, rfl⟩
                    obtain ⟨E2, hE2⟩ : ∃ y, w11.heap.size = y := ⟨_, rfl⟩
                    have hb12 : Below w11.heap.size w11 w12 := by rw [← hw12]; exact (Below.refl _ _).alloc (Nat.le_refl _) _
                    have kE2 : Bk w12 E2 [.int .i64 e.word, .bool e.trap, .slice pa' na' ca'] 51 := by rw [← hw12, ← hE2]; exact Bk.new _ _ _
                    have HB12 := keep (HB11.out.trans (hb12.mono HB11.out.size))
                    have hb1112 : Below w10.heap.size w10 w12 := hb11.trans (hb12.mono hb11.size)
                    have kE1 := HkE1.out.fs (Fs.of_below (l := []) hb1112) (by simp)
                    have e0 := kE1.cell 0 rfl
                    have e1 := kE1.cell 1 rfl
                    have e2 := kE1.cell 2 rfl
                    have e3 := kE2.cell 0 rfl
                    have e4 := kE2.cell 1 rfl
                    have e5 := kE2.cell 2 rfl
                    have HSe := keep (sameEnded_any w12.heap.size e _ _ w12 (Nat.le_refl _) (ArrsIs_mono (HAr1.out.below (hb1112.mono HL1s.out)) (by have h1 := hb1112.size; have h3 := HL1s.out; omega)) (ArrsIs_mono (har2.below hb12) hb12.size))
                    have HSl := keep (fun W (hW : Below w12.heap.size w12 W) => sameLeaks_any W.heap.size ls _ _ W (Nat.le_refl _) ((HLk1.out.below ((hb1112.trans (hW.mono hb1112.size)).mono HL1s.out)).mono (by have h1 := hb1112.size; have h2 := hW.size; have h3 := HL1s.out; omega)) ((hlk2.below (hb12.trans (hW.mono hb12.size))).mono (by have h1 := hb12.size; have h2 := hW.size; omega)))
                    have HW12 := keep hw12
                    have HE2 := keep hE2
                    clear HRn hr2 hlk2 har2 hb11 hw12 hE2 hb12 HT10 hb1112 kE1 kE2 f0 f1 f2 f3 g0 g1
                    go_wp2_with (first | rw [HW12.out, HE2.out] | fail)
                    refine HSe.out.mono ?_
                    rintro r w13 ⟨rfl, hb13⟩
                    have HB13 := keep (HB12.out.trans (hb13.mono HB12.out.size))
                    have HSl2 := keep (HSl.out w13 hb13)
                    clear hb13 HSl HSe e0 e1 e2 e3 e4 e5
                    go_wp2_with fail
                    refine HSl2.out.mono ?_
                    rintro r w14 ⟨rfl, hb14⟩
                    have HB14 := keep (HB13.out.trans (hb14.mono HB13.out.size))
                    clear hb14 HSl2
                    go_wp2
                    go_ret
                    exact ⟨rfl, HBw.out _ HB14.out⟩
                · have hnn : ((n4 : Int) != pr) = true := by rw [bne_iff_ne]; exact hw0
                  clear hw0
                  go_wp2
                  go_quiet (fail)
                  go_wp2
                  go_ret
                  exact ⟨rfl, HBw.out _ (HBs.out.trans ((below_drewN (Below.refl _ _) nq).mono HBs.out.size))⟩
              · have hcn : (k1 != 0) = true := by rw [bne_iff_ne]; exact hc1
                clear hc1
                go_wp2
                go_quiet (fail)
                go_wp2
                go_ret
                exact ⟨rfl, HBw.out _ (HBs.out.trans ((below_drewN (Below.refl _ _) nq).mono HBs.out.size))⟩
            | true =>
              exact absurd HQ.out (by rw [okP_no HO0.out]; simp)
    · have d1' : decide (1 ≤ op) = false := decide_eq_false h1
      have HO0 : Hid (okP op [a, b, c, d] (nv : Int) 0 = false) := by show _ = _; unfold okP; rw [d1']; rfl
      go_wp2_with (first | rw [HW8.out] | rw [HSB.out] | fail)
      go_loopw [83, 17] (fun j q wx => ∃ k : Nat, k ≤ 4 ∧ j = .int .i64 (k : Int) ∧ q = .bool (okP op [a, b, c, d] (nv : Int) k) ∧ wx = w8) (fun j _ _ => 4 - (intOf j).toNat)
      case atStart => exact ⟨0, by omega, rfl, by rw [HO0.out], rfl⟩
      case round =>
        obtain ⟨k, hk, rfl, rfl, rfl⟩ := hrel
        by_cases hkl : k < 4
        · obtain ⟨p, hp⟩ : ∃ p, [a, b, c, d][k]? = some p := ⟨_, List.getElem?_eq_getElem (by simpa using hkl)⟩
          have hc : wr.cell? ⟨SB, k, none⟩ = some (.int .i64 p) := HkS.out.cell k (by have := congrArg (Option.map (Value.int .i64)) hp; rw [← List.getElem?_map] at this; exact this)
          have hst := okP_step (op := op) (n := (nv : Int)) hp
          have d1 : decide ((k : Int) < 4) = true := decide_eq_true (by omega)
          have hkz : (k : Int) < 4 := by omega
          have hk0 : (0 : Int) ≤ (k : Int) := by omega
          have hwr : IntKind.i64.wrap ((k : Int) + 1) = (k : Int) + 1 := by rw [IntKind.wrap_i64]; omega
          obtain ⟨q, hq⟩ : ∃ q, okP op [a, b, c, d] (nv : Int) k = q := ⟨_, rfl⟩
          rw [hq] at hst ⊢
          have HSt := keep hst
          clear hp hst hq
          cases q with
          | false =>
            go_wp2
            go_roundw
            case rel => exact ⟨k + 1, by omega, by go_num, by rw [HSt.out]; rfl, by first | rfl | trivial⟩
            case measure => simp [intOf]; omega
          | true =>
            by_cases h0 : 0 ≤ p
            · have d2 : decide (0 ≤ p) = true := decide_eq_true h0
              by_cases h1 : p < (nv : Int)
              · have d3 : decide (p < (nv : Int)) = true := decide_eq_true h1
                have HW : Hid (wi p (nv : Int) = true) := wi_iff.2 ⟨h0, h1⟩
                clear h0 h1
                go_wp2
                go_roundw
                case rel => exact ⟨k + 1, by omega, by go_num, by rw [HSt.out, HW.out]; rfl, by first | rfl | trivial⟩
                case measure => simp [intOf]; omega
              · have d3 : decide (p < (nv : Int)) = false := decide_eq_false h1
                have h1' : ¬ (p < (nv : Int)) := h1
                have HW : Hid (wi p (nv : Int) = false) := by show _ = _; unfold wi; rw [d3, Bool.and_false]
                go_wp2
                go_roundw
                case rel => exact ⟨k + 1, by omega, by go_num, by rw [HSt.out, HW.out]; rfl, by first | rfl | trivial⟩
                case measure => simp [intOf]; omega
            · have d2 : decide (0 ≤ p) = false := decide_eq_false h0
              have HW : Hid (wi p (nv : Int) = false) := by show _ = _; unfold wi; rw [d2, Bool.false_and]
              go_wp2
              go_roundw
              case rel => exact ⟨k + 1, by omega, by go_num, by rw [HSt.out, HW.out]; rfl, by first | rfl | trivial⟩
              case measure => simp [intOf]; omega
        · have hke : k = 4 := by omega
          subst hke
          clear hkl hk x0 x1 x2 x3 x4 x5
          obtain ⟨q, hq⟩ : ∃ q, okP op [a, b, c, d] (nv : Int) 4 = q := ⟨_, rfl⟩
          rw [hq]
          have HQ := keep hq
          clear hq
          cases q with
          | false =>
            go_wp2
            go_quiet (fail)
            have HBs : Hid (Below w4.heap.size w4 (wr.drewN nq)) := HB8.out.trans ((below_drewN (Below.refl _ _) nq).mono HB8.out.size)
            generalize wr.drewN nq = ws0 at *
            obtain ⟨kF, kG, kX⟩ := HBx.out ws0 HBs.out
            have f0 := kF.cell 0 rfl
            have f1 := kF.cell 1 rfl
            have f2 := kF.cell 2 rfl
            have f3 := kF.cell 3 rfl
            have g0 := kG.cell 0 rfl
            have g1 := kG.cell 1 rfl
            clear kF kG kX
            by_cases hc1 : k1 = 0
            · subst hc1
              have hck := check_zero HK1.out
              have HC0 := keep hck
              have HR := keep (right_of (f := f) HK1.out)
              clear hck
              by_cases hw0 : (n4 : Int) = pr
              · have hp0 : 0 ≤ pr := by have := HR.out.p0; have := HPr.out; omega
                subst hw0
                have hmm : n4 ≤ 1048576 := by have h1 := HR.out.p1; have h2 := HPr.out; have h3 := HN.out; omega
                have HMk := keep (fun W => make_vars n4 (by omega) W)
                have hmz : (0 : Int) ≤ (n4 : Int) := by omega
                have HSS : Hid (∀ W', Below w4.heap.size w4 W' → W'.cell? ⟨F, 0, none⟩ = some (.slice p1 n1 c1) ∧ W'.cell? ⟨F, 1, none⟩ = some (.slice p2 n2 c2) ∧ W'.cell? ⟨F, 2, none⟩ = some (.int .i64 (n4 : Int)) ∧ W'.cell? ⟨F, 3, none⟩ = some (.slice p3 n3 c3) ∧ W'.cell? ⟨G, 0, none⟩ = some (.slice p4 n4 c4) ∧ W'.cell? ⟨G, 1, none⟩ = some (.slice p5 n5 c5)) := fun W' hW => by
                  obtain ⟨kF, kG, kX⟩ := HBx.out W' hW
                  exact ⟨kF.cell 0 rfl, kF.cell 1 rfl, kF.cell 2 rfl, kF.cell 3 rfl, kG.cell 0 rfl, kG.cell 1 rfl⟩
                go_wp2_with fail
                refine wp_region_noPanic ?_
                refine Ord.wpM_begin (fun W' : World => W'.cell? ⟨F, 0, none⟩ = some (.slice p1 n1 c1) ∧ W'.cell? ⟨F, 1, none⟩ = some (.slice p2 n2 c2) ∧ W'.cell? ⟨F, 2, none⟩ = some (.int .i64 (n4 : Int)) ∧ W'.cell? ⟨F, 3, none⟩ = some (.slice p3 n3 c3) ∧ W'.cell? ⟨G, 0, none⟩ = some (.slice p4 n4 c4) ∧ W'.cell? ⟨G, 1, none⟩ = some (.slice p5 n5 c5)) [0, 1, 2, 3, 4, 5, 6, 7, 8, 9, 10, 11, 12, 13, 14, 15, 16, 17, 18, 19, 20] (by kernel_rfl) ?_
                have HD : Hid (Below w4.heap.size w4 ws0.drew) := HBs.out.trans ((Below.drew (Below.refl _ _)).mono HBs.out.size)
                generalize ws0.drew = wd at *
                have hS := HSS.out wd HD.out
                refine Ord.wpM_take (i := 0) (v := .int .i64 0) (by simp only [List.getElem?_toArray, List.getElem?_cons_zero, List.getElem?_cons_succ]; rfl) (by kernel_rfl) (by kernel_rfl) (by kernel_rfl) (by kernel_rfl) (fun _ _ _ h => h) (Or.inl ⟨by rfl, by intro W' hW; obtain ⟨q0, q1, q2, q3, q4, q5⟩ := hW; go_simp⟩) hS ?_
                try simp only [Act.put, List.setIfInBounds_toArray, List.set_cons_zero, List.set_cons_succ]
                refine Ord.wpM_take (i := 1) (v := .bool false) (by simp only [List.getElem?_toArray, List.getElem?_cons_zero, List.getElem?_cons_succ]; rfl) (by kernel_rfl) (by kernel_rfl) (by kernel_rfl) (by kernel_rfl) (fun _ _ _ h => h) (Or.inl ⟨by rfl, by intro W' hW; obtain ⟨q0, q1, q2, q3, q4, q5⟩ := hW; go_simp⟩) hS ?_
                try simp only [Act.put, List.setIfInBounds_toArray, List.set_cons_zero, List.set_cons_succ]
                refine Ord.wpM_take (i := 2) (v := .bool false) (by simp only [List.getElem?_toArray, List.getElem?_cons_zero, List.getElem?_cons_succ]; rfl) (by kernel_rfl) (by kernel_rfl) (by kernel_rfl) (by kernel_rfl) (fun _ _ _ h => h) (Or.inl ⟨by rfl, by intro W' hW; obtain ⟨q0, q1, q2, q3, q4, q5⟩ := hW; go_simp⟩) hS ?_
                try simp only [Act.put, List.setIfInBounds_toArray, List.set_cons_zero, List.set_cons_succ]
                refine Ord.wpM_take (i := 3) (v := .pointer (some ⟨G, 0, none⟩)) (by simp only [List.getElem?_toArray, List.getElem?_cons_zero, List.getElem?_cons_succ]; rfl) (by kernel_rfl) (by kernel_rfl) (by kernel_rfl) (by kernel_rfl) (fun _ _ _ h => h) (Or.inl ⟨by rfl, by intro W' hW; obtain ⟨q0, q1, q2, q3, q4, q5⟩ := hW; go_simp⟩) hS ?_
                try simp only [Act.put, List.setIfInBounds_toArray, List.set_cons_zero, List.set_cons_succ]
                refine Ord.wpM_take (i := 4) (v := .slice p4 n4 c4) (by simp only [List.getElem?_toArray, List.getElem?_cons_zero, List.getElem?_cons_succ]; rfl) (by kernel_rfl) (by kernel_rfl) (by kernel_rfl) (by kernel_rfl) (fun _ _ _ h => h) (Or.inl ⟨by rfl, by intro W' hW; obtain ⟨q0, q1, q2, q3, q4, q5⟩ := hW; go_simp⟩) hS ?_
                try simp only [Act.put, List.setIfInBounds_toArray, List.set_cons_zero, List.set_cons_succ]
                refine Ord.wpM_take (i := 5) (v := .int .i64 (n4 : Int)) (by simp only [List.getElem?_toArray, List.getElem?_cons_zero, List.getElem?_cons_succ]; rfl) (by kernel_rfl) (by kernel_rfl) (by kernel_rfl) (by kernel_rfl) (fun _ _ _ h => h) (Or.inl ⟨by rfl, by intro W' hW; obtain ⟨q0, q1, q2, q3, q4, q5⟩ := hW; go_simp⟩) hS ?_
                try simp only [Act.put, List.setIfInBounds_toArray, List.set_cons_zero, List.set_cons_succ]
                refine Ord.wpM_take (i := 6) (v := .pointer (some ⟨F, 2, none⟩)) (by simp only [List.getElem?_toArray, List.getElem?_cons_zero, List.getElem?_cons_succ]; rfl) (by kernel_rfl) (by kernel_rfl) (by kernel_rfl) (by kernel_rfl) (fun _ _ _ h => h) (Or.inl ⟨by rfl, by intro W' hW; obtain ⟨q0, q1, q2, q3, q4, q5⟩ := hW; go_simp⟩) hS ?_
                try simp only [Act.put, List.setIfInBounds_toArray, List.set_cons_zero, List.set_cons_succ]
                refine Ord.wpM_take (i := 7) (v := .int .i64 (n4 : Int)) (by simp only [List.getElem?_toArray, List.getElem?_cons_zero, List.getElem?_cons_succ]; rfl) (by kernel_rfl) (by kernel_rfl) (by kernel_rfl) (by kernel_rfl) (fun _ _ _ h => h) (Or.inl ⟨by rfl, by intro W' hW; obtain ⟨q0, q1, q2, q3, q4, q5⟩ := hW; go_simp⟩) hS ?_
                try simp only [Act.put, List.setIfInBounds_toArray, List.set_cons_zero, List.set_cons_succ]
                refine Ord.wpM_take (i := 8) (v := .bool false) (by simp only [List.getElem?_toArray, List.getElem?_cons_zero, List.getElem?_cons_succ]; rfl) (by kernel_rfl) (by kernel_rfl) (by kernel_rfl) (by kernel_rfl) (fun _ _ _ h => h) (Or.inl ⟨by rfl, by intro W' hW; obtain ⟨q0, q1, q2, q3, q4, q5⟩ := hW; go_simp⟩) hS ?_
                try simp only [Act.put, List.setIfInBounds_toArray, List.set_cons_zero, List.set_cons_succ]
                refine Ord.wpM_take (i := 9) (v := .bool false) (by simp only [List.getElem?_toArray, List.getElem?_cons_zero, List.getElem?_cons_succ]; rfl) (by kernel_rfl) (by kernel_rfl) (by kernel_rfl) (by kernel_rfl) (fun _ _ _ h => h) (Or.inl ⟨by rfl, by intro W' hW; obtain ⟨q0, q1, q2, q3, q4, q5⟩ := hW; go_simp⟩) hS ?_
                try simp only [Act.put, List.setIfInBounds_toArray, List.set_cons_zero, List.set_cons_succ]
                refine Ord.wpM_take (i := 10) (v := .bool false) (by simp only [List.getElem?_toArray, List.getElem?_cons_zero, List.getElem?_cons_succ]; rfl) (by kernel_rfl) (by kernel_rfl) (by kernel_rfl) (by kernel_rfl) (fun _ _ _ h => h) (Or.inl ⟨by rfl, by intro W' hW; obtain ⟨q0, q1, q2, q3, q4, q5⟩ := hW; go_simp⟩) hS ?_
                try simp only [Act.put, List.setIfInBounds_toArray, List.set_cons_zero, List.set_cons_succ]
                refine Ord.wpM_take (i := 11) (v := .pointer (some ⟨F, 2, none⟩)) (by simp only [List.getElem?_toArray, List.getElem?_cons_zero, List.getElem?_cons_succ]; rfl) (by kernel_rfl) (by kernel_rfl) (by kernel_rfl) (by kernel_rfl) (fun _ _ _ h => h) (Or.inl ⟨by rfl, by intro W' hW; obtain ⟨q0, q1, q2, q3, q4, q5⟩ := hW; go_simp⟩) hS ?_
                try simp only [Act.put, List.setIfInBounds_toArray, List.set_cons_zero, List.set_cons_succ]
                refine Ord.wpM_take (i := 12) (v := .int .i64 (n4 : Int)) (by simp only [List.getElem?_toArray, List.getElem?_cons_zero, List.getElem?_cons_succ]; rfl) (by kernel_rfl) (by kernel_rfl) (by kernel_rfl) (by kernel_rfl) (fun _ _ _ h => h) (Or.inl ⟨by rfl, by intro W' hW; obtain ⟨q0, q1, q2, q3, q4, q5⟩ := hW; go_simp⟩) hS ?_
                try simp only [Act.put, List.setIfInBounds_toArray, List.set_cons_zero, List.set_cons_succ]
                refine Ord.wpM_take (i := 14) (v := .pointer (some ⟨F, 3, none⟩)) (by simp only [List.getElem?_toArray, List.getElem?_cons_zero, List.getElem?_cons_succ]; rfl) (by kernel_rfl) (by kernel_rfl) (by kernel_rfl) (by kernel_rfl) (fun _ _ _ h => h) (Or.inl ⟨by rfl, by intro W' hW; obtain ⟨q0, q1, q2, q3, q4, q5⟩ := hW; go_simp⟩) hS ?_
                try simp only [Act.put, List.setIfInBounds_toArray, List.set_cons_zero, List.set_cons_succ]
                refine Ord.wpM_take (i := 15) (v := .slice p3 n3 c3) (by simp only [List.getElem?_toArray, List.getElem?_cons_zero, List.getElem?_cons_succ]; rfl) (by kernel_rfl) (by kernel_rfl) (by kernel_rfl) (by kernel_rfl) (fun _ _ _ h => h) (Or.inl ⟨by rfl, by intro W' hW; obtain ⟨q0, q1, q2, q3, q4, q5⟩ := hW; go_simp⟩) hS ?_
                try simp only [Act.put, List.setIfInBounds_toArray, List.set_cons_zero, List.set_cons_succ]
                refine Ord.wpM_take (i := 17) (v := .agg #[.slice p4 n4 c4, .slice p5 n5 c5]) (by simp only [List.getElem?_toArray, List.getElem?_cons_zero, List.getElem?_cons_succ]; rfl) (by kernel_rfl) (by kernel_rfl) (by kernel_rfl) (by kernel_rfl) (fun _ _ _ h => h) (Or.inl ⟨by rfl, by intro W' hW; obtain ⟨q0, q1, q2, q3, q4, q5⟩ := hW; go_simp⟩) hS ?_
                try simp only [Act.put, List.setIfInBounds_toArray, List.set_cons_zero, List.set_cons_succ]
                have hmk := HMk.out wd
                obtain ⟨wv, hwv⟩ : ∃ y, wd.alloc (.cells (madeCells #[.string ⟨#[]⟩, .bool false, .int .i64 0] (n4 * 3)) 75) = y := ⟨_, rfl⟩
                obtain ⟨VB, hVB⟩ : ∃ y, wd.heap.size = y := ⟨_, rfl⟩
                have HBv : Hid (Below w4.heap.size w4 wv) := by show Below _ _ _; rw [← hwv]; exact HD.out.trans ((Below.refl _ _).alloc HD.out.size _)
                have HVr : Hid (VrIs wv wv.heap.size (List.replicate n4 zV) (.slice (some ⟨VB, 0, none⟩) n4 n4)) := by
                  have h1 := vars_zero wd n4 (by omega)
                  rw [hwv, hVB] at h1
                  have h2 : wv.heap.size = wd.heap.size + 1 := by rw [← hwv]; simp
                  rw [h2, hVB]; exact h1
                rw [hwv, hVB] at hmk
                have HFt := keep (rfits_any wv.heap.size (List.replicate n4 zV) f.arrs _ _ (.slice none 0 0) ws aa _ wv (Nat.le_refl _) HVr.out (VrIs_mono (HIn.out wv HBv.out).2.1.arrs (HIn.out wv HBv.out).1) ⟨_, _, _, rfl⟩ (GvIs_mono (HIn.out wv HBv.out).2.2.1 (HIn.out wv HBv.out).1) (fun _ _ j _ => by have h1 := sumL_le aa j; have h2 := HT1.out; omega))
                clear hwv hVB
                refine Ord.wpM_one (i := 13) (by kernel_rfl) (by simp only [List.getElem?_toArray, List.getElem?_cons_zero, List.getElem?_cons_succ]; rfl) (fun K hK => ?_)
                go_simp
                refine hK.out _ _ (fun _ => HSS.out wv HBv.out) ?_
                clear hK K hmk
                try simp only [Act.put, List.setIfInBounds_toArray, List.set_cons_zero, List.set_cons_succ]
                have hS := HSS.out wv HBv.out
                refine Ord.wpM_take (i := 16) (v := .agg #[.slice (some ⟨VB, 0, none⟩) n4 n4, .slice p3 n3 c3, .slice none 0 0]) (by simp only [List.getElem?_toArray, List.getElem?_cons_zero, List.getElem?_cons_succ]; rfl) (by kernel_rfl) (by kernel_rfl) (by kernel_rfl) (by kernel_rfl) (fun _ _ _ h => h) (Or.inl ⟨by rfl, by intro W' hW; obtain ⟨q0, q1, q2, q3, q4, q5⟩ := hW; go_simp⟩) hS ?_
                try simp only [Act.put, List.setIfInBounds_toArray, List.set_cons_zero, List.set_cons_succ]
                refine Ord.wpM_one (i := 18) (by kernel_rfl) (by simp only [List.getElem?_toArray, List.getElem?_cons_zero, List.getElem?_cons_succ]; rfl) (fun K hK => ?_)
                go_simp
                refine HFt.out.mono ?_
                rintro r wf ⟨cc, rfl, hcc, hbf⟩
                have HBf := keep (HBv.out.trans (hbf.mono HBv.out.size))
                clear hbf HFt
                go_simp
                refine hK.out _ _ (fun _ => HSS.out wf HBf.out) ?_
                clear hK K
                try simp only [Act.put, List.setIfInBounds_toArray, List.set_cons_zero, List.set_cons_succ]
                have hS := HSS.out wf HBf.out
                cases hcc with
                | many hh =>
                  refine Ord.wpM_take (i := 19) (v := .bool true) (by simp only [List.getElem?_toArray, List.getElem?_cons_zero, List.getElem?_cons_succ]; rfl) (by kernel_rfl) (by kernel_rfl) (by kernel_rfl) (by kernel_rfl) (fun _ _ _ h => h) (Or.inl ⟨by rfl, by intro W' hW; obtain ⟨q0, q1, q2, q3, q4, q5⟩ := hW; go_simp⟩) hS ?_
                  try simp only [Act.put, List.setIfInBounds_toArray, List.set_cons_zero, List.set_cons_succ]
                  refine Ord.wpM_take (i := 20) (v := .bool true) (by simp only [List.getElem?_toArray, List.getElem?_cons_zero, List.getElem?_cons_succ]; rfl) (by kernel_rfl) (by kernel_rfl) (by kernel_rfl) (by kernel_rfl) (fun _ _ _ h => h) (Or.inl ⟨by rfl, by intro W' hW; obtain ⟨q0, q1, q2, q3, q4, q5⟩ := hW; go_simp⟩) hS ?_
                  try simp only [Act.put, List.setIfInBounds_toArray, List.set_cons_zero, List.set_cons_succ]
                  refine Ord.wpM_done (by kernel_rfl) ?_ _
                  refine NoPanic.normal ?_
                  clear HSS hS
                  go_wp2
                  go_ret
                  exact ⟨rfl, HBw.out _ HBf.out⟩
                | range hh1 hh2 =>
                  refine Ord.wpM_take (i := 19) (v := .bool true) (by simp only [List.getElem?_toArray, List.getElem?_cons_zero, List.getElem?_cons_succ]; rfl) (by kernel_rfl) (by kernel_rfl) (by kernel_rfl) (by kernel_rfl) (fun _ _ _ h => h) (Or.inl ⟨by rfl, by intro W' hW; obtain ⟨q0, q1, q2, q3, q4, q5⟩ := hW; go_simp⟩) hS ?_
                  try simp only [Act.put, List.setIfInBounds_toArray, List.set_cons_zero, List.set_cons_succ]
                  refine Ord.wpM_take (i := 20) (v := .bool true) (by simp only [List.getElem?_toArray, List.getElem?_cons_zero, List.getElem?_cons_succ]; rfl) (by kernel_rfl) (by kernel_rfl) (by kernel_rfl) (by kernel_rfl) (fun _ _ _ h => h) (Or.inl ⟨by rfl, by intro W' hW; obtain ⟨q0, q1, q2, q3, q4, q5⟩ := hW; go_simp⟩) hS ?_
                  try simp only [Act.put, List.setIfInBounds_toArray, List.set_cons_zero, List.set_cons_succ]
                  refine Ord.wpM_done (by kernel_rfl) ?_ _
                  refine NoPanic.normal ?_
                  clear HSS hS
                  go_wp2
                  go_ret
                  exact ⟨rfl, HBw.out _ HBf.out⟩
                | ok hh1 hh2 =>
                  refine Ord.wpM_take (i := 19) (v := .bool false) (by simp only [List.getElem?_toArray, List.getElem?_cons_zero, List.getElem?_cons_succ]; rfl) (by kernel_rfl) (by kernel_rfl) (by kernel_rfl) (by kernel_rfl) (fun _ _ _ h => h) (Or.inl ⟨by rfl, by intro W' hW; obtain ⟨q0, q1, q2, q3, q4, q5⟩ := hW; go_simp⟩) hS ?_
                  try simp only [Act.put, List.setIfInBounds_toArray, List.set_cons_zero, List.set_cons_succ]
                  refine Ord.wpM_take (i := 20) (v := .bool false) (by simp only [List.getElem?_toArray, List.getElem?_cons_zero, List.getElem?_cons_succ]; rfl) (by kernel_rfl) (by kernel_rfl) (by kernel_rfl) (by kernel_rfl) (fun _ _ _ h => h) (Or.inl ⟨by rfl, by intro W' hW; obtain ⟨q0, q1, q2, q3, q4, q5⟩ := hW; go_simp⟩) hS ?_
                  try simp only [Act.put, List.setIfInBounds_toArray, List.set_cons_zero, List.set_cons_succ]
                  refine Ord.wpM_done (by kernel_rfl) ?_ _
                  refine NoPanic.normal ?_
                  clear HSS hS
                  have HSh : Hid (Shape (List.replicate f.params.toNat zV) f.arrs ws aa) := by show Shape _ _ _ _; rw [HPr.out, Int.toNat_natCast]; exact hh1
                  have HAW := keep hh2
                  clear hh1 hh2
                  clear f0 f1 f2 f3 g0 g1
                  obtain ⟨kF, kG, kX⟩ := HBx.out wf HBf.out
                  have f0 := kF.cell 0 rfl
                  have f1 := kF.cell 1 rfl
                  have f2 := kF.cell 2 rfl
                  have f3 := kF.cell 3 rfl
                  have g0 := kG.cell 0 rfl
                  have g1 := kG.cell 1 rfl
                  clear kF kG kX
                  have HT9 := keep (HTk.out wf HBf.out)
                  obtain ⟨i1, i2, i3, i4⟩ := HIn.out wf HBf.out
                  have HPm : Hid (f.sec.length ≤ 17592186044416 ∧ f.params ≤ 8796093022208) := ⟨by have := HN.out; omega, by have h1 := HN.out; have h2 := HR.out.p1; omega⟩
                  have HSu : Hid (sumL aa ≤ 1048576) := by have := HT1.out; show _ ≤ _; omega
                  have HRn := keep (run_any B f T _ _ _ ws aa _ wf i1 i2 i3 HC0.out HTR.out.t7 HPm.out.1 HPm.out.2 HSh.out HAW.out HSu.out)
                  unfold fxA at HRn
                  rw [HPr.out] at HRn
                  clear i1 i2 i3 i4
                  go_wp2_with (first | refine Tb.load_tab rfl _ rfl TB rfl T HT9.out ?_ | fail)
                  refine HRn.out.mono ?_
                  rintro r w9 ⟨ls, e, v, sA, hr1, rfl, hlk1, har1, hb9⟩
                  obtain ⟨pl, cl, rfl⟩ := lks_slice hlk1
                  obtain ⟨pa, na, ca, rfl⟩ := har1.slice
                  have HB9 := keep (HBf.out.trans (hb9.mono HBf.out.size))
                  obtain ⟨w10, hw10⟩ : ∃ y, w9.alloc (.cells #[.int .i64 e.word, .bool e.trap, .slice pa na ca] 51) = y := ⟨_, rfl⟩
                  obtain ⟨E1, hE1⟩ : ∃ y, w9.heap.size = y := ⟨_, rfl⟩
                  have hb10 : Below w9.heap.size w9 w10 := by rw [← hw10]; exact (Below.refl _ _).alloc (Nat.le_refl _) _
                  have kE1 : Bk w10 E1 [.int .i64 e.word, .bool e.trap, .slice pa na ca] 51 := by rw [← hw10, ← hE1]; exact Bk.new _ _ _
                  have HB10 := keep (HB9.out.trans (hb10.mono HB9.out.size))
                  have HLk1 := keep (hlk1.below hb10)
                  have HAr1 := keep (har1.below hb10)
                  have HL1s : Hid (w9.heap.size ≤ w10.heap.size) := hb10.size
                  have HRu1 := keep hr1
                  have HW10 := keep hw10
                  have HE1 := keep hE1
                  have HkE1 := keep kE1
                  clear hb9 HRn hr1 hlk1 har1 hw10 hE1 hb10 HT9 kE1 f0 f1 f2 f3 g0 g1
                  obtain ⟨kF, kG, kX⟩ := HBx.out w10 HB10.out
                  have f0 := kF.cell 0 rfl
                  have f1 := kF.cell 1 rfl
                  have f2 := kF.cell 2 rfl
                  have f3 := kF.cell 3 rfl
                  have g0 := kG.cell 0 rfl
                  have g1 := kG.cell 1 rfl
                  clear kF kG kX
                  have HT10 := keep (HTk.out w10 HB10.out)
                  obtain ⟨i1, i2, i3, i4⟩ := HIn.out w10 HB10.out
                  have HRn := keep (rrun_any B f T _ _ _ ws aa _ w10 i1 i2 i3 HC0.out HTR.out HPm.out.1 HSh.out HAW.out HSu.out (by have h1 := HSh.out.a; have h2 := HNa.out; omega))
                  unfold fxA at HRn
                  rw [HPr.out] at HRn
                  clear i1 i2 i3 i4
                  go_wp2_with (first | rw [HW10.out, HE1.out] | refine Tb.load_tab rfl _ rfl TB rfl T HT10.out ?_ | fail)
                  refine HRn.out.mono ?_
                  rintro r w11 ⟨ls', e', v', sA', hr2, rfl, hlk2, har2, hb11⟩
                  obtain ⟨rfl, rfl⟩ := runs_det HRu1.out hr2
                  obtain ⟨pl', cl', rfl⟩ := lks_slice hlk2
                  obtain ⟨pa', na', ca', rfl⟩ := har2.slice
                  have HB11 := keep (HB10.out.trans (hb11.mono HB10.out.size))
                  obtain ⟨w12, hw12⟩ : ∃ y, w11.alloc (.cells #[.int .i64 e.word, .bool e.trap, .slice pa' na' ca'] 51) = y := ⟨_, rfl⟩
                  obtain ⟨E2, hE2⟩ : ∃ y, w11.heap.size = y := ⟨_, rfl⟩
                  have hb12 : Below w11.heap.size w11 w12 := by rw [← hw12]; exact (Below.refl _ _).alloc (Nat.le_refl _) _
                  have kE2 : Bk w12 E2 [.int .i64 e.word, .bool e.trap, .slice pa' na' ca'] 51 := by rw [← hw12, ← hE2]; exact Bk.new _ _ _
                  have HB12 := keep (HB11.out.trans (hb12.mono HB11.out.size))
                  have hb1112 : Below w10.heap.size w10 w12 := hb11.trans (hb12.mono hb11.size)
                  have kE1 := HkE1.out.fs (Fs.of_below (l := []) hb1112) (by simp)
                  have e0 := kE1.cell 0 rfl
                  have e1 := kE1.cell 1 rfl
                  have e2 := kE1.cell 2 rfl
                  have e3 := kE2.cell 0 rfl
                  have e4 := kE2.cell 1 rfl
                  have e5 := kE2.cell 2 rfl
                  have HSe := keep (sameEnded_any w12.heap.size e _ _ w12 (Nat.le_refl _) (ArrsIs_mono (HAr1.out.below (hb1112.mono HL1s.out)) (by have h1 := hb1112.size; have h3 := HL1s.out; omega)) (ArrsIs_mono (har2.below hb12) hb12.size))
                  have HSl := keep (fun W (hW : Below w12.heap.size w12 W) => sameLeaks_any W.heap.size ls _ _ W (Nat.le_refl _) ((HLk1.out.below ((hb1112.trans (hW.mono hb1112.size)).mono HL1s.out)).mono (by have h1 := hb1112.size; have h2 := hW.size; have h3 := HL1s.out; omega)) ((hlk2.below (hb12.trans (hW.mono hb12.size))).mono (by have h1 := hb12.size; have h2 := hW.size; omega)))
                  have HW12 := keep hw12
                  have HE2 := keep hE2
                  clear HRn hr2 hlk2 har2 hb11 hw12 hE2 hb12 HT10 hb1112 kE1 kE2 f0 f1 f2 f3 g0 g1
                  go_wp2_with (first | rw [HW12.out, HE2.out] | fail)
                  refine HSe.out.mono ?_
                  rintro r w13 ⟨rfl, hb13⟩
                  have HB13 := keep (HB12.out.trans (hb13.mono HB12.out.size))
                  have HSl2 := keep (HSl.out w13 hb13)
                  clear hb13 HSl HSe e0 e1 e2 e3 e4 e5
                  go_wp2_with fail
                  refine HSl2.out.mono ?_
                  rintro r w14 ⟨rfl, hb14⟩
                  have HB14 := keep (HB13.out.trans (hb14.mono HB13.out.size))
                  clear hb14 HSl2
                  go_wp2
                  go_ret
                  exact ⟨rfl, HBw.out _ HB14.out⟩
              · have hnn : ((n4 : Int) != pr) = true := by rw [bne_iff_ne]; exact hw0
                clear hw0
                go_wp2
                go_quiet (fail)
                go_wp2
                go_ret
                exact ⟨rfl, HBw.out _ (HBs.out.trans ((below_drewN (Below.refl _ _) nq).mono HBs.out.size))⟩
            · have hcn : (k1 != 0) = true := by rw [bne_iff_ne]; exact hc1
              clear hc1
              go_wp2
              go_quiet (fail)
              go_wp2
              go_ret
              exact ⟨rfl, HBw.out _ (HBs.out.trans ((below_drewN (Below.refl _ _) nq).mono HBs.out.size))⟩
          | true =>
            exact absurd HQ.out (by rw [okP_no HO0.out]; simp)
  · have hne : (z != 0) = true := by rw [bne_iff_ne]; exact hz0
    clear hz0 HZ
    go_wp2
    go_ret
    exact ⟨rfl, HBw.out _ HB7.out⟩
end Go.Proofs.Ytfbmkcogkiejnaa.Fl
