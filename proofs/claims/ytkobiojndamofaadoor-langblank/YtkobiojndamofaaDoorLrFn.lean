/- Programs as they lie in memory; the document's own SameFn. -/
import Derived.Test.YtkobiojndamofaaDoorLrStmts
namespace Go.Proofs.YtkobiojndamofaaDoor.Lr
set_option linter.unusedVariables false
open Go.ChangeShapes Go.WideShapes Go.ChangeAt Go.RowKit Lg

/-- The value v is a program, in blocks below B. -/
def FnIs (w : World) (B e m : Nat) (f : Lg.Fn) (v : Value) : Prop := ∃ s1 s2 s3, v = .agg #[s1, s2, s3] ∧ VrIs w B f.params s1 ∧ VrIs w B f.arrays s2 ∧ StIs w B e m f.body s3
theorem FnIs.below {w w' : World} {B e m : Nat} {f : Lg.Fn} {v : Value} (hb : Below B w w') (h : FnIs w B e m f v) : FnIs w' B e m f v := by
  obtain ⟨s1, s2, s3, h0, h1, h2, h3⟩ := h
  exact ⟨s1, s2, s3, h0, h1.below hb, h2.below hb, h3.below hb⟩
theorem VrIs.slice {w : World} {B : Nat} {l : List Vr} {sl : Value} (h : VrIs w B l sl) : ∃ p n cap, sl = .slice p n cap := by
  obtain ⟨p, n, cap, h1, _⟩ := h
  exact ⟨p, n, cap, h1⟩

set_option maxHeartbeats 4000000 in
set_option maxRecDepth 100000 in
theorem sameF_any (B e m : Nat) (f g : Lg.Fn) (va vb : Value) (w : World) (hB : B ≤ w.heap.size) (ha : FnIs w B e m f va) (hb : FnIs w B e m g vb) :
    Calls Tryd.prog 8 #[va, vb] w fun r w' => ∃ v : Bool, r = .returned (.bool v) ∧ (v = true ↔ f = g) ∧ Below w.heap.size w w' := by
  obtain ⟨s1, s2, s3, rfl, x1, x2, x3⟩ := ha
  obtain ⟨t1, t2, t3, rfl, y1, y2, y3⟩ := hb
  obtain ⟨p1, n1, c1, rfl⟩ := x1.slice
  obtain ⟨p2, n2, c2, rfl⟩ := x2.slice
  obtain ⟨p3, n3, c3, rfl⟩ := x3.slice
  obtain ⟨q1, m1, d1, rfl⟩ := y1.slice
  obtain ⟨q2, m2, d2, rfl⟩ := y2.slice
  obtain ⟨q3, m3, d3, rfl⟩ := y3.slice
  have H1 : Hid (∀ W, Below w.heap.size w W → Calls Tryd.prog 15 #[.slice p1 n1 c1, .slice q1 m1 d1] W fun r w' => ∃ v : Bool, r = .returned (.bool v) ∧ (v = true ↔ f.params = g.params) ∧ Below W.heap.size W w') :=
    fun W hW => sameV_any B _ _ _ _ W (Nat.le_trans hB hW.size) (x1.below (hW.mono hB)) (y1.below (hW.mono hB))
  have H2 : Hid (∀ W, Below w.heap.size w W → Calls Tryd.prog 15 #[.slice p2 n2 c2, .slice q2 m2 d2] W fun r w' => ∃ v : Bool, r = .returned (.bool v) ∧ (v = true ↔ f.arrays = g.arrays) ∧ Below W.heap.size W w') :=
    fun W hW => sameV_any B _ _ _ _ W (Nat.le_trans hB hW.size) (x2.below (hW.mono hB)) (y2.below (hW.mono hB))
  have H3 : Hid (∀ W, Below w.heap.size w W → Calls Tryd.prog 16 #[.slice p3 n3 c3, .slice q3 m3 d3] W fun r w' => ∃ v : Bool, r = .returned (.bool v) ∧ (v = true ↔ f.body = g.body) ∧ Below W.heap.size W w') :=
    fun W hW => sameS_any B e m _ _ _ _ W (Nat.le_trans hB hW.size) (x3.below (hW.mono hB)) (y3.below (hW.mono hB))
  have HB2 : Hid (Below w.heap.size w ((w.alloc (.cells #[.slice p1 n1 c1, .slice p2 n2 c2, .slice p3 n3 c3] 26)).alloc (.cells #[.slice q1 m1 d1, .slice q2 m2 d2, .slice q3 m3 d3] 26))) :=
    ((Below.refl _ _).alloc (Nat.le_refl _) _).alloc (by simp) _
  have HF : Hid (f = g ↔ f.params = g.params ∧ f.arrays = g.arrays ∧ f.body = g.body) := by
    obtain ⟨f1, f2, f3⟩ := f
    obtain ⟨g1, g2, g3⟩ := g
    exact ⟨fun h => by injection h with h1 h2 h3; exact ⟨h1, h2, h3⟩, fun ⟨h1, h2, h3⟩ => by simp only at h1 h2 h3; rw [h1, h2, h3]⟩
  clear x1 x2 x3 y1 y2 y3 hB
  go_enter Tryd.func8, Tryd.ntmps8
  go_wp2_with fail
  refine (H1.out _ HB2.out).mono ?_
  rintro r w3 ⟨v1, rfl, hv1, hb3⟩
  have HV1 := keep hv1
  have HB3 := keep (HB2.out.trans (hb3.mono HB2.out.size))
  have a1 : w3.cell? ⟨w.heap.size, 1, none⟩ = some (.slice p2 n2 c2) := keep_cell hb3 (by simp)
  have a2 : w3.cell? ⟨w.heap.size, 2, none⟩ = some (.slice p3 n3 c3) := keep_cell hb3 (by simp)
  have b1 : w3.cell? ⟨w.heap.size + 1, 1, none⟩ = some (.slice q2 m2 d2) := keep_cell hb3 (by simp)
  have b2 : w3.cell? ⟨w.heap.size + 1, 2, none⟩ = some (.slice q3 m3 d3) := keep_cell hb3 (by simp)
  clear hv1 hb3 HB2 H1
  cases v1 with
  | false =>
    have HQ : Hid (¬ f = g) := fun h => Bool.noConfusion (HV1.out.2 (HF.out.1 h).1)
    clear HV1 HF
    go_wp2
    go_ret
    exact ⟨false, rfl, no_iff HQ.out, HB3.out⟩
  | true =>
    have HE1 := keep (HV1.out.1 rfl)
    clear HV1
    go_wp2_with fail
    refine (H2.out _ HB3.out).mono ?_
    rintro r w4 ⟨v2, rfl, hv2, hb4⟩
    have HV2 := keep hv2
    have HB4 := keep (HB3.out.trans (hb4.mono HB3.out.size))
    have a2' := keep_cell hb4 a2
    have b2' := keep_cell hb4 b2
    clear hv2 hb4 a1 a2 b1 b2 HB3 H2
    cases v2 with
    | false =>
      have HQ : Hid (¬ f = g) := fun h => Bool.noConfusion (HV2.out.2 (HF.out.1 h).2.1)
      clear HV2 HF
      go_wp2
      go_ret
      exact ⟨false, rfl, no_iff HQ.out, HB4.out⟩
    | true =>
      have HE2 := keep (HV2.out.1 rfl)
      clear HV2
      go_wp2_with fail
      refine (H3.out _ HB4.out).mono ?_
      rintro r w5 ⟨v3, rfl, hv3, hb5⟩
      have HQ : Hid (v3 = true ↔ f = g) := ⟨fun h => HF.out.2 ⟨HE1.out, HE2.out, hv3.1 h⟩, fun h => hv3.2 (HF.out.1 h).2.2⟩
      have HB5 := keep (HB4.out.trans (hb5.mono HB4.out.size))
      clear hv3 hb5 HB4 H3 HF
      go_wp2
      go_ret
      exact ⟨v3, rfl, HQ.out, HB5.out⟩
end Go.Proofs.YtkobiojndamofaaDoor.Lr
