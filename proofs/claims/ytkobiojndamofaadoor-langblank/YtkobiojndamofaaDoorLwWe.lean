/- The program's own writer: so many expressions. -/
import Derived.Test.YtkobiojndamofaaDoorLwBr
namespace Go.Proofs.YtkobiojndamofaaDoor.Lr
set_option linter.unusedVariables false
open Go.ChangeShapes Go.WideShapes Go.ChangeAt Go.RowKit Lg

theorem WO.lt {w : World} {b lo : Nat} {out : List UInt8} (h : WO w b lo out) : b < lo := by obtain ⟨v, h⟩ := h; exact h.lt
theorem WO.le {w : World} {b lo : Nat} {out : List UInt8} (h : WO w b lo out) : lo ≤ w.heap.size := by obtain ⟨v, h⟩ := h; exact h.le
/-- What lies below B stays. -/
theorem Fw.below {w w' : World} {B b lo : Nat} (h : Fw b lo w w') (hB : B ≤ b) (hb : b < lo) (hs : lo ≤ w.heap.size) : Below B w w' := ⟨h.os, h.tape, h.output, h.size, fun k hk => h.low k (by omega) (by omega) (by omega)⟩
theorem gl_le {B b : Nat} (h : GL B) (hb : B ≤ b) : GL b := ⟨Nat.lt_of_lt_of_le h.1 hb, Nat.lt_of_lt_of_le h.2 hb⟩
theorem Tabs.wrote {w w' : World} {B b lo : Nat} {o p : List UInt8} (ht : Tabs w) (hB : B ≤ b) (hg : GL B) (h : WO w b lo o) (hw : Fw b lo w w') : Tabs w' :=
  ht.fw hw (gl_le hg hB) (gl_le hg (Nat.le_trans hB (Nat.le_of_lt h.lt)))
/-- An expression is written, where m may stand within one another. -/
def PW (B b lo m : Nat) : Prop := ∀ (n : Nat) (e : Ex) (sl : Value) (out : List UInt8) (w : World), m ≤ n → ExIs w B n e sl → wfE m e → WO w b lo out → Tabs w → (addsW out (toksE m e)).length ≤ 1000000 →
  Calls Tryd.prog 18 #[.pointer (some ⟨b, 0, none⟩), .agg (exA e sl)] w fun r w' => r = .returned (.tuple #[]) ∧ Wrote b lo w (addsW out (toksE m e)) w'

theorem adds_take {α : Type} (f : α → List (List UInt8)) (out : List UInt8) (us : List α) (k : Nat) (x : α) (h : us[k]? = some x) : addsW out ((us.take (k + 1)).flatMap f) = addsW (addsW out ((us.take k).flatMap f)) (f x) := by
  rw [List.take_add_one, h, List.flatMap_append, adds_app]
  simp
theorem adds_take_le {α : Type} (f : α → List (List UInt8)) (out : List UInt8) (us : List α) (k : Nat) : (addsW out ((us.take k).flatMap f)).length ≤ (addsW out (us.flatMap f)).length := by
  have h : us.flatMap f = (us.take k).flatMap f ++ (us.drop k).flatMap f := by rw [← List.flatMap_append, List.take_append_drop]
  rw [h, adds_app]
  exact adds_le _ _

set_option maxHeartbeats 4000000 in
set_option maxRecDepth 100000 in
theorem exprs_wr (B b lo m : Nat) (hB : B ≤ b) (hg : GL B) (ih : PW B b lo m) (n : Nat) (hmn : m ≤ n) (us : List Ex) (hwf : ∀ a ∈ us, wfE m a) (sl : Value) (z : Int) (hz : z = (us.length : Int)) (out : List UInt8) (w : World)
    (hx : ExIs w B (n + 1) (ar us) sl) (h : WO w b lo out) (ht : Tabs w) (hl : (addsW out (us.flatMap (toksE m))).length ≤ 1000000) :
    Calls Tryd.prog 43 #[.pointer (some ⟨b, 0, none⟩), sl, .int .i64 z] w fun r w' => r = .returned (.tuple #[]) ∧ Wrote b lo w (addsW out (us.flatMap (toksE m))) w' := by
  obtain ⟨p, na, cap, rfl, hna, hca, hla, hea⟩ := hx.parts
  have hna : us.length = na := hna
  have hea : ∀ j a, us[j]? = some a → ∃ g o sl', p = some ⟨g, o, none⟩ ∧ g < B ∧ ExAt w g (o + j * 4) a sl' ∧ ExIs w B n a sl' := hea
  rw [hna] at hz
  subst hz
  have HE := keep hea
  have HN := keep hna
  have IH := keep ih
  have HW := keep h
  have HT := keep ht
  have HL := keep hl
  have HWf := keep hwf
  have HG := keep hg
  clear hx hea hna ih h ht hl hwf hg
  go_enter Tryd.func43, Tryd.ntmps43
  go_wp2
  go_loopw [8] (fun i wx => ∃ k : Nat, k ≤ na ∧ i = .int .i64 (k : Int) ∧ Wrote b lo w (addsW out ((us.take k).flatMap (toksE m))) wx) (fun i _ => na - (intOf i).toNat)
  case atStart => exact ⟨0, by omega, rfl, by simpa [addsW] using HW.out, Fw.refl _ _ _⟩
  case round =>
    obtain ⟨k, hkn, rfl, hwr⟩ := hrel
    have HR := keep hwr
    clear hwr
    by_cases hkl : k < na
    · have d1 : decide ((k : Int) < (na : Int)) = true := decide_eq_true (by omega)
      have hkz : (k : Int) < (na : Int) := by omega
      have hk0 : (0 : Int) ≤ (k : Int) := by omega
      obtain ⟨x, hx⟩ : ∃ x, us[k]? = some x := ⟨_, List.getElem?_eq_getElem (by rw [HN.out]; exact hkl)⟩
      obtain ⟨g, o, slx, rfl, hgB, hax, hex⟩ := HE.out k x hx
      have hbel := HR.out.2.below hB HW.out.lt HW.out.le
      have hax := hax.below hbel hgB
      have a0 := hax.c0
      have a1 := hax.c1
      have a2 := hax.c2
      have a3 := hax.c3
      have HS := keep (adds_take (toksE m) out us k x hx)
      have hle := adds_take_le (toksE m) out us (k + 1)
      have HC := keep (IH.out n x slx _ wr hmn (hex.below hbel) (HWf.out x (List.mem_of_getElem? hx)) HR.out.1 (HT.out.wrote (p := []) hB HG.out HW.out HR.out.2) (by rw [← HS.out]; exact Nat.le_trans hle HL.out))
      clear hx hex hax hbel hle HE
      unfold exA at HC
      go_wp2_with (first
        | (go_at_call 18; refine HC.out.mono ?_; rintro e w1 ⟨rfl, h1⟩; have H1 := keep h1; clear h1 HC)
        | fail)
      go_roundw
      case rel => exact ⟨k + 1, by omega, by go_num, by rw [HS.out]; exact HR.out.trans H1.out⟩
      case measure => simp [intOf]; omega
    · have hke : k = na := by omega
      subst hke
      have dk : decide ((k : Int) < (k : Int)) = false := decide_eq_false (by omega)
      have HT2 : Hid (us.take k = us) := List.take_of_length_le (by rw [HN.out]; exact Nat.le_refl _)
      clear hkl
      go_wp2
      go_end0
      refine ⟨rfl, ?_⟩
      have := HR.out
      rw [HT2.out] at this
      exact this
end Go.Proofs.YtkobiojndamofaaDoor.Lr
