/- THE SAME WAY: FlowWays, walked. Written by tools/gen_flways.py. -/
import Derived.Test.YtfbmkcogkiejnaaFlAlive
import Derived.Test.YtfbmkcogkiejnaaFrCheck
namespace Go.Proofs.Ytfbmkcogkiejnaa.Fl
set_option linter.unusedVariables false
set_option linter.unusedSimpArgs false
open Go.ChangeShapes Go.WideShapes Go.ChangeAt Go.RowKit Lg Lr

theorem chkL_zero (f : Fx) : ∀ (l : List Ix) (n : Int), (chkL f n l).1 = 0 → chkL f n l = (0, -1)
  | [], n, h => by
    rw [chkL] at h ⊢
    unfold endF at h ⊢
    split at h
    · rfl
    · split at h
      · rename_i q; rw [if_pos q]
      · cases h
  | i :: l, n, h => by
    rw [chkL] at h ⊢
    split at h
    · rename_i q; rw [if_pos q]; exact chkL_zero f l _ h
    · rename_i q; exact absurd h q
theorem check_zero {f : Fx} (h : (checkF f).1 = 0) : checkF f = (0, -1) := by
  unfold checkF at h ⊢
  split at h
  · rename_i q; rw [if_pos q]; exact chkL_zero f _ _ h
  · cases h
theorem parV_len {f : Fx} (hp : f.params ≤ f.sec.length) : (parV f).length = f.params.toNat := by
  unfold parV
  rw [List.length_map, List.length_take]
  omega
theorem shape_zV {f : Fx} {ws : List Int} {aa : List (List Int)} (hp : f.params ≤ f.sec.length) (h : Shape (parV f) f.arrs ws aa) : Shape (List.replicate f.params.toNat zV) f.arrs ws aa := ⟨by rw [h.w, parV_len hp, List.length_replicate], h.a, h.s⟩
theorem first_at {n : Nat} {ws : List Int} {k : Int} (hk : 0 ≤ k) : gI (firstP n ws) k = if k < ws.length then gI ws k else 0 := by
  unfold gI firstP
  rw [List.getD_eq_getElem?_getD, List.getD_eq_getElem?_getD]
  by_cases h : k < ws.length
  · rw [if_pos h, List.getElem?_append_left (by omega)]
  · rw [if_neg h, List.getElem?_append_right (by omega), List.getElem?_replicate]
    split <;> rfl
theorem like_first {f : Fx} {ws vs : List Int} {aa bb : List (List Int)} (hp : f.params ≤ f.sec.length) (h : AlikeR (parV f) f.arrs ws aa vs bb) : Like f (firstP f.sec.length ws) (firstP f.sec.length vs) aa bb := by
  have hl := parV_len hp
  refine ⟨fun k hk h0 h1 => ?_, fun b hb h0 h1 => ?_⟩
  · rw [first_at h0, first_at h0, h.s1.w, h.s2.w]
    split
    · rename_i hlt
      have hx : (parV f)[k.toNat]? = some (pV (gB f.sec k)) := by
        unfold parV gB
        rw [List.getElem?_map, List.getElem?_take_of_lt (by omega), List.getD_eq_getElem?_getD, List.getElem?_eq_getElem (by omega)]; rfl
      have hw : ws[k.toNat]? = some (gI ws k) := by
        unfold gI
        rw [List.getD_eq_getElem?_getD, List.getElem?_eq_getElem (by have := h.s1.w; omega)]; rfl
      have hv : vs[k.toNat]? = some (gI vs k) := by
        unfold gI
        rw [List.getD_eq_getElem?_getD, List.getElem?_eq_getElem (by have := h.s2.w; omega)]; rfl
      exact h.p k.toNat _ _ _ hx hw hv hk
    · rfl
  · obtain ⟨v, hv⟩ : ∃ v, f.arrs[b.toNat]? = some v := ⟨_, List.getElem?_eq_getElem (by omega)⟩
    have hs : v.secret = false := by
      unfold vB at hb
      rw [hv] at hb
      exact hb
    have h2 : aa[b.toNat]? = some (rowA aa b) := by
      unfold rowA
      rw [List.getD_eq_getElem?_getD, List.getElem?_eq_getElem (by have := h.s1.a; omega)]; rfl
    have h3 : bb[b.toNat]? = some (rowA bb b) := by
      unfold rowA
      rw [List.getD_eq_getElem?_getD, List.getElem?_eq_getElem (by have := h.s2.a; omega)]; rfl
    exact h.a b.toNat v _ _ hv h2 h3 hs
theorem ga_of {rs : List Vr} {ps : List Vr} {ws : List Int} {aa : List (List Int)} (h : Shape ps rs ws aa) (hw : AllW ws aa) : GA rs aa := ⟨h.a, fun j row v hj hv => h.s j v row hv hj, hw.2⟩
theorem gp_of {f : Fx} {ws : List Int} {aa : List (List Int)} (hl : ws.length ≤ f.sec.length) (hw : AllW ws aa) : GP f (firstP f.sec.length ws) := ⟨firstP_len hl, fun x hx => by
    unfold firstP at hx
    rcases List.mem_append.1 hx with q | q
    · exact hw.1 x q
    · rw [(List.mem_replicate.1 q).2]; exact isW_zero⟩
/-- Two runs by a table: what holds of them. -/
theorem both_ways {f : Fx} {T : Nat → Int} {ws vs : List Int} {aa bb : List (List Int)} {ls ls' : List Lk} {e e' : En} (hc : checkF f = (0, -1)) (h : AlikeR (parV f) f.arrs ws aa vs bb) (r1 : Runs f.code T 0 (firstP f.sec.length ws) aa ls e) (r2 : Runs f.code T 0 (firstP f.sec.length vs) bb ls' e') : ls.map ao = ls'.map ao ∧ e.trap = e'.trap ∧ ((∀ i ∈ f.code, shw f T i = false) → ls = ls') := by
  have hR := right_of (f := f) (by rw [hc])
  have hl := parV_len hR.p1
  have hp := hR.p1
  exact ways hR r1 (gp_of (by have := h.s1.w; omega) h.w1) (gp_of (by have := h.s2.w; omega) h.w2) (ga_of h.s1 h.w1) (ga_of h.s2 h.w2) (like_first hR.p1 h) r2
end Go.Proofs.Ytfbmkcogkiejnaa.Fl
