/- Laid together: FlWays, FlEven. -/
import Derived.Test.YtfbmkcogkiejnaaFlAlive
import Derived.Test.YtfbmkcogkiejnaaFrCheck
import Derived.Test.YtfbmkcogkiejnaaGr31
import Derived.Test.YtfbmkcogkiejnaaFlLeaks
namespace Go.Proofs.Ytfbmkcogkiejnaa.Fl
set_option linter.unusedVariables false
set_option linter.unusedSimpArgs false
open Go.ChangeShapes Go.WideShapes Go.ChangeAt Go.RowKit Lg Lr

theorem chkL_zero (f : Fx) : ∀ (l : List Ix) (n : Int), (chkL f n l).1 = 0 → chkL f n l = (0, -1)
  | [], n, h => by
    rw [chkL] at h ⊢
    unfold endF at h ⊢
    split at h
    · rfl
    · split at h
      · rename_i q; rw [if_pos q]
      · cases h
  | i :: l, n, h => by
    rw [chkL] at h ⊢
    split at h
    · rename_i q; rw [if_pos q]; exact chkL_zero f l _ h
    · rename_i q; exact absurd h q
theorem check_zero {f : Fx} (h : (checkF f).1 = 0) : checkF f = (0, -1) := by
  unfold checkF at h ⊢
  split at h
  · rename_i q; rw [if_pos q]; exact chkL_zero f _ _ h
  · cases h
theorem tabR_of {T : Nat → Int} (h : Tb.wrongT T = 0) : TabR T := by
  unfold Tb.wrongT at h
  by_cases h0 : T 0 = 0
  · rw [if_neg (by simpa using h0)] at h
    refine ⟨h0, fun k k1 k2 => ?_⟩
    by_cases hf : ∀ k : Fin 17, Tb.fits T (k.val + 1) = true
    · have := hf ⟨k - 1, by omega⟩
      rw [show (⟨k - 1, by omega⟩ : Fin 17).val + 1 = k by simp; omega] at this
      exact of_decide_eq_true this
    · rw [if_neg hf] at h; cases h
  · rw [if_pos h0] at h; cases h
end Go.Proofs.Ytfbmkcogkiejnaa.Fl
