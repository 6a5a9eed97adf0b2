/- The document's own reader: an expression, however deep. -/
import Derived.Test.YtemdnmfldihalaaDoorLdSel
import Derived.Test.YtemdnmfldihalaaDoorLdAt
import Derived.Test.YtemdnmfldihalaaDoorLdBad
import Derived.Test.YtemdnmfldihalaaDoorLdTwo
namespace Go.Proofs.YtemdnmfldihalaaDoor.Lr
set_option linter.unusedVariables false
open Go.ChangeShapes Go.WideShapes Go.ChangeAt Go.RowKit Lg Rf

theorem expr_succ (m : Nat) (hm : m ≤ 8) (ih : ExprOK m) : ExprOK (m + 1) := by
  intro b s e w hs h ht hg
  rw [show (9 : Int) - ((m + 1 : Nat) : Int) = 8 - (m : Int) by push_cast; omega]
  by_cases hop : wd s.data.toList = [40]
  · by_cases h1 : wd (rs s.data.toList) = [115, 101, 108]
    · exact made_sel m hm ih b s e w hs h ht hg hop h1
    · by_cases h2 : wd (rs s.data.toList) = [97, 116]
      · exact made_at m hm ih b s e w hs h ht hg hop h2
      · by_cases hz : signOf (wd (rs s.data.toList)) = 0
        · exact made_bad m hm ih b s e w hs h ht hg hop _ rfl h1 h2 hz
        · exact made_two m hm ih b s e w hs h ht hg hop _ rfl h1 h2 hz
  · exact expr_atom m hm b s e w hs h ht hg hop
theorem expr_ok : ∀ m : Nat, m ≤ 9 → ExprOK m
  | 0, _ => expr_zero
  | m + 1, h => expr_succ m (by omega) (expr_ok m (by omega))
end Go.Proofs.YtemdnmfldihalaaDoor.Lr
