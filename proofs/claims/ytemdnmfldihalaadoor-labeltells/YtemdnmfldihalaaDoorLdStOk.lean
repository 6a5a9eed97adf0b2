/- The document's own reader: a statement, however deep. Written by tools/gen_dstmt.py. -/
import Derived.Test.YtemdnmfldihalaaDoorLdStRet
import Derived.Test.YtemdnmfldihalaaDoorLdStSet
import Derived.Test.YtemdnmfldihalaaDoorLdStPut
import Derived.Test.YtemdnmfldihalaaDoorLdStLet
import Derived.Test.YtemdnmfldihalaaDoorLdStIf
import Derived.Test.YtemdnmfldihalaaDoorLdStFor
import Derived.Test.YtemdnmfldihalaaDoorLdStNo
namespace Go.Proofs.YtemdnmfldihalaaDoor.Lr
set_option linter.unusedVariables false
set_option linter.unusedSimpArgs false
open Go.ChangeShapes Go.WideShapes Go.ChangeAt Go.RowKit Lg Rf

theorem stmt_succ (m : Nat) (hm : m ≤ 8) (ih : StmtOK m) : StmtOK (m + 1) := by
  intro b s e w hs h ht hg
  rw [show (9 : Int) - ((m + 1 : Nat) : Int) = 8 - (m : Int) by push_cast; omega]
  by_cases h1 : wd (rs s.data.toList) = [108, 101, 116]
  · exact stmt_let m hm ih b s e w hs h ht hg h1
  by_cases h2 : wd (rs s.data.toList) = [115, 101, 116]
  · exact stmt_set m hm ih b s e w hs h ht hg h2
  by_cases h3 : wd (rs s.data.toList) = [112, 117, 116]
  · exact stmt_put m hm ih b s e w hs h ht hg h3
  by_cases h4 : wd (rs s.data.toList) = [105, 102]
  · exact stmt_if m hm ih b s e w hs h ht hg h4
  by_cases h5 : wd (rs s.data.toList) = [102, 111, 114]
  · exact stmt_for m hm ih b s e w hs h ht hg h5
  by_cases h6 : wd (rs s.data.toList) = [114, 101, 116]
  · exact stmt_ret m hm ih b s e w hs h ht hg h6
  · exact stmt_no m hm ih b s e w hs h ht hg _ (by unfold kindOf; rw [if_neg h1, if_neg h2, if_neg h3, if_neg h4, if_neg h5, if_neg h6]) rfl
theorem stmt_ok : ∀ m : Nat, m ≤ 9 → StmtOK m
  | 0, _ => stmt_zero
  | m + 1, h => stmt_succ m (by omega) (stmt_ok m (by omega))
end Go.Proofs.YtemdnmfldihalaaDoor.Lr
