/- Laid together: FlSameV, FlSame. -/
import Derived.Test.YtpnacanbknejiaaGr19
import Derived.Deep.RegionHeld3
import Derived.Deep.DrawnRows
namespace Go.Proofs.Ytpnacanbknejiaa.Lr
set_option linter.unusedVariables false
open Go.ChangeShapes Go.WideShapes Go.ChangeAt Go.RowKit Lg
attribute [local go_sem ↓] Go.wp_at_zero Go.wp_at_succ
end Go.Proofs.Ytpnacanbknejiaa.Lr
namespace Go.Proofs.Ytpnacanbknejiaa.Fl
set_option linter.unusedVariables false
set_option linter.unusedSimpArgs false
open Go.ChangeShapes Go.WideShapes Go.ChangeAt Go.RowKit Lg Lr
theorem codes_at {w : World} {B : Nat} {l : List Ix} {p : Option Addr} {n c : Nat} (h : CodeIs w B l (.slice p n c)) {k : Nat} {v : Ix} (hk : l[k]? = some v) : ∃ g o,p = some ⟨g,o,none⟩ ∧ g < B ∧ IxAt w g (o + k * 6) v := by
 obtain ⟨q1,q2,q3,q4,q5,q6,q7,q8⟩ := h
 cases q4
 exact q8 k _ hk
end Go.Proofs.Ytpnacanbknejiaa.Fl
