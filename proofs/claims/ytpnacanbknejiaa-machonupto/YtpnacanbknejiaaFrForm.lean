/- The document's Check of instructions: Form, Reads, Makes. Written by tools/gen_frchk.py. -/
import Derived.Test.YtpnacanbknejiaaFrCode
namespace Go.Proofs.Ytpnacanbknejiaa.Fl
set_option maxHeartbeats 32000000
set_option maxRecDepth 100000
set_option linter.unusedVariables false
set_option linter.unusedSimpArgs false
open Go.ChangeShapes Go.WideShapes Go.ChangeAt Go.RowKit Lg Lr
def formT (op : Int) : List UInt8 := if 1 ≤ op ∧ op ≤ 12 then [65,66,109] else if op = 13 then [65,66,67,109] else if op = 14 then [109] else if op = 15 ∨ op = 16 then [65,109] else if op = 17 then [65,68] else if op = 19 ∨ op = 20 then [65] else []
theorem form_any (op : Int) (w : World) : Calls Try.prog 37 #[.int .i64 op] w fun r w' => r = .returned (.string ⟨(formT op).toArray⟩) ∧ w' = w := by
 have hcl : (1 ≤ op ∧ op ≤ 12) ∨ op = 13 ∨ op = 14 ∨ op = 15 ∨ op = 16 ∨ op = 17 ∨ op = 19 ∨ op = 20 ∨ ((op < 1 ∨ 12 < op) ∧ op ≠ 13 ∧ op ≠ 14 ∧ op ≠ 15 ∧ op ≠ 16 ∧ op ≠ 17 ∧ op ≠ 19 ∧ op ≠ 20) := by omega
 rcases hcl with h | rfl | rfl | rfl | rfl | rfl | rfl | rfl | h
 ·have e : formT op = [65,66,109] := by unfold formT; rw [if_pos h]
  have d1 : decide (1 ≤ op) = true := decide_eq_true h.1
  have d2 : decide (op ≤ 12) = true := decide_eq_true h.2
  rw [e]
  clear e h
  go_enter Try.func37,Try.ntmps37
  go_wp2
  go_ret
  exact ⟨rfl,rfl⟩
 all_goals first
  | (go_enter Try.func37,Try.ntmps37
     go_wp2
     go_ret
     exact ⟨rfl,rfl⟩)
  | skip
 have e : formT op = [] := by unfold formT; rw [if_neg (by omega),if_neg (by omega),if_neg (by omega),if_neg (by omega),if_neg (by omega),if_neg (by omega)]
 obtain ⟨h0,h3,h4,h5,h6,h7,h9,h2⟩ := h
 have k3 : (op == 13) = false := by simpa using h3
 have k4 : (op == 14) = false := by simpa using h4
 have k5 : (op == 15) = false := by simpa using h5
 have k6 : (op == 16) = false := by simpa using h6
 have k7 : (op == 17) = false := by simpa using h7
 have k9 : (op == 19) = false := by simpa using h9
 have k2 : (op == 20) = false := by simpa using h2
 rw [e]
 by_cases q1 : 1 ≤ op
 ·have d0 : decide (1 ≤ op) = true := decide_eq_true q1
  have d1 : decide (op ≤ 12) = false := decide_eq_false (by omega)
  clear h0 e h3 h4 h5 h6 h7 h9 h2
  go_enter Try.func37,Try.ntmps37
  go_wp2
  go_ret
  exact ⟨rfl,rfl⟩
 ·have d0 : decide (1 ≤ op) = false := decide_eq_false q1
  clear h0 e h3 h4 h5 h6 h7 h9 h2
  go_enter Try.func37,Try.ntmps37
  go_wp2
  go_ret
  exact ⟨rfl,rfl⟩
end Go.Proofs.Ytpnacanbknejiaa.Fl
