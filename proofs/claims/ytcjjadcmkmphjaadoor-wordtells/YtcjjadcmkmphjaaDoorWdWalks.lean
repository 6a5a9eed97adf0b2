/- What the functions of package word answer, each for whatever numbers it is called with. -/
import Derived.Test.YtcjjadcmkmphjaaDoorProg
import Derived.Test.YtcjjadcmkmphjaaDoorWdPlain
import Derived.ProofKit
import Derived.OpenShut
namespace Go.Proofs.YtcjjadcmkmphjaaDoor.Wd
set_option linter.unusedVariables false
open Go.ChangeShapes Go.WideShapes Go.ChangeAt Go.RowKit

theorem ret_int {k : IntKind} {a b : Int} (h : a = b) : Ending.returned (.int k a) = .returned (.int k b) := by rw [h]
theorem ret_two {a b : Int} (h : a = b) (n : Int) : Ending.returned (.tuple #[.int .i64 a, .int .i64 n]) = .returned (.tuple #[.int .i64 b, .int .i64 n]) := by rw [h]

theorem is_yes (n : Int) (h0 : 0 ≤ n) (h1 : n ≤ 4294967295) (w : World) :
    Calls Tryd.prog 10 #[.int .i64 n] w fun e w' => e = .returned (.bool true) ∧ w' = w := by
  have d0 : decide (0 ≤ n) = true := by simpa using h0
  have d1 : decide (n ≤ 4294967295) = true := by simpa using h1
  go_enter Tryd.func10, Tryd.ntmps10
  go_wp2
  go_ret
  exact ⟨rfl, rfl⟩

theorem is_no (n : Int) (h : n < 0 ∨ 4294967295 < n) (w : World) :
    Calls Tryd.prog 10 #[.int .i64 n] w fun e w' => e = .returned (.bool false) ∧ w' = w := by
  by_cases h0 : 0 ≤ n
  · have d0 : decide (0 ≤ n) = true := by simpa using h0
    have d1 : decide (n ≤ 4294967295) = false := by simp; omega
    clear h
    go_enter Tryd.func10, Tryd.ntmps10
    go_wp2
    go_ret
    exact ⟨rfl, rfl⟩
  · have d0 : decide (0 ≤ n) = false := by simpa using h0
    clear h
    go_enter Tryd.func10, Tryd.ntmps10
    go_wp2
    go_ret
    exact ⟨rfl, rfl⟩

/-- The number that a truth value is written as. -/
def oneOf (c : Bool) : Int := if c then 1 else 0

theorem oneIf_any (c : Bool) (w : World) :
    Calls Tryd.prog 13 #[.bool c] w fun e w' => e = .returned (.int .i64 (oneOf c)) ∧ w' = w := by
  cases c
  · go_enter Tryd.func13, Tryd.ntmps13
    go_wp2
    go_ret
    exact ⟨rfl, rfl⟩
  · go_enter Tryd.func13, Tryd.ntmps13
    go_wp2
    go_ret
    exact ⟨rfl, rfl⟩

theorem quotient_any (x y : Int) (x0 : 0 ≤ x) (x1 : x < 4294967296) (y0 : 0 ≤ y) (w : World) :
    Calls Tryd.prog 11 #[.int .u32 x, .int .u32 y] w fun e w' => e = .returned (.int .u32 (if y = 0 then 4294967295 else x / y)) ∧ w' = w := by
  by_cases h : y = 0
  · subst h
    go_enter Tryd.func11, Tryd.ntmps11
    go_wp2
    go_ret
    exact ⟨rfl, rfl⟩
  · have d : (y == 0) = false := by simpa using h
    have e : x.tdiv y = x / y := Int.tdiv_eq_ediv_of_nonneg x0
    have l0 := Int.ediv_nonneg x0 y0
    have l1 := Int.ediv_le_self y x0
    have hE : (if y = 0 then 4294967295 else x / y) = x / y := if_neg h
    rw [hE]
    clear hE
    go_enter Tryd.func11, Tryd.ntmps11
    go_wp2
    go_ret
    exact ⟨ret_int (by try omega), rfl⟩

theorem remainder_any (x y : Int) (x0 : 0 ≤ x) (x1 : x < 4294967296) (y0 : 0 ≤ y) (w : World) :
    Calls Tryd.prog 12 #[.int .u32 x, .int .u32 y] w fun e w' => e = .returned (.int .u32 (if y = 0 then x else x % y)) ∧ w' = w := by
  by_cases h : y = 0
  · subst h
    go_enter Tryd.func12, Tryd.ntmps12
    go_wp2
    go_ret
    exact ⟨rfl, rfl⟩
  · have d : (y == 0) = false := by simpa using h
    have e : x.tmod y = x % y := Int.tmod_eq_emod_of_nonneg x0
    have l0 := Int.emod_nonneg x h
    have l1 := Int.emod_lt_of_pos x (show 0 < y by omega)
    have hE : (if y = 0 then x else x % y) = x % y := if_neg h
    rw [hE]
    clear hE
    go_enter Tryd.func12, Tryd.ntmps12
    go_wp2
    go_ret
    exact ⟨ret_int (by try omega), rfl⟩
end Go.Proofs.YtcjjadcmkmphjaaDoor.Wd
