/- What the functions of package word answer, each for whatever numbers it is called with. -/
import Derived.Test.YtfbmkcogkiejnaaProg
import Derived.Test.YtfbmkcogkiejnaaWdPlain
import Derived.Test.YtfbmkcogkiejnaaWdIs
import Derived.ProofKit
import Derived.OpenShut
namespace Go.Proofs.Ytfbmkcogkiejnaa.Wd
set_option linter.unusedVariables false
open Go.ChangeShapes Go.WideShapes Go.ChangeAt Go.RowKit

/-- The number that a truth value is written as. -/
def oneOf (c : Bool) : Int := if c then 1 else 0

theorem oneIf_any (c : Bool) (w : World) :
    Calls Try.prog 92 #[.bool c] w fun e w' => e = .returned (.int .i64 (oneOf c)) ∧ w' = w := by
  cases c
  · go_enter Try.func92, Try.ntmps92
    go_wp2
    go_ret
    exact ⟨rfl, rfl⟩
  · go_enter Try.func92, Try.ntmps92
    go_wp2
    go_ret
    exact ⟨rfl, rfl⟩

theorem quotient_any (x y : Int) (x0 : 0 ≤ x) (x1 : x < 4294967296) (y0 : 0 ≤ y) (w : World) :
    Calls Try.prog 90 #[.int .u32 x, .int .u32 y] w fun e w' => e = .returned (.int .u32 (if y = 0 then 4294967295 else x / y)) ∧ w' = w := by
  by_cases h : y = 0
  · subst h
    go_enter Try.func90, Try.ntmps90
    go_wp2
    go_ret
    exact ⟨rfl, rfl⟩
  · have d : (y == 0) = false := by simpa using h
    have e : x.tdiv y = x / y := Int.tdiv_eq_ediv_of_nonneg x0
    have l0 := Int.ediv_nonneg x0 y0
    have l1 := Int.ediv_le_self y x0
    have hE : (if y = 0 then 4294967295 else x / y) = x / y := if_neg h
    rw [hE]
    clear hE
    go_enter Try.func90, Try.ntmps90
    go_wp2
    go_ret
    exact ⟨ret_int (by try omega), rfl⟩

theorem remainder_any (x y : Int) (x0 : 0 ≤ x) (x1 : x < 4294967296) (y0 : 0 ≤ y) (w : World) :
    Calls Try.prog 91 #[.int .u32 x, .int .u32 y] w fun e w' => e = .returned (.int .u32 (if y = 0 then x else x % y)) ∧ w' = w := by
  by_cases h : y = 0
  · subst h
    go_enter Try.func91, Try.ntmps91
    go_wp2
    go_ret
    exact ⟨rfl, rfl⟩
  · have d : (y == 0) = false := by simpa using h
    have e : x.tmod y = x % y := Int.tmod_eq_emod_of_nonneg x0
    have l0 := Int.emod_nonneg x h
    have l1 := Int.emod_lt_of_pos x (show 0 < y by omega)
    have hE : (if y = 0 then x else x % y) = x % y := if_neg h
    rw [hE]
    clear hE
    go_enter Try.func91, Try.ntmps91
    go_wp2
    go_ret
    exact ⟨ret_int (by try omega), rfl⟩
end Go.Proofs.Ytfbmkcogkiejnaa.Wd
