/- WordBack at words: the way of the law. -/
import Derived.Test.YtcjjadcmkmphjaaWdBackA
namespace Go.Proofs.Ytcjjadcmkmphjaa.Wd
set_option linter.unusedVariables false
open Go.ChangeShapes Go.WideShapes Go.ChangeAt Go.RowKit

set_option maxHeartbeats 2000000 in
theorem law_in (a b : Int) (a0 : 0 ≤ a) (a1 : a ≤ 4294967295) (b0 : 0 ≤ b) (b1 : b ≤ 4294967295) (w : World) :
    Calls Try.prog 3 #[.int .i64 a, .int .i64 b] w fun e w' => e = .returned (.bool true) ∧ w' = w := by
  have e1 : (two 2 (two 1 a b) b != a) = false := by rw [back_sub a b a0 a1 b0 b1]; simp
  have e2 : (two 5 (two 5 a b) b != a) = false := by rw [back_xor a b a0 a1 b0 b1]; simp
  have e3 : (two 1 (two 8 (two 9 a b) b) (two 10 a b) != a) = false := by rw [back_div a b a0 a1 b0 b1]; simp
  have e4 : (two 11 a b + two 11 b a + two 12 a b != 1) = false := by rw [order_sum a b a0 a1 b0 b1]; rfl
  have e5 : (two 1 (two 3 a b) (two 4 a b) != two 1 a b) = false := by rw [back_and_or a b a0 a1 b0 b1]; simp
  have l1 := two_word 11 a b
  have l2 := two_word 11 b a
  have l3 := two_word 12 a b
  go_enter Try.func3, Try.ntmps3
  go_wp2_with fail
  refine (alive_any _).mono ?_
  rintro e w' ⟨rfl, rfl⟩
  go_wp2_with fail
  refine (is_yes a a0 a1 _).mono ?_
  rintro e w' ⟨rfl, rfl⟩
  go_wp2_with fail
  refine (is_yes b b0 b1 _).mono ?_
  rintro e w' ⟨rfl, rfl⟩
  go_wp2_with fail
  refine (two_fun 9 a b (by decide) (by decide) _).mono ?_
  rintro e w' ⟨rfl, rfl⟩
  go_wp2_with fail
  refine (two_fun 10 a b (by decide) (by decide) _).mono ?_
  rintro e w' ⟨rfl, rfl⟩
  go_wp2_with fail
  refine (two_fun 1 a b (by decide) (by decide) _).mono ?_
  rintro e w' ⟨rfl, rfl⟩
  go_wp2_with fail
  refine (two_fun 2 (two 1 a b) b (by decide) (by decide) _).mono ?_
  rintro e w' ⟨rfl, rfl⟩
  go_wp2_with fail
  refine (two_fun 5 a b (by decide) (by decide) _).mono ?_
  rintro e w' ⟨rfl, rfl⟩
  go_wp2_with fail
  refine (two_fun 5 (two 5 a b) b (by decide) (by decide) _).mono ?_
  rintro e w' ⟨rfl, rfl⟩
  go_wp2_with fail
  refine (two_fun 8 (two 9 a b) b (by decide) (by decide) _).mono ?_
  rintro e w' ⟨rfl, rfl⟩
  go_wp2_with fail
  refine (two_fun 1 (two 8 (two 9 a b) b) (two 10 a b) (by decide) (by decide) _).mono ?_
  rintro e w' ⟨rfl, rfl⟩
  go_wp2_with fail
  refine (two_fun 11 a b (by decide) (by decide) _).mono ?_
  rintro e w' ⟨rfl, rfl⟩
  go_wp2_with fail
  refine (two_fun 11 b a (by decide) (by decide) _).mono ?_
  rintro e w' ⟨rfl, rfl⟩
  go_wp2_with fail
  refine (two_fun 12 a b (by decide) (by decide) _).mono ?_
  rintro e w' ⟨rfl, rfl⟩
  go_wp2_with fail
  refine (two_fun 3 a b (by decide) (by decide) _).mono ?_
  rintro e w' ⟨rfl, rfl⟩
  go_wp2_with fail
  refine (two_fun 4 a b (by decide) (by decide) _).mono ?_
  rintro e w' ⟨rfl, rfl⟩
  go_wp2_with fail
  refine (two_fun 1 (two 3 a b) (two 4 a b) (by decide) (by decide) _).mono ?_
  rintro e w' ⟨rfl, rfl⟩
  go_wp2_with fail
  refine (two_fun 1 a b (by decide) (by decide) _).mono ?_
  rintro e w' ⟨rfl, rfl⟩
  by_cases hb : b = 0
  · have d : (b == 0) = true := by rw [hb]; rfl
    clear hb
    go_wp2
    go_ret
    exact ⟨rfl, rfl⟩
  · have d : (b == 0) = false := beq_eq_false_iff_ne.2 hb
    have e6 : (two 11 (two 10 a b) b == 1) = true := by rw [rest_less a b a0 a1 b0 b1 hb]; rfl
    clear hb
    go_wp2_with fail
    refine (two_fun 11 (two 10 a b) b (by decide) (by decide) _).mono ?_
    rintro e w' ⟨rfl, rfl⟩
    go_wp2
    go_ret
    exact ⟨rfl, rfl⟩

theorem law_any (a b : Int) (w : World) :
    Calls Try.prog 3 #[.int .i64 a, .int .i64 b] w fun e w' => e = .returned (.bool true) ∧ w' = w := by
  by_cases h : a < 0 ∨ 4294967295 < a ∨ b < 0 ∨ 4294967295 < b
  · exact law_out a b h w
  · exact law_in a b (by omega) (by omega) (by omega) (by omega) w
end Go.Proofs.Ytcjjadcmkmphjaa.Wd
