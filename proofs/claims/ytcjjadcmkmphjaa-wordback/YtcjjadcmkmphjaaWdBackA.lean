/- WordBack: its closure, the closed fact that is asked first, and the way of the law. -/
import Derived.Test.YtcjjadcmkmphjaaWdTwo
import Derived.Test.YtcjjadcmkmphjaaWdNum
namespace Go.Proofs.Ytcjjadcmkmphjaa.Wd
set_option linter.unusedVariables false
open Go.ChangeShapes Go.WideShapes Go.ChangeAt Go.RowKit

theorem alive_any (w : World) :
    Calls Try.prog 4 #[] w fun e w' => e = .returned (.bool true) ∧ w' = w := by
  have c1 : ∀ w, Calls Try.prog 7 #[.int .i64 2, .int .i64 0, .int .i64 1] w fun e w' => e = .returned (.tuple #[.int .i64 4294967295, .int .i64 0]) ∧ w' = w := fun w => by
    have h := two_2 0 1 w
    rw [show two 2 0 1 = 4294967295 from by decide] at h
    exact h
  have c2 : ∀ w, Calls Try.prog 7 #[.int .i64 9, .int .i64 7, .int .i64 0] w fun e w' => e = .returned (.tuple #[.int .i64 4294967295, .int .i64 0]) ∧ w' = w := fun w => by
    have h := two_9 7 0 w
    rw [show two 9 7 0 = 4294967295 from by decide] at h
    exact h
  have c3 : ∀ w, Calls Try.prog 8 #[.string ⟨#[49, 50]⟩] w fun e w' => e = .returned (.tuple #[.int .i64 12, .bool true]) ∧ w' = w := fun w => by
    have h := number_any ⟨#[49, 50]⟩ w (by unfold maxLen; decide)
    rw [show numV (ByteArray.mk #[49, 50]).data.toList = 12 from by decide, show isNum (ByteArray.mk #[49, 50]).data.toList = true from by decide] at h
    exact h
  have c4 : ∀ w, Calls Try.prog 9 #[.int .i64 0, .int .i64 1, .int .i64 2] w fun e w' => e = .returned (.int .i64 2) ∧ w' = w := fun w => by
    have h := sel_any 0 1 2 w
    rw [show sel 0 1 2 = 2 from by decide] at h
    exact h
  have C1 := keep c1
  have C2 := keep c2
  have C3 := keep c3
  have C4 := keep c4
  clear c1 c2 c3 c4
  go_enter Try.func4, Try.ntmps4
  go_wp2_with fail
  refine (C1.out _).mono ?_
  rintro e w' ⟨rfl, rfl⟩
  go_wp2_with fail
  refine (C2.out _).mono ?_
  rintro e w' ⟨rfl, rfl⟩
  go_wp2_with fail
  refine (C3.out _).mono ?_
  rintro e w' ⟨rfl, rfl⟩
  go_wp2_with fail
  refine (C4.out _).mono ?_
  rintro e w' ⟨rfl, rfl⟩
  go_wp2_with fail
  refine (is_yes 5 (by decide) (by decide) _).mono ?_
  rintro e w' ⟨rfl, rfl⟩
  go_wp2_with fail
  refine (is_no (-1) (by decide) _).mono ?_
  rintro e w' ⟨rfl, rfl⟩
  go_wp2
  go_ret
  exact ⟨rfl, rfl⟩

theorem two_fun (op a b : Int) (h0 : 1 ≤ op) (h1 : op ≤ 12) (w : World) :
    Calls Try.prog 6 #[.int .i64 op, .int .i64 a, .int .i64 b] w fun e w' => e = .returned (.int .i64 (two op a b)) ∧ w' = w := by
  have hw := two_word op a b
  go_enter Try.func6, Try.ntmps6
  go_wp2_with fail
  refine (two_yes op a b h0 h1 _).mono ?_
  rintro e w' ⟨rfl, rfl⟩
  go_wp2_with fail
  refine (is_yes _ hw.1 hw.2 _).mono ?_
  rintro e w' ⟨rfl, rfl⟩
  go_wp2
  go_ret
  exact ⟨rfl, rfl⟩

theorem law_out (a b : Int) (h : a < 0 ∨ 4294967295 < a ∨ b < 0 ∨ 4294967295 < b) (w : World) :
    Calls Try.prog 3 #[.int .i64 a, .int .i64 b] w fun e w' => e = .returned (.bool true) ∧ w' = w := by
  by_cases ha : a < 0 ∨ 4294967295 < a
  · clear h
    go_enter Try.func3, Try.ntmps3
    go_wp2_with fail
    refine (alive_any _).mono ?_
    rintro e w' ⟨rfl, rfl⟩
    go_wp2_with fail
    refine (is_no a ha _).mono ?_
    rintro e w' ⟨rfl, rfl⟩
    go_wp2
    go_ret
    exact ⟨rfl, rfl⟩
  · have hb : b < 0 ∨ 4294967295 < b := by omega
    clear h
    go_enter Try.func3, Try.ntmps3
    go_wp2_with fail
    refine (alive_any _).mono ?_
    rintro e w' ⟨rfl, rfl⟩
    go_wp2_with fail
    refine (is_yes a (by omega) (by omega) _).mono ?_
    rintro e w' ⟨rfl, rfl⟩
    go_wp2_with fail
    refine (is_no b hb _).mono ?_
    rintro e w' ⟨rfl, rfl⟩
    go_wp2
    go_ret
    exact ⟨rfl, rfl⟩

end Go.Proofs.Ytcjjadcmkmphjaa.Wd
