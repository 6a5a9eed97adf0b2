/- What All, maySee and Wrong of package table answer, each for whatever it is called with. -/
import Derived.Test.YtfbmkcogkiejnaaProg
import Derived.Test.YtfbmkcogkiejnaaGr1
import Derived.ProofKit
import Derived.OpenShut
import Derived.Deep.QuietTactic
import Derived.BigQuiet
namespace Go.Proofs.Ytfbmkcogkiejnaa.Tb
set_option linter.unusedVariables false
open Go.ChangeShapes Go.WideShapes Go.ChangeAt Go.RowKit

theorem keep {p : Prop} (h : p) : Hid p := h
theorem ret_int {k : IntKind} {a b : Int} (h : a = b) : Ending.returned (.int k a) = .returned (.int k b) := by rw [h]

/-- The operands that an op has, as bits. -/
def allV (op : Int) : Int := if 1 ≤ op ∧ op ≤ 12 ∨ op = 16 ∨ op = 17 then 3 else if op = 13 then 7 else if op = 15 then 1 else 0

theorem all_any (op : Int) (w : World) :
    Calls Try.prog 56 #[.int .i64 op] w fun e w' => e = .returned (.int .i64 (allV op)) ∧ w' = w := by
  by_cases h1 : 1 ≤ op
  · have d1 : decide (1 ≤ op) = true := by simpa using h1
    by_cases h2 : op ≤ 12
    · have d2 : decide (op ≤ 12) = true := by simpa using h2
      have e : allV op = 3 := if_pos (.inl ⟨h1, h2⟩)
      rw [e]
      go_enter Try.func56, Try.ntmps56
      go_wp2
      go_ret
      exact ⟨rfl, rfl⟩
    · have d2 : decide (op ≤ 12) = false := by simpa using h2
      have h0 : op = 16 ∨ op = 17 ∨ op = 13 ∨ op = 15 ∨ (¬ op = 16 ∧ ¬ op = 17 ∧ ¬ op = 13 ∧ ¬ op = 15) := by omega
      rcases h0 with rfl | rfl | rfl | rfl | ⟨h16, h17, h13, h15⟩
      · go_enter Try.func56, Try.ntmps56
        go_wp2
        go_ret
        exact ⟨rfl, rfl⟩
      · go_enter Try.func56, Try.ntmps56
        go_wp2
        go_ret
        exact ⟨rfl, rfl⟩
      · go_enter Try.func56, Try.ntmps56
        go_wp2
        go_ret
        exact ⟨rfl, rfl⟩
      · go_enter Try.func56, Try.ntmps56
        go_wp2
        go_ret
        exact ⟨rfl, rfl⟩
      · have e : allV op = 0 := by
          unfold allV
          rw [if_neg (by omega), if_neg h13, if_neg h15]
        rw [e]
        go_enter Try.func56, Try.ntmps56
        go_wp2
        go_ret
        exact ⟨rfl, rfl⟩
  · have d1 : decide (1 ≤ op) = false := by simpa using h1
    have h16 : ¬ op = 16 := by omega
    have h17 : ¬ op = 17 := by omega
    have h13 : ¬ op = 13 := by omega
    have h15 : ¬ op = 15 := by omega
    have e : allV op = 0 := by
      unfold allV
      rw [if_neg (by omega), if_neg h13, if_neg h15]
    rw [e]
    clear h1
    go_enter Try.func56, Try.ntmps56
    go_wp2
    go_ret
    exact ⟨rfl, rfl⟩

theorem allV_most (k : Nat) (h1 : 1 ≤ k) (h2 : k ≤ 17) (h16 : ¬ (k : Int) = 16) : allV (k : Int) = most k := by
  have : ∀ j : Fin 18, 1 ≤ j.val → ¬ ((j.val : Nat) : Int) = 16 → allV ((j.val : Nat) : Int) = most j.val := by decide
  exact this ⟨k, by omega⟩ h1 h16

theorem maySee_any (k : Nat) (h1 : 1 ≤ k) (h2 : k ≤ 17) (w : World) :
    Calls Try.prog 63 #[.int .i64 (k : Int)] w fun e w' => e = .returned (.int .i64 (most k)) ∧ w' = w := by
  by_cases h16 : (k : Int) = 16
  · have hk : k = 16 := by omega
    subst hk
    go_enter Try.func63, Try.ntmps63
    go_wp2
    go_ret
    exact ⟨rfl, rfl⟩
  · have e := allV_most k h1 h2 h16
    have HC := keep (all_any (k : Int))
    rw [e] at HC
    clear e
    go_enter Try.func63, Try.ntmps63
    go_wp2_with fail
    refine (HC.out _).mono ?_
    rintro e w' ⟨rfl, rfl⟩
    go_wp2
    go_ret
    exact ⟨rfl, rfl⟩
end Go.Proofs.Ytfbmkcogkiejnaa.Tb
