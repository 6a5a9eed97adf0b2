/- Laid together: TbWalks, TbBits. -/
import Derived.Test.YtfbmkcogkiejnaaProg
import Derived.Test.YtfbmkcogkiejnaaGr0
import Derived.ProofKit
import Derived.OpenShut
import Derived.Deep.QuietTactic
import Derived.BigQuiet
import Derived.WalkKit
import Derived.Laws.BitsLemmas
namespace Go.Proofs.Ytfbmkcogkiejnaa.Tb
set_option linter.unusedVariables false
open Go.ChangeShapes Go.WideShapes Go.ChangeAt Go.RowKit

theorem keep {p : Prop} (h : p) : Hid p := h
theorem ret_int {k : IntKind} {a b : Int} (h : a = b) : Ending.returned (.int k a) = .returned (.int k b) := by rw [h]

/-- The operands that an op has, as bits. -/
def allV (op : Int) : Int := if 1 ≤ op ∧ op ≤ 12 ∨ op = 16 ∨ op = 17 then 3 else if op = 13 then 7 else if op = 15 then 1 else 0

theorem all_any (op : Int) (w : World) :
    Calls Try.prog 56 #[.int .i64 op] w fun e w' => e = .returned (.int .i64 (allV op)) ∧ w' = w := by
  by_cases h1 : 1 ≤ op
  · have d1 : decide (1 ≤ op) = true := by simpa using h1
    by_cases h2 : op ≤ 12
    · have d2 : decide (op ≤ 12) = true := by simpa using h2
      have e : allV op = 3 := if_pos (.inl ⟨h1, h2⟩)
      rw [e]
      go_enter Try.func56, Try.ntmps56
      go_wp2
      go_ret
      exact ⟨rfl, rfl⟩
    · have d2 : decide (op ≤ 12) = false := by simpa using h2
      have h0 : op = 16 ∨ op = 17 ∨ op = 13 ∨ op = 15 ∨ (¬ op = 16 ∧ ¬ op = 17 ∧ ¬ op = 13 ∧ ¬ op = 15) := by omega
      rcases h0 with rfl | rfl | rfl | rfl | ⟨h16, h17, h13, h15⟩
      · go_enter Try.func56, Try.ntmps56
        go_wp2
        go_ret
        exact ⟨rfl, rfl⟩
      · go_enter Try.func56, Try.ntmps56
        go_wp2
        go_ret
        exact ⟨rfl, rfl⟩
      · go_enter Try.func56, Try.ntmps56
        go_wp2
        go_ret
        exact ⟨rfl, rfl⟩
      · go_enter Try.func56, Try.ntmps56
        go_wp2
        go_ret
        exact ⟨rfl, rfl⟩
      · have e : allV op = 0 := by
          unfold allV
          rw [if_neg (by omega), if_neg h13, if_neg h15]
        rw [e]
        go_enter Try.func56, Try.ntmps56
        go_wp2
        go_ret
        exact ⟨rfl, rfl⟩
  · have d1 : decide (1 ≤ op) = false := by simpa using h1
    have h16 : ¬ op = 16 := by omega
    have h17 : ¬ op = 17 := by omega
    have h13 : ¬ op = 13 := by omega
    have h15 : ¬ op = 15 := by omega
    have e : allV op = 0 := by
      unfold allV
      rw [if_neg (by omega), if_neg h13, if_neg h15]
    rw [e]
    clear h1
    go_enter Try.func56, Try.ntmps56
    go_wp2
    go_ret
    exact ⟨rfl, rfl⟩

theorem allV_most (k : Nat) (h1 : 1 ≤ k) (h2 : k ≤ 17) (h16 : ¬ (k : Int) = 16) : allV (k : Int) = most k := by
  have : ∀ j : Fin 18, 1 ≤ j.val → ¬ ((j.val : Nat) : Int) = 16 → allV ((j.val : Nat) : Int) = most j.val := by decide
  exact this ⟨k, by omega⟩ h1 h16

theorem maySee_any (k : Nat) (h1 : 1 ≤ k) (h2 : k ≤ 17) (w : World) :
    Calls Try.prog 63 #[.int .i64 (k : Int)] w fun e w' => e = .returned (.int .i64 (most k)) ∧ w' = w := by
  by_cases h16 : (k : Int) = 16
  · have hk : k = 16 := by omega
    subst hk
    go_enter Try.func63, Try.ntmps63
    go_wp2
    go_ret
    exact ⟨rfl, rfl⟩
  · have e := allV_most k h1 h2 h16
    have HC := keep (all_any (k : Int))
    rw [e] at HC
    clear e
    go_enter Try.func63, Try.ntmps63
    go_wp2_with fail
    refine (HC.out _).mono ?_
    rintro e w' ⟨rfl, rfl⟩
    go_wp2
    go_ret
    exact ⟨rfl, rfl⟩
end Go.Proofs.Ytfbmkcogkiejnaa.Tb
namespace Go.Proofs.Ytfbmkcogkiejnaa.Tb
set_option linter.unusedVariables false

theorem andNot_iff (X M : BitVec 64) : X &&& ~~~M = 0#64 ↔ X &&& M = X := by
  constructor
  · intro h
    apply BitVec.eq_of_getLsbD_eq
    intro i hi
    have := congrArg (fun v => BitVec.getLsbD v i) h
    simp only [BitVec.getLsbD_and, BitVec.getLsbD_not, BitVec.getLsbD_zero, hi, decide_true, Bool.true_and] at this ⊢
    cases h1 : X.getLsbD i <;> cases h2 : M.getLsbD i <;> simp_all
  · intro h
    apply BitVec.eq_of_getLsbD_eq
    intro i hi
    have := congrArg (fun v => BitVec.getLsbD v i) h
    simp only [BitVec.getLsbD_and, BitVec.getLsbD_not, BitVec.getLsbD_zero, hi, decide_true, Bool.true_and] at this ⊢
    cases h1 : X.getLsbD i <;> cases h2 : M.getLsbD i <;> simp_all
theorem or_iff (X M : BitVec 64) : X ||| M = M ↔ X &&& M = X := by
  constructor
  · intro h
    apply BitVec.eq_of_getLsbD_eq
    intro i hi
    have := congrArg (fun v => BitVec.getLsbD v i) h
    simp only [BitVec.getLsbD_and, BitVec.getLsbD_or] at this ⊢
    cases h1 : X.getLsbD i <;> cases h2 : M.getLsbD i <;> simp_all
  · intro h
    apply BitVec.eq_of_getLsbD_eq
    intro i hi
    have := congrArg (fun v => BitVec.getLsbD v i) h
    simp only [BitVec.getLsbD_and, BitVec.getLsbD_or] at this ⊢
    cases h1 : X.getLsbD i <;> cases h2 : M.getLsbD i <;> simp_all
theorem and_low (X : BitVec 64) (j : Nat) (hj : j < 64) (M : BitVec 64) (hM : M.toNat = 2 ^ j - 1) : X &&& M = X ↔ X.toNat < 2 ^ j := by
  rw [← BitVec.toNat_inj, BitVec.toNat_and, hM, Nat.and_two_pow_sub_one_eq_mod]
  constructor
  · intro h
    have := Nat.mod_lt X.toNat (Nat.two_pow_pos j)
    omega
  · intro h; exact Nat.mod_eq_of_lt h

theorem ofInt_lt (x : Int) (h1 : -9223372036854775808 ≤ x) (h2 : x ≤ 9223372036854775807) (B : Nat) (hB : B ≤ 8) : (BitVec.ofInt 64 x).toNat < B ↔ 0 ≤ x ∧ x < B := by
  rw [BitVec.toNat_ofInt]
  have : ((2 ^ 64 : Nat) : Int) = 18446744073709551616 := by decide
  rw [this]
  omega
theorem wrap_zero (n : Nat) (h : n < 2 ^ 64) : IntKind.i64.wrap (n : Int) = 0 ↔ n = 0 := by
  have : (2 : Nat) ^ 64 = 18446744073709551616 := by decide
  rw [IntKind.wrap_i64]
  omega
theorem wrap_small (n : Nat) (h : n < 2 ^ 64) (m : Nat) (hm : m ≤ 7) : IntKind.i64.wrap (n : Int) = (m : Int) ↔ n = m := by
  have : (2 : Nat) ^ 64 = 18446744073709551616 := by decide
  rw [IntKind.wrap_i64]
  omega

theorem most_pow (k : Nat) (h : k < 18) : ∃ j : Nat, j < 4 ∧ most k = ((2 ^ j - 1 : Nat) : Int) := by
  have : ∀ i : Fin 18, ∃ j : Fin 4, most i.val = ((2 ^ j.val - 1 : Nat) : Int) := by decide
  obtain ⟨j, hj⟩ := this ⟨k, h⟩
  exact ⟨j.val, j.isLt, hj⟩

theorem bits_core (x : Int) (h1 : -9223372036854775808 ≤ x) (h2 : x ≤ 9223372036854775807) (k : Nat) (hk : k < 18) :
    (BitVec.ofInt 64 x &&& BitVec.ofInt 64 (most k) = BitVec.ofInt 64 x ↔ 0 ≤ x ∧ x ≤ most k) ∧ (BitVec.ofInt 64 (most k)).toNat = (most k).toNat ∧ 0 ≤ most k ∧ most k ≤ 7 := by
  obtain ⟨j, hj, e⟩ := most_pow k hk
  have hm : (BitVec.ofInt 64 (most k)).toNat = 2 ^ j - 1 := by
    rw [e]
    have : j = 0 ∨ j = 1 ∨ j = 2 ∨ j = 3 := by omega
    rcases this with rfl | rfl | rfl | rfl <;> decide
  have hp : 2 ^ j ≤ 8 ∧ 1 ≤ 2 ^ j := by
    have : j = 0 ∨ j = 1 ∨ j = 2 ∨ j = 3 := by omega
    rcases this with rfl | rfl | rfl | rfl <;> decide
  refine ⟨?_, by rw [hm, e]; omega, by rw [e]; omega, by rw [e]; omega⟩
  rw [and_low _ j (by omega) _ hm, ofInt_lt x h1 h2 _ hp.1, e]
  omega

/-- No other bits: the program's way. -/
theorem andNot_most (x : Int) (h1 : -9223372036854775808 ≤ x) (h2 : x ≤ 9223372036854775807) (k : Nat) (hk : k < 18) : bits .andNot .i64 x (most k) = 0 ↔ 0 ≤ x ∧ x ≤ most k := by
  obtain ⟨c1, c2, c3, c4⟩ := bits_core x h1 h2 k hk
  rw [← c1, ← andNot_iff, ← BitVec.toNat_inj]
  show IntKind.i64.wrap (((BitVec.ofInt 64 x &&& ~~~ BitVec.ofInt 64 (most k)).toNat : Nat) : Int) = 0 ↔ _
  rw [wrap_zero _ (BitVec.isLt _)]
  rfl
/-- No other bits: the document's way. -/
theorem or_most (x : Int) (h1 : -9223372036854775808 ≤ x) (h2 : x ≤ 9223372036854775807) (k : Nat) (hk : k < 18) : bits .or .i64 x (most k) = most k ↔ 0 ≤ x ∧ x ≤ most k := by
  obtain ⟨c1, c2, c3, c4⟩ := bits_core x h1 h2 k hk
  rw [← c1, ← or_iff, ← BitVec.toNat_inj, c2]
  show IntKind.i64.wrap (((BitVec.ofInt 64 x ||| BitVec.ofInt 64 (most k)).toNat : Nat) : Int) = most k ↔ _
  have e : most k = (((most k).toNat : Nat) : Int) := by omega
  conv => lhs; rhs; rw [e]
  rw [wrap_small _ (BitVec.isLt _) _ (by omega)]
end Go.Proofs.Ytfbmkcogkiejnaa.Tb
