/- Bits of a number of 64 bits beyond the lowest few: none, just if it is so small. No Go in it. -/
import Derived.WalkKit
import Derived.Laws.BitsLemmas
import Derived.Test.YtfbmkcogkiejnaaGr1
namespace Go.Proofs.Ytfbmkcogkiejnaa.Tb
set_option linter.unusedVariables false

theorem andNot_iff (X M : BitVec 64) : X &&& ~~~M = 0#64 ↔ X &&& M = X := by
  constructor
  · intro h
    apply BitVec.eq_of_getLsbD_eq
    intro i hi
    have := congrArg (fun v => BitVec.getLsbD v i) h
    simp only [BitVec.getLsbD_and, BitVec.getLsbD_not, BitVec.getLsbD_zero, hi, decide_true, Bool.true_and] at this ⊢
    cases h1 : X.getLsbD i <;> cases h2 : M.getLsbD i <;> simp_all
  · intro h
    apply BitVec.eq_of_getLsbD_eq
    intro i hi
    have := congrArg (fun v => BitVec.getLsbD v i) h
    simp only [BitVec.getLsbD_and, BitVec.getLsbD_not, BitVec.getLsbD_zero, hi, decide_true, Bool.true_and] at this ⊢
    cases h1 : X.getLsbD i <;> cases h2 : M.getLsbD i <;> simp_all
theorem or_iff (X M : BitVec 64) : X ||| M = M ↔ X &&& M = X := by
  constructor
  · intro h
    apply BitVec.eq_of_getLsbD_eq
    intro i hi
    have := congrArg (fun v => BitVec.getLsbD v i) h
    simp only [BitVec.getLsbD_and, BitVec.getLsbD_or] at this ⊢
    cases h1 : X.getLsbD i <;> cases h2 : M.getLsbD i <;> simp_all
  · intro h
    apply BitVec.eq_of_getLsbD_eq
    intro i hi
    have := congrArg (fun v => BitVec.getLsbD v i) h
    simp only [BitVec.getLsbD_and, BitVec.getLsbD_or] at this ⊢
    cases h1 : X.getLsbD i <;> cases h2 : M.getLsbD i <;> simp_all
theorem and_low (X : BitVec 64) (j : Nat) (hj : j < 64) (M : BitVec 64) (hM : M.toNat = 2 ^ j - 1) : X &&& M = X ↔ X.toNat < 2 ^ j := by
  rw [← BitVec.toNat_inj, BitVec.toNat_and, hM, Nat.and_two_pow_sub_one_eq_mod]
  constructor
  · intro h
    have := Nat.mod_lt X.toNat (Nat.two_pow_pos j)
    omega
  · intro h; exact Nat.mod_eq_of_lt h

theorem ofInt_lt (x : Int) (h1 : -9223372036854775808 ≤ x) (h2 : x ≤ 9223372036854775807) (B : Nat) (hB : B ≤ 8) : (BitVec.ofInt 64 x).toNat < B ↔ 0 ≤ x ∧ x < B := by
  rw [BitVec.toNat_ofInt]
  have : ((2 ^ 64 : Nat) : Int) = 18446744073709551616 := by decide
  rw [this]
  omega
theorem wrap_zero (n : Nat) (h : n < 2 ^ 64) : IntKind.i64.wrap (n : Int) = 0 ↔ n = 0 := by
  have : (2 : Nat) ^ 64 = 18446744073709551616 := by decide
  rw [IntKind.wrap_i64]
  omega
theorem wrap_small (n : Nat) (h : n < 2 ^ 64) (m : Nat) (hm : m ≤ 7) : IntKind.i64.wrap (n : Int) = (m : Int) ↔ n = m := by
  have : (2 : Nat) ^ 64 = 18446744073709551616 := by decide
  rw [IntKind.wrap_i64]
  omega

theorem most_pow (k : Nat) (h : k < 18) : ∃ j : Nat, j < 4 ∧ most k = ((2 ^ j - 1 : Nat) : Int) := by
  have : ∀ i : Fin 18, ∃ j : Fin 4, most i.val = ((2 ^ j.val - 1 : Nat) : Int) := by decide
  obtain ⟨j, hj⟩ := this ⟨k, h⟩
  exact ⟨j.val, j.isLt, hj⟩

theorem bits_core (x : Int) (h1 : -9223372036854775808 ≤ x) (h2 : x ≤ 9223372036854775807) (k : Nat) (hk : k < 18) :
    (BitVec.ofInt 64 x &&& BitVec.ofInt 64 (most k) = BitVec.ofInt 64 x ↔ 0 ≤ x ∧ x ≤ most k) ∧ (BitVec.ofInt 64 (most k)).toNat = (most k).toNat ∧ 0 ≤ most k ∧ most k ≤ 7 := by
  obtain ⟨j, hj, e⟩ := most_pow k hk
  have hm : (BitVec.ofInt 64 (most k)).toNat = 2 ^ j - 1 := by
    rw [e]
    have : j = 0 ∨ j = 1 ∨ j = 2 ∨ j = 3 := by omega
    rcases this with rfl | rfl | rfl | rfl <;> decide
  have hp : 2 ^ j ≤ 8 ∧ 1 ≤ 2 ^ j := by
    have : j = 0 ∨ j = 1 ∨ j = 2 ∨ j = 3 := by omega
    rcases this with rfl | rfl | rfl | rfl <;> decide
  refine ⟨?_, by rw [hm, e]; omega, by rw [e]; omega, by rw [e]; omega⟩
  rw [and_low _ j (by omega) _ hm, ofInt_lt x h1 h2 _ hp.1, e]
  omega

/-- No other bits: the program's way. -/
theorem andNot_most (x : Int) (h1 : -9223372036854775808 ≤ x) (h2 : x ≤ 9223372036854775807) (k : Nat) (hk : k < 18) : bits .andNot .i64 x (most k) = 0 ↔ 0 ≤ x ∧ x ≤ most k := by
  obtain ⟨c1, c2, c3, c4⟩ := bits_core x h1 h2 k hk
  rw [← c1, ← andNot_iff, ← BitVec.toNat_inj]
  show IntKind.i64.wrap (((BitVec.ofInt 64 x &&& ~~~ BitVec.ofInt 64 (most k)).toNat : Nat) : Int) = 0 ↔ _
  rw [wrap_zero _ (BitVec.isLt _)]
  rfl
/-- No other bits: the document's way. -/
theorem or_most (x : Int) (h1 : -9223372036854775808 ≤ x) (h2 : x ≤ 9223372036854775807) (k : Nat) (hk : k < 18) : bits .or .i64 x (most k) = most k ↔ 0 ≤ x ∧ x ≤ most k := by
  obtain ⟨c1, c2, c3, c4⟩ := bits_core x h1 h2 k hk
  rw [← c1, ← or_iff, ← BitVec.toNat_inj, c2]
  show IntKind.i64.wrap (((BitVec.ofInt 64 x ||| BitVec.ofInt 64 (most k)).toNat : Nat) : Int) = most k ↔ _
  have e : most k = (((most k).toNat : Nat) : Int) := by omega
  conv => lhs; rhs; rw [e]
  rw [wrap_small _ (BitVec.isLt _) _ (by omega)]
end Go.Proofs.Ytfbmkcogkiejnaa.Tb
