/- Words of 32 bits, as plain numbers: what Two is to answer for each op, and what comes of it there and back. No Go in it. -/
import Derived.WalkKit
namespace Go.Proofs.YtkobiojndamofaaDoor.Wd
set_option linter.unusedVariables false

/-- A fact kept from the walk. -/
theorem keep {p : Prop} (h : p) : Go.RowKit.Hid p := h

/-- What is made of two numbers, by an op from 1 to 12: of their lowest 32 bits. -/
def two (op a b : Int) : Int :=
  if op = 1 then (a + b) % 4294967296
  else if op = 2 then (a - b) % 4294967296
  else if op = 3 then (((a % 4294967296).toNat &&& (b % 4294967296).toNat : Nat) : Int)
  else if op = 4 then (((a % 4294967296).toNat ||| (b % 4294967296).toNat : Nat) : Int)
  else if op = 5 then (((a % 4294967296).toNat ^^^ (b % 4294967296).toNat : Nat) : Int)
  else if op = 6 then (a % 4294967296) * 2 ^ (b % 32).toNat % 4294967296
  else if op = 7 then (a % 4294967296) / 2 ^ (b % 32).toNat
  else if op = 8 then (a % 4294967296) * (b % 4294967296) % 4294967296
  else if op = 9 then (if b % 4294967296 = 0 then 4294967295 else (a % 4294967296) / (b % 4294967296))
  else if op = 10 then (if b % 4294967296 = 0 then a % 4294967296 else (a % 4294967296) % (b % 4294967296))
  else if op = 11 then (if a % 4294967296 < b % 4294967296 then 1 else 0)
  else (if a % 4294967296 = b % 4294967296 then 1 else 0)

theorem two1 (a b : Int) : two 1 a b = (a + b) % 4294967296 := rfl
theorem two2 (a b : Int) : two 2 a b = (a - b) % 4294967296 := rfl
theorem two3 (a b : Int) : two 3 a b = (((a % 4294967296).toNat &&& (b % 4294967296).toNat : Nat) : Int) := rfl
theorem two4 (a b : Int) : two 4 a b = (((a % 4294967296).toNat ||| (b % 4294967296).toNat : Nat) : Int) := rfl
theorem two5 (a b : Int) : two 5 a b = (((a % 4294967296).toNat ^^^ (b % 4294967296).toNat : Nat) : Int) := rfl
theorem two6 (a b : Int) : two 6 a b = (a % 4294967296) * 2 ^ (b % 32).toNat % 4294967296 := rfl
theorem two7 (a b : Int) : two 7 a b = (a % 4294967296) / 2 ^ (b % 32).toNat := rfl
theorem two8 (a b : Int) : two 8 a b = (a % 4294967296) * (b % 4294967296) % 4294967296 := rfl
theorem two9 (a b : Int) : two 9 a b = (if b % 4294967296 = 0 then 4294967295 else (a % 4294967296) / (b % 4294967296)) := rfl
theorem two10 (a b : Int) : two 10 a b = (if b % 4294967296 = 0 then a % 4294967296 else (a % 4294967296) % (b % 4294967296)) := rfl
theorem two11 (a b : Int) : two 11 a b = (if a % 4294967296 < b % 4294967296 then 1 else 0) := rfl
theorem two12 (a b : Int) : two 12 a b = (if a % 4294967296 = b % 4294967296 then 1 else 0) := rfl

theorem and_lt (x y : Nat) (hx : x < 4294967296) : x &&& y < 4294967296 := Nat.lt_of_le_of_lt Nat.and_le_left hx
theorem or_lt (x y : Nat) (hx : x < 4294967296) (hy : y < 4294967296) : x ||| y < 4294967296 := Nat.or_lt_two_pow (n := 32) hx hy
theorem xor_lt (x y : Nat) (hx : x < 4294967296) (hy : y < 4294967296) : x ^^^ y < 4294967296 := Nat.xor_lt_two_pow (n := 32) hx hy
theorem word_lt (a : Int) : (a % 4294967296).toNat < 4294967296 := by omega

/-- What is made of two numbers is a word. -/
theorem two_word (op a b : Int) : 0 ≤ two op a b ∧ two op a b ≤ 4294967295 := by
  have ha := word_lt a
  have hb := word_lt b
  have h3 := and_lt (a % 4294967296).toNat (b % 4294967296).toNat ha
  have h4 := or_lt (a % 4294967296).toNat (b % 4294967296).toNat ha hb
  have h5 := xor_lt (a % 4294967296).toNat (b % 4294967296).toNat ha hb
  have h6 : ∀ z : Int, 0 ≤ z % 4294967296 ∧ z % 4294967296 ≤ 4294967295 := fun z => by omega
  have h7 : 0 ≤ a % 4294967296 / 2 ^ (b % 32).toNat ∧ a % 4294967296 / 2 ^ (b % 32).toNat ≤ 4294967295 := by
    have hp : (0 : Int) < 2 ^ (b % 32).toNat := Int.pow_pos (by decide)
    refine ⟨Int.ediv_nonneg (by omega) (by omega), ?_⟩
    have := Int.ediv_le_self (2 ^ (b % 32).toNat) (show 0 ≤ a % 4294967296 by omega)
    omega
  have h9 : ¬ b % 4294967296 = 0 → 0 ≤ a % 4294967296 / (b % 4294967296) ∧ a % 4294967296 / (b % 4294967296) ≤ 4294967295 := by
    intro _
    refine ⟨Int.ediv_nonneg (by omega) (by omega), ?_⟩
    have := Int.ediv_le_self (b % 4294967296) (show 0 ≤ a % 4294967296 by omega)
    omega
  have h10 : ¬ b % 4294967296 = 0 → 0 ≤ a % 4294967296 % (b % 4294967296) ∧ a % 4294967296 % (b % 4294967296) ≤ 4294967295 := by
    intro hne
    have h1 := Int.emod_nonneg (a % 4294967296) hne
    have h2 := Int.emod_lt_of_pos (a % 4294967296) (show 0 < b % 4294967296 by omega)
    omega
  unfold two
  repeat' split
  all_goals first | exact h6 _ | exact h7 | exact h9 ‹_› | exact h10 ‹_› | omega

/-- What lies in both, and what lies in either, add up to both. -/
theorem and_add_or (n : Nat) : ∀ x y : Nat, x < 2 ^ n → (x &&& y) + (x ||| y) = x + y := by
  induction n with
  | zero => intro x y hx; have h0 : x = 0 := by omega
            subst h0; simp
  | succ n ih =>
    intro x y hx
    have h := ih (x / 2) (y / 2) (by omega)
    have e1 : (x &&& y) / 2 = x / 2 &&& y / 2 := Nat.and_div_two
    have e2 : (x ||| y) / 2 = x / 2 ||| y / 2 := Nat.or_div_two
    have m1 : (x &&& y) % 2 = x % 2 &&& y % 2 := Nat.and_mod_two_pow (n := 1)
    have m2 : (x ||| y) % 2 = x % 2 ||| y % 2 := Nat.or_mod_two_pow (n := 1)
    have hb : (x % 2 &&& y % 2) + (x % 2 ||| y % 2) = x % 2 + y % 2 := by
      rcases Nat.mod_two_eq_zero_or_one x with hx2 | hx2 <;> rcases Nat.mod_two_eq_zero_or_one y with hy2 | hy2 <;> rw [hx2, hy2] <;> decide
    omega

theorem word_self (a : Int) (h0 : 0 ≤ a) (h1 : a ≤ 4294967295) : a % 4294967296 = a := by omega

/-! There, and back. -/
theorem back_sub (a b : Int) (a0 : 0 ≤ a) (a1 : a ≤ 4294967295) (b0 : 0 ≤ b) (b1 : b ≤ 4294967295) : two 2 (two 1 a b) b = a := by
  rw [two2, two1]; omega

theorem back_xor (a b : Int) (a0 : 0 ≤ a) (a1 : a ≤ 4294967295) (b0 : 0 ≤ b) (b1 : b ≤ 4294967295) : two 5 (two 5 a b) b = a := by
  rw [two5, two5]
  have hx := xor_lt (a % 4294967296).toNat (b % 4294967296).toNat (word_lt a) (word_lt b)
  have e : (((((a % 4294967296).toNat ^^^ (b % 4294967296).toNat : Nat) : Int)) % 4294967296).toNat = ((a % 4294967296).toNat ^^^ (b % 4294967296).toNat) := by omega
  rw [e, Nat.xor_assoc, Nat.xor_self, Nat.xor_zero]; omega

theorem back_div (a b : Int) (a0 : 0 ≤ a) (a1 : a ≤ 4294967295) (b0 : 0 ≤ b) (b1 : b ≤ 4294967295) : two 1 (two 8 (two 9 a b) b) (two 10 a b) = a := by
  rw [two1, two8, two9, two10, word_self a a0 a1, word_self b b0 b1]
  by_cases h : b = 0
  · subst h; simp; omega
  · rw [if_neg h, if_neg h]
    have hq := Int.ediv_nonneg a0 b0
    have hq2 := Int.ediv_le_self b a0
    have e := Int.mul_ediv_add_emod a b
    rw [Int.mul_comm] at e
    rw [word_self (a / b) hq (by omega)]
    generalize a / b * b = p at *
    generalize a % b = r at *
    omega

theorem order_sum (a b : Int) (a0 : 0 ≤ a) (a1 : a ≤ 4294967295) (b0 : 0 ≤ b) (b1 : b ≤ 4294967295) : two 11 a b + two 11 b a + two 12 a b = 1 := by
  rw [two11, two11, two12, word_self a a0 a1, word_self b b0 b1]
  by_cases h1 : a < b
  · rw [if_pos h1, if_neg (by omega), if_neg (by omega)]; rfl
  · by_cases h2 : b < a
    · rw [if_neg h1, if_pos h2, if_neg (by omega)]; rfl
    · rw [if_neg h1, if_neg h2, if_pos (by omega)]; rfl

theorem back_and_or (a b : Int) (a0 : 0 ≤ a) (a1 : a ≤ 4294967295) (b0 : 0 ≤ b) (b1 : b ≤ 4294967295) : two 1 (two 3 a b) (two 4 a b) = two 1 a b := by
  rw [two1, two1, two3, two4, word_self a a0 a1, word_self b b0 b1]
  have h := and_add_or 32 a.toNat b.toNat (by omega)
  generalize a.toNat &&& b.toNat = p at *
  generalize a.toNat ||| b.toNat = q at *
  omega

theorem rest_less (a b : Int) (a0 : 0 ≤ a) (a1 : a ≤ 4294967295) (b0 : 0 ≤ b) (b1 : b ≤ 4294967295) (hb : b ≠ 0) : two 11 (two 10 a b) b = 1 := by
  rw [two11, two10, word_self a a0 a1, word_self b b0 b1, if_neg hb]
  have h1 := Int.emod_nonneg a hb
  have h2 := Int.emod_lt_of_pos a (show 0 < b by omega)
  rw [word_self (a % b) h1 (by omega), if_pos h2]

end Go.Proofs.YtkobiojndamofaaDoor.Wd
