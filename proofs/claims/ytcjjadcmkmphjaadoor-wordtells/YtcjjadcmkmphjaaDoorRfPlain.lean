/- The document's words of 32 bits, reckoned in numbers of 64: the same as words. No Go in it. -/
import Derived.Test.YtcjjadcmkmphjaaDoorWdPlain
import Derived.Laws.BitsAllLaws
namespace Go.Proofs.YtcjjadcmkmphjaaDoor.Rf
set_option linter.unusedVariables false
open Go.RowKit

theorem lowbits (a : Int) : (wrap64 (a.tmod 4294967296 + 4294967296)).tmod 4294967296 = a % 4294967296 := by
  unfold wrap64
  have h1 := Int.tmod_add_mul_tdiv a 4294967296
  have h2 := Int.tmod_lt_of_pos a (show (0:Int) < 4294967296 by decide)
  have h3 := Int.lt_tmod_of_pos a (show (0:Int) < 4294967296 by decide)
  rw [Int.tmod_eq_emod_of_nonneg (by omega)]
  omega

theorem wrap64_of (n : Int) (h0 : -9223372036854775808 ≤ n) (h1 : n ≤ 9223372036854775807) : wrap64 n = n := by unfold wrap64; omega

theorem ofInt_i64 (a : Nat) (ha : a < 18446744073709551616) : (BitVec.ofInt 64 (a : Int)).toNat = a := by
  rw [BitVec.ofInt_natCast, BitVec.toNat_ofNat]; exact Nat.mod_eq_of_lt (by omega)
theorem wrap_i64_small (n : Int) (h0 : 0 ≤ n) (h1 : n < 4294967296) : IntKind.i64.wrap n = n := by
  simp [IntKind.wrap, IntKind.bits, IntKind.signed]; omega

theorem i64_and (x y : Int) (x0 : 0 ≤ x) (x1 : x < 4294967296) (y0 : 0 ≤ y) (y1 : y < 4294967296) : bits .and .i64 x y = ((x.toNat &&& y.toNat : Nat) : Int) := by
  obtain ⟨a, rfl⟩ := Int.eq_ofNat_of_zero_le x0
  obtain ⟨b, rfl⟩ := Int.eq_ofNat_of_zero_le y0
  have hx := Wd.and_lt a b (by omega)
  show IntKind.i64.wrap ((BitVec.ofInt 64 (a : Int) &&& BitVec.ofInt 64 (b : Int)).toNat : Int) = _
  rw [BitVec.toNat_and, ofInt_i64 a (by omega), ofInt_i64 b (by omega), wrap_i64_small _ (by omega) (by omega)]
  rfl
theorem i64_or (x y : Int) (x0 : 0 ≤ x) (x1 : x < 4294967296) (y0 : 0 ≤ y) (y1 : y < 4294967296) : bits .or .i64 x y = ((x.toNat ||| y.toNat : Nat) : Int) := by
  obtain ⟨a, rfl⟩ := Int.eq_ofNat_of_zero_le x0
  obtain ⟨b, rfl⟩ := Int.eq_ofNat_of_zero_le y0
  have hx := Wd.or_lt a b (by omega) (by omega)
  show IntKind.i64.wrap ((BitVec.ofInt 64 (a : Int) ||| BitVec.ofInt 64 (b : Int)).toNat : Int) = _
  rw [BitVec.toNat_or, ofInt_i64 a (by omega), ofInt_i64 b (by omega), wrap_i64_small _ (by omega) (by omega)]
  rfl
theorem i64_xor (x y : Int) (x0 : 0 ≤ x) (x1 : x < 4294967296) (y0 : 0 ≤ y) (y1 : y < 4294967296) : bits .xor .i64 x y = ((x.toNat ^^^ y.toNat : Nat) : Int) := by
  obtain ⟨a, rfl⟩ := Int.eq_ofNat_of_zero_le x0
  obtain ⟨b, rfl⟩ := Int.eq_ofNat_of_zero_le y0
  have hx := Wd.xor_lt a b (by omega) (by omega)
  show IntKind.i64.wrap ((BitVec.ofInt 64 (a : Int) ^^^ BitVec.ofInt 64 (b : Int)).toNat : Int) = _
  rw [BitVec.toNat_xor, ofInt_i64 a (by omega), ofInt_i64 b (by omega), wrap_i64_small _ (by omega) (by omega)]
  rfl

/-- What is moved up, and cut off first what would go beyond 32 bits. -/
theorem shl_cut (x : Int) (n : Nat) (hn : n ≤ 32) : x % 2 ^ (32 - n) * 2 ^ n = x * 2 ^ n % 4294967296 := by
  have e : (4294967296 : Int) = 2 ^ (32 - n) * 2 ^ n := by rw [← Int.pow_add, Nat.sub_add_cancel hn]; rfl
  rw [e, Int.mul_comm x, Int.mul_comm (2 ^ (32 - n)), Int.mul_emod_mul_of_pos _ _ (Int.pow_pos (by decide)), Int.mul_comm]

theorem pow_le (n : Nat) (hn : n ≤ 32) : (1 : Int) ≤ 2 ^ n ∧ (2 : Int) ^ n ≤ 4294967296 := by
  have h1 : (2 : Nat) ^ n ≤ 2 ^ 32 := Nat.pow_le_pow_right (by decide) hn
  have h2 : 1 ≤ (2 : Nat) ^ n := Nat.one_le_two_pow
  have e : ((2 : Int) ^ n) = (((2 : Nat) ^ n : Nat) : Int) := by simp
  rw [e]
  have h3 : (2 : Nat) ^ 32 = 4294967296 := by decide
  omega

/-- The product, by halves. -/
theorem mul_halves (x y : Int) : (x % 65536 * y + x / 65536 * (y % 65536) % 65536 * 65536) % 4294967296 = x * y % 4294967296 := by
  have hx := Int.mul_ediv_add_emod x 65536
  have hy := Int.mul_ediv_add_emod y 65536
  have e1 : x * y = x % 65536 * y + x / 65536 * (y % 65536) * 65536 + x / 65536 * (y / 65536) * 4294967296 := by
    have e : x * y = (65536 * (x / 65536) + x % 65536) * y := by rw [hx]
    rw [e, Int.add_mul]
    have e2 : 65536 * (x / 65536) * y = 65536 * (x / 65536) * (65536 * (y / 65536) + y % 65536) := by rw [hy]
    rw [e2, Int.mul_add]
    generalize x % 65536 * y = p
    have e3 : 65536 * (x / 65536) * (65536 * (y / 65536)) = x / 65536 * (y / 65536) * 4294967296 := by
      rw [Int.mul_comm 65536 (x / 65536), Int.mul_assoc, Int.mul_left_comm 65536 65536, ← Int.mul_assoc 65536 65536, Int.mul_comm (65536 * 65536), ← Int.mul_assoc]
      rfl
    have e4 : 65536 * (x / 65536) * (y % 65536) = x / 65536 * (y % 65536) * 65536 := by
      rw [Int.mul_assoc, Int.mul_comm]
    rw [e3, e4]
    omega
  rw [e1]
  generalize x % 65536 * y = p
  generalize x / 65536 * (y % 65536) = q
  generalize x / 65536 * (y / 65536) = r
  omega
end Go.Proofs.YtcjjadcmkmphjaaDoor.Rf
