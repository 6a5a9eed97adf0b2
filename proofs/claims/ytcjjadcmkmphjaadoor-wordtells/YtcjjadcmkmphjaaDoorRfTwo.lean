/- What the document's own Two, Sel and low answer, for whatever op and numbers. -/
import Derived.Test.YtcjjadcmkmphjaaDoorWdTwo
import Derived.Test.YtcjjadcmkmphjaaDoorRfPlain
import Derived.Deep.QuietTactic
import Derived.BigQuiet
import Derived.RegionTactic
namespace Go.Proofs.YtcjjadcmkmphjaaDoor.Rf
set_option linter.unusedVariables false
open Go.ChangeShapes Go.WideShapes Go.ChangeAt Go.RowKit

theorem two_1 (a b : Int) (w : World) :
    Calls Tryd.prog 5 #[.int .i64 1, .int .i64 a, .int .i64 b] w fun e w' => e = .returned (.tuple #[.int .i64 (Wd.two 1 a b), .int .i64 0]) ∧ ∃ n, w' = w.drewN n := by
  have ha := lowbits a
  have hb := lowbits b
  have x0 := Wd.m0 a
  have x1 := Wd.m1 a
  have y0 := Wd.m0 b
  have y1 := Wd.m1 b
  have E : (a % 4294967296 + b % 4294967296) % 4294967296 = Wd.two 1 a b := by rw [Wd.two1]; omega
  have HE := Wd.keep E
  clear E
  go_enter Tryd.func5, Tryd.ntmps5
  go_wp2
  go_quiet (fail)
  go_wp2
  go_ret2
  exact ⟨Wd.ret_two HE.out 0, _, rfl⟩

theorem two_2 (a b : Int) (w : World) :
    Calls Tryd.prog 5 #[.int .i64 2, .int .i64 a, .int .i64 b] w fun e w' => e = .returned (.tuple #[.int .i64 (Wd.two 2 a b), .int .i64 0]) ∧ ∃ n, w' = w.drewN n := by
  have ha := lowbits a
  have hb := lowbits b
  have x0 := Wd.m0 a
  have x1 := Wd.m1 a
  have y0 := Wd.m0 b
  have y1 := Wd.m1 b
  have E : (a % 4294967296 - b % 4294967296 + 4294967296) % 4294967296 = Wd.two 2 a b := by rw [Wd.two2]; omega
  have HE := Wd.keep E
  clear E
  go_enter Tryd.func5, Tryd.ntmps5
  go_wp2
  go_quiet (fail)
  go_wp2
  go_ret2
  exact ⟨Wd.ret_two HE.out 0, _, rfl⟩

theorem two_3 (a b : Int) (w : World) :
    Calls Tryd.prog 5 #[.int .i64 3, .int .i64 a, .int .i64 b] w fun e w' => e = .returned (.tuple #[.int .i64 (Wd.two 3 a b), .int .i64 0]) ∧ ∃ n, w' = w.drewN n := by
  have ha := lowbits a
  have hb := lowbits b
  have x0 := Wd.m0 a
  have x1 := Wd.m1 a
  have y0 := Wd.m0 b
  have y1 := Wd.m1 b
  have E : bits .and .i64 (a % 4294967296) (b % 4294967296) = Wd.two 3 a b := by rw [i64_and _ _ x0 x1 y0 y1]; rfl
  have HE := Wd.keep E
  clear E
  go_enter Tryd.func5, Tryd.ntmps5
  go_wp2
  go_quiet (fail)
  go_wp2
  go_ret2
  exact ⟨Wd.ret_two HE.out 0, _, rfl⟩

theorem two_4 (a b : Int) (w : World) :
    Calls Tryd.prog 5 #[.int .i64 4, .int .i64 a, .int .i64 b] w fun e w' => e = .returned (.tuple #[.int .i64 (Wd.two 4 a b), .int .i64 0]) ∧ ∃ n, w' = w.drewN n := by
  have ha := lowbits a
  have hb := lowbits b
  have x0 := Wd.m0 a
  have x1 := Wd.m1 a
  have y0 := Wd.m0 b
  have y1 := Wd.m1 b
  have E : bits .or .i64 (a % 4294967296) (b % 4294967296) = Wd.two 4 a b := by rw [i64_or _ _ x0 x1 y0 y1]; rfl
  have HE := Wd.keep E
  clear E
  go_enter Tryd.func5, Tryd.ntmps5
  go_wp2
  go_quiet (fail)
  go_wp2
  go_ret2
  exact ⟨Wd.ret_two HE.out 0, _, rfl⟩

theorem two_5 (a b : Int) (w : World) :
    Calls Tryd.prog 5 #[.int .i64 5, .int .i64 a, .int .i64 b] w fun e w' => e = .returned (.tuple #[.int .i64 (Wd.two 5 a b), .int .i64 0]) ∧ ∃ n, w' = w.drewN n := by
  have ha := lowbits a
  have hb := lowbits b
  have x0 := Wd.m0 a
  have x1 := Wd.m1 a
  have y0 := Wd.m0 b
  have y1 := Wd.m1 b
  have E : bits .xor .i64 (a % 4294967296) (b % 4294967296) = Wd.two 5 a b := by rw [i64_xor _ _ x0 x1 y0 y1]; rfl
  have HE := Wd.keep E
  clear E
  go_enter Tryd.func5, Tryd.ntmps5
  go_wp2
  go_quiet (fail)
  go_wp2
  go_ret2
  exact ⟨Wd.ret_two HE.out 0, _, rfl⟩

theorem two_6 (a b : Int) (w : World) :
    Calls Tryd.prog 5 #[.int .i64 6, .int .i64 a, .int .i64 b] w fun e w' => e = .returned (.tuple #[.int .i64 (Wd.two 6 a b), .int .i64 0]) ∧ ∃ n, w' = w.drewN n := by
  have ha := lowbits a
  have hb := lowbits b
  have x0 := Wd.m0 a
  have x1 := Wd.m1 a
  have y0 := Wd.m0 b
  have y1 := Wd.m1 b
  have n0 : 0 ≤ b % 32 := by omega
  have n1 : b % 32 < 32 := by omega
  have eN : (32 - b % 32).toNat = 32 - (b % 32).toNat := by omega
  have P := pow_le (32 - (b % 32).toNat) (by omega)
  have hP : wrap64 (2 ^ (32 - b % 32).toNat) = 2 ^ (32 - (b % 32).toNat) := by rw [eN]; exact wrap64_of _ (Int.le_trans (by decide) P.1) (Int.le_trans P.2 (by decide))
  have E : wrap64 (a % 4294967296 % 2 ^ (32 - (b % 32).toNat) * 2 ^ (b % 32).toNat) = Wd.two 6 a b := by
    rw [Wd.two6, shl_cut _ _ (by omega)]
    exact wrap64_of _ (Int.le_trans (by decide) (Int.emod_nonneg _ (by decide))) (Int.le_trans (Int.le_of_lt (Int.emod_lt_of_pos _ (by decide))) (by decide))
  clear eN
  generalize (2 : Int) ^ (32 - (b % 32).toNat) = p at *
  obtain ⟨p0, p1⟩ := P
  have HE := Wd.keep E
  clear E
  go_enter Tryd.func5, Tryd.ntmps5
  go_wp2
  go_quiet (fail)
  go_wp2
  go_ret2
  exact ⟨Wd.ret_two HE.out 0, _, rfl⟩

theorem two_7 (a b : Int) (w : World) :
    Calls Tryd.prog 5 #[.int .i64 7, .int .i64 a, .int .i64 b] w fun e w' => e = .returned (.tuple #[.int .i64 (Wd.two 7 a b), .int .i64 0]) ∧ ∃ n, w' = w.drewN n := by
  have ha := lowbits a
  have hb := lowbits b
  have x0 := Wd.m0 a
  have x1 := Wd.m1 a
  have y0 := Wd.m0 b
  have y1 := Wd.m1 b
  have n0 : 0 ≤ b % 32 := by omega
  have n1 : b % 32 < 32 := by omega
  go_enter Tryd.func5, Tryd.ntmps5
  go_wp2
  go_quiet (fail)
  go_wp2
  go_ret2
  exact ⟨Wd.ret_two (Wd.two7 a b).symm 0, _, rfl⟩

theorem two_8 (a b : Int) (w : World) :
    Calls Tryd.prog 5 #[.int .i64 8, .int .i64 a, .int .i64 b] w fun e w' => e = .returned (.tuple #[.int .i64 (Wd.two 8 a b), .int .i64 0]) ∧ ∃ n, w' = w.drewN n := by
  have ha := lowbits a
  have hb := lowbits b
  have x0 := Wd.m0 a
  have x1 := Wd.m1 a
  have y0 := Wd.m0 b
  have y1 := Wd.m1 b
  have E : Wd.two 8 a b = a % 4294967296 * (b % 4294967296) % 4294967296 := Wd.two8 a b
  rw [← mul_halves] at E
  have HE := Wd.keep E
  clear E
  generalize a % 4294967296 = x at *
  generalize b % 4294967296 = y at *
  have p0 : 0 ≤ x % 65536 * y := Int.mul_nonneg (by omega) y0
  have p1 : x % 65536 * y ≤ 65535 * 4294967295 := Int.mul_le_mul (by omega) (by omega) y0 (by decide)
  have q0 : 0 ≤ x / 65536 * (y % 65536) := Int.mul_nonneg (by omega) (by omega)
  have q1 : x / 65536 * (y % 65536) ≤ 65535 * 65535 := Int.mul_le_mul (by omega) (by omega) (by omega) (by decide)
  go_enter Tryd.func5, Tryd.ntmps5
  go_wp2
  go_quiet (fail)
  go_wp2
  go_ret2
  exact ⟨Wd.ret_two HE.out.symm 0, _, rfl⟩

theorem two_9 (a b : Int) (w : World) :
    Calls Tryd.prog 5 #[.int .i64 9, .int .i64 a, .int .i64 b] w fun e w' => e = .returned (.tuple #[.int .i64 (Wd.two 9 a b), .int .i64 0]) ∧ ∃ n, w' = w.drewN n := by
  have ha := lowbits a
  have hb := lowbits b
  have x0 := Wd.m0 a
  have x1 := Wd.m1 a
  have y0 := Wd.m0 b
  have y1 := Wd.m1 b
  have E := Wd.two9 a b
  by_cases hy : b % 4294967296 = 0
  · have d : (b % 4294967296 == 0) = true := by rw [hy]; rfl
    rw [if_pos hy] at E
    have HE := Wd.keep E
    clear E hy
    go_enter Tryd.func5, Tryd.ntmps5
    go_wp2
    go_quiet (fail)
    go_wp2
    go_ret2
    exact ⟨Wd.ret_two HE.out.symm 0, _, rfl⟩
  · have d : (b % 4294967296 == 0) = false := by rw [beq_eq_false_iff_ne]; exact hy
    rw [if_neg hy] at E
    have HE := Wd.keep E
    have l0 := Int.ediv_nonneg x0 y0
    have l1 := Int.ediv_le_self (b % 4294967296) x0
    clear E
    go_enter Tryd.func5, Tryd.ntmps5
    go_wp2
    go_quiet (fail)
    go_wp2
    go_ret2
    exact ⟨Wd.ret_two HE.out.symm 0, _, rfl⟩

theorem two_10 (a b : Int) (w : World) :
    Calls Tryd.prog 5 #[.int .i64 10, .int .i64 a, .int .i64 b] w fun e w' => e = .returned (.tuple #[.int .i64 (Wd.two 10 a b), .int .i64 0]) ∧ ∃ n, w' = w.drewN n := by
  have ha := lowbits a
  have hb := lowbits b
  have x0 := Wd.m0 a
  have x1 := Wd.m1 a
  have y0 := Wd.m0 b
  have y1 := Wd.m1 b
  have E := Wd.two10 a b
  by_cases hy : b % 4294967296 = 0
  · have d : (b % 4294967296 == 0) = true := by rw [hy]; rfl
    rw [if_pos hy] at E
    have HE := Wd.keep E
    clear E hy
    go_enter Tryd.func5, Tryd.ntmps5
    go_wp2
    go_quiet (fail)
    go_wp2
    go_ret2
    exact ⟨Wd.ret_two HE.out.symm 0, _, rfl⟩
  · have d : (b % 4294967296 == 0) = false := by rw [beq_eq_false_iff_ne]; exact hy
    rw [if_neg hy] at E
    have HE := Wd.keep E
    clear E
    go_enter Tryd.func5, Tryd.ntmps5
    go_wp2
    go_quiet (fail)
    go_wp2
    go_ret2
    exact ⟨Wd.ret_two HE.out.symm 0, _, rfl⟩
end Go.Proofs.YtcjjadcmkmphjaaDoor.Rf
