/- Laid together: FrOne, FrCheck, FlWays, FlShows, FlEven, MhMore, FrSeen, MhRload, RfPlain, RfTwo. -/
import Derived.Test.YtpnacanbknejiaaFrSome
import Derived.Test.YtpnacanbknejiaaFlAlive
import Derived.Test.YtpnacanbknejiaaFlRun
import Derived.Test.YtpnacanbknejiaaGr40
import Derived.Test.YtpnacanbknejiaaGr42
import Derived.Test.YtpnacanbknejiaaMhLoad
import Derived.Test.YtpnacanbknejiaaFrReads
import Derived.Test.YtpnacanbknejiaaGr0
import Derived.Laws.BitsAllLaws
import Derived.Test.YtpnacanbknejiaaGr5
import Derived.Deep.QuietTactic
import Derived.BigQuiet
import Derived.RegionTactic
namespace Go.Proofs.Ytpnacanbknejiaa.Fl
set_option linter.unusedVariables false
set_option linter.unusedSimpArgs false
open Go.ChangeShapes Go.WideShapes Go.ChangeAt Go.RowKit Lg Lr
theorem FO.c {aa : Act} {F n1 n2 k c1 : Nat} {p1 : Option Addr} {X : Nat} (h : FO aa F n1 n2 k c1 p1 X) : FC aa F n1 n2 k c1 p1 := ⟨h.wide,h.s1,h.s4,h.s41,h.s42,h.s43⟩
def TabR (T : Nat → Int) : Prop := T 0 = 0 ∧ ∀ k,1 ≤ k → k ≤ 17 → 0 ≤ T k ∧ T k ≤ Tb.most k
theorem most_7 (k : Nat) (h : k ≤ 17) : Tb.most k ≤ 7 := by
 have : ∀ j : Fin 18,Tb.most j.val ≤ 7 := by decide
 exact this ⟨k,by omega⟩
theorem TabR.t7 {T : Nat → Int} (h : TabR T) : T7 T := fun k h1 h2 => ⟨(h.2 k h1 h2).1,Int.le_trans (h.2 k h1 h2).2 (most_7 k h2)⟩
theorem tabR_of {T : Nat → Int} (h : Tb.wrongT T = 0) : TabR T := by
 unfold Tb.wrongT at h
 by_cases h0 : T 0 = 0
 ·rw [if_neg (by simpa using h0)] at h
  refine ⟨h0,fun k k1 k2 => ?_⟩
  by_cases hf : ∀ k : Fin 17,Tb.fits T (k.val + 1) = true
  ·have := hf ⟨k - 1,by omega⟩
   rw [show (⟨k - 1,by omega⟩ : Fin 17).val + 1 = k by simp; omega] at this
   exact of_decide_eq_true this
  ·rw [if_neg hf] at h; cases h
 ·rw [if_pos h0] at h; cases h
end Go.Proofs.Ytpnacanbknejiaa.Fl
namespace Go.Proofs.Ytpnacanbknejiaa.Mh
set_option linter.unusedVariables false
set_option linter.unusedSimpArgs false
open Go.ChangeShapes Go.WideShapes Go.ChangeAt Go.RowKit Lg Lr Fl
end Go.Proofs.Ytpnacanbknejiaa.Mh
namespace Go.Proofs.Ytpnacanbknejiaa.Fl
set_option linter.unusedVariables false
set_option linter.unusedSimpArgs false
open Go.ChangeShapes Go.WideShapes Go.ChangeAt Go.RowKit Lg Lr
def sl (n : Int) (i : Ix) (P : List Int) : List Int := (if bitOn n 0 = true then [gI P i.a] else []) ++ ((if bitOn n 1 = true ∧ i.op ≠ 16 then [gI P (if i.op = 17 then i.d else i.b)] else []) ++ (if bitOn n 2 = true then [gI P i.c] else []))
theorem RowI.ints {w : World} {lo : Nat} {v : Value} {es : List Int} (h : RowI w lo v es) (hl : es.length ≤ 17592186044416) : IntsIs w w.heap.size es v := by
 obtain ⟨p,n,cap,h1,h2,h3,h4,h5⟩ := RowI.intsX h hl (fun i => i < w.heap.size) (fun i _ hi => hi)
 exact ⟨p,n,cap,h1,h2,h3,h4,h5⟩
theorem IntsX.mono {w : World} {X Y : Nat → Prop} {l : List Int} {v : Value} (h : IntsX w X l v) (hb : ∀ i,X i → Y i) : IntsX w Y l v := by
 obtain ⟨q,n,cap,h1,h2,h3,h4,h5⟩ := h
 refine ⟨q,n,cap,h1,h2,h3,h4,fun j x hj => ?_⟩
 obtain ⟨g,o,k1,k2,k3⟩ := h5 j x hj
 exact ⟨g,o,k1,hb g k2,k3⟩
theorem IntsX.ints {w : World} {X : Nat → Prop} {l : List Int} {v : Value} (h : IntsX w X l v) (hb : ∀ i,X i → i < w.heap.size) : IntsIs w w.heap.size l v := by
 obtain ⟨q,n,cap,h1,h2,h3,h4,h5⟩ := h
 refine ⟨q,n,cap,h1,h2,h3,h4,fun j x hj => ?_⟩
 obtain ⟨g,o,k1,k2,k3⟩ := h5 j x hj
 exact ⟨g,o,k1,hb g k2,k3⟩
end Go.Proofs.Ytpnacanbknejiaa.Fl
namespace Go.Proofs.Ytpnacanbknejiaa.Mh
set_option linter.unusedVariables false
set_option linter.unusedSimpArgs false
open Go.ChangeShapes Go.WideShapes Go.ChangeAt Go.RowKit Lg Lr Fl
end Go.Proofs.Ytpnacanbknejiaa.Mh
namespace Go.Proofs.Ytpnacanbknejiaa.Rf
set_option linter.unusedVariables false
open Go.RowKit
theorem lowbits (a : Int) : (wrap64 (a.tmod 4294967296 + 4294967296)).tmod 4294967296 = a % 4294967296 := by
 unfold wrap64
 have h1 := Int.tmod_add_mul_tdiv a 4294967296
 have h2 := Int.tmod_lt_of_pos a (show (0:Int) < 4294967296 by decide)
 have h3 := Int.lt_tmod_of_pos a (show (0:Int) < 4294967296 by decide)
 rw [Int.tmod_eq_emod_of_nonneg (by omega)]
 omega
theorem wrap64_of (n : Int) (h0 : -9223372036854775808 ≤ n) (h1 : n ≤ 9223372036854775807) : wrap64 n = n := by unfold wrap64; omega
theorem ofInt_i64 (a : Nat) (ha : a < 18446744073709551616) : (BitVec.ofInt 64 (a : Int)).toNat = a := by
 rw [BitVec.ofInt_natCast,BitVec.toNat_ofNat]; exact Nat.mod_eq_of_lt (by omega)
theorem wrap_i64_small (n : Int) (h0 : 0 ≤ n) (h1 : n < 4294967296) : IntKind.i64.wrap n = n := by
 simp [IntKind.wrap,IntKind.bits,IntKind.signed]; omega
theorem i64_and (x y : Int) (x0 : 0 ≤ x) (x1 : x < 4294967296) (y0 : 0 ≤ y) (y1 : y < 4294967296) : bits .and .i64 x y = ((x.toNat &&& y.toNat : Nat) : Int) := by
 obtain ⟨a,rfl⟩ := Int.eq_ofNat_of_zero_le x0
 obtain ⟨b,rfl⟩ := Int.eq_ofNat_of_zero_le y0
 have hx := Wd.and_lt a b (by omega)
 show IntKind.i64.wrap ((BitVec.ofInt 64 (a : Int) &&& BitVec.ofInt 64 (b : Int)).toNat : Int) = _
 rw [BitVec.toNat_and,ofInt_i64 a (by omega),ofInt_i64 b (by omega),wrap_i64_small _ (by omega) (by omega)]
 rfl
theorem i64_or (x y : Int) (x0 : 0 ≤ x) (x1 : x < 4294967296) (y0 : 0 ≤ y) (y1 : y < 4294967296) : bits .or .i64 x y = ((x.toNat ||| y.toNat : Nat) : Int) := by
 obtain ⟨a,rfl⟩ := Int.eq_ofNat_of_zero_le x0
 obtain ⟨b,rfl⟩ := Int.eq_ofNat_of_zero_le y0
 have hx := Wd.or_lt a b (by omega) (by omega)
 show IntKind.i64.wrap ((BitVec.ofInt 64 (a : Int) ||| BitVec.ofInt 64 (b : Int)).toNat : Int) = _
 rw [BitVec.toNat_or,ofInt_i64 a (by omega),ofInt_i64 b (by omega),wrap_i64_small _ (by omega) (by omega)]
 rfl
theorem i64_xor (x y : Int) (x0 : 0 ≤ x) (x1 : x < 4294967296) (y0 : 0 ≤ y) (y1 : y < 4294967296) : bits .xor .i64 x y = ((x.toNat ^^^ y.toNat : Nat) : Int) := by
 obtain ⟨a,rfl⟩ := Int.eq_ofNat_of_zero_le x0
 obtain ⟨b,rfl⟩ := Int.eq_ofNat_of_zero_le y0
 have hx := Wd.xor_lt a b (by omega) (by omega)
 show IntKind.i64.wrap ((BitVec.ofInt 64 (a : Int) ^^^ BitVec.ofInt 64 (b : Int)).toNat : Int) = _
 rw [BitVec.toNat_xor,ofInt_i64 a (by omega),ofInt_i64 b (by omega),wrap_i64_small _ (by omega) (by omega)]
 rfl
theorem shl_cut (x : Int) (n : Nat) (hn : n ≤ 32) : x % 2 ^ (32 - n) * 2 ^ n = x * 2 ^ n % 4294967296 := by
 have e : (4294967296 : Int) = 2 ^ (32 - n) * 2 ^ n := by rw [← Int.pow_add,Nat.sub_add_cancel hn]; rfl
 rw [e,Int.mul_comm x,Int.mul_comm (2 ^ (32 - n)),Int.mul_emod_mul_of_pos _ _ (Int.pow_pos (by decide)),Int.mul_comm]
theorem pow_le (n : Nat) (hn : n ≤ 32) : (1 : Int) ≤ 2 ^ n ∧ (2 : Int) ^ n ≤ 4294967296 := by
 have h1 : (2 : Nat) ^ n ≤ 2 ^ 32 := Nat.pow_le_pow_right (by decide) hn
 have h2 : 1 ≤ (2 : Nat) ^ n := Nat.one_le_two_pow
 have e : ((2 : Int) ^ n) = (((2 : Nat) ^ n : Nat) : Int) := by simp
 rw [e]
 have h3 : (2 : Nat) ^ 32 = 4294967296 := by decide
 omega
theorem mul_halves (x y : Int) : (x % 65536 * y + x / 65536 * (y % 65536) % 65536 * 65536) % 4294967296 = x * y % 4294967296 := by
 have hx := Int.mul_ediv_add_emod x 65536
 have hy := Int.mul_ediv_add_emod y 65536
 have e1 : x * y = x % 65536 * y + x / 65536 * (y % 65536) * 65536 + x / 65536 * (y / 65536) * 4294967296 := by
  have e : x * y = (65536 * (x / 65536) + x % 65536) * y := by rw [hx]
  rw [e,Int.add_mul]
  have e2 : 65536 * (x / 65536) * y = 65536 * (x / 65536) * (65536 * (y / 65536) + y % 65536) := by rw [hy]
  rw [e2,Int.mul_add]
  generalize x % 65536 * y = p
  have e3 : 65536 * (x / 65536) * (65536 * (y / 65536)) = x / 65536 * (y / 65536) * 4294967296 := by
   rw [Int.mul_comm 65536 (x / 65536),Int.mul_assoc,Int.mul_left_comm 65536 65536,← Int.mul_assoc 65536 65536,Int.mul_comm (65536 * 65536),← Int.mul_assoc]
   rfl
  have e4 : 65536 * (x / 65536) * (y % 65536) = x / 65536 * (y % 65536) * 65536 := by
   rw [Int.mul_assoc,Int.mul_comm]
  rw [e3,e4]
  omega
 rw [e1]
 generalize x % 65536 * y = p
 generalize x / 65536 * (y % 65536) = q
 generalize x / 65536 * (y / 65536) = r
 omega
end Go.Proofs.Ytpnacanbknejiaa.Rf
namespace Go.Proofs.Ytpnacanbknejiaa.Rf
set_option linter.unusedVariables false
open Go.ChangeShapes Go.WideShapes Go.ChangeAt Go.RowKit
theorem two_1 (a b : Int) (w : World) :
  Calls Try.prog 69 #[.int .i64 1,.int .i64 a,.int .i64 b] w fun e w' => e = .returned (.tuple #[.int .i64 (Wd.two 1 a b),.int .i64 0]) ∧ ∃ n,w' = w.drewN n := by
 have ha := lowbits a
 have hb := lowbits b
 have x0 := Wd.m0 a
 have x1 := Wd.m1 a
 have y0 := Wd.m0 b
 have y1 := Wd.m1 b
 have E : (a % 4294967296 + b % 4294967296) % 4294967296 = Wd.two 1 a b := by rw [Wd.two1]; omega
 have HE := Wd.keep E
 clear E
 go_enter Try.func69,Try.ntmps69
 go_wp2
 go_quiet (fail)
 go_wp2
 go_ret2
 exact ⟨Wd.ret_two HE.out 0,_,rfl⟩
theorem two_2 (a b : Int) (w : World) :
  Calls Try.prog 69 #[.int .i64 2,.int .i64 a,.int .i64 b] w fun e w' => e = .returned (.tuple #[.int .i64 (Wd.two 2 a b),.int .i64 0]) ∧ ∃ n,w' = w.drewN n := by
 have ha := lowbits a
 have hb := lowbits b
 have x0 := Wd.m0 a
 have x1 := Wd.m1 a
 have y0 := Wd.m0 b
 have y1 := Wd.m1 b
 have E : (a % 4294967296 - b % 4294967296 + 4294967296) % 4294967296 = Wd.two 2 a b := by rw [Wd.two2]; omega
 have HE := Wd.keep E
 clear E
 go_enter Try.func69,Try.ntmps69
 go_wp2
 go_quiet (fail)
 go_wp2
 go_ret2
 exact ⟨Wd.ret_two HE.out 0,_,rfl⟩
theorem two_3 (a b : Int) (w : World) :
  Calls Try.prog 69 #[.int .i64 3,.int .i64 a,.int .i64 b] w fun e w' => e = .returned (.tuple #[.int .i64 (Wd.two 3 a b),.int .i64 0]) ∧ ∃ n,w' = w.drewN n := by
 have ha := lowbits a
 have hb := lowbits b
 have x0 := Wd.m0 a
 have x1 := Wd.m1 a
 have y0 := Wd.m0 b
 have y1 := Wd.m1 b
 have E : bits .and .i64 (a % 4294967296) (b % 4294967296) = Wd.two 3 a b := by rw [i64_and _ _ x0 x1 y0 y1]; rfl
 have HE := Wd.keep E
 clear E
 go_enter Try.func69,Try.ntmps69
 go_wp2
 go_quiet (fail)
 go_wp2
 go_ret2
 exact ⟨Wd.ret_two HE.out 0,_,rfl⟩
theorem two_4 (a b : Int) (w : World) :
  Calls Try.prog 69 #[.int .i64 4,.int .i64 a,.int .i64 b] w fun e w' => e = .returned (.tuple #[.int .i64 (Wd.two 4 a b),.int .i64 0]) ∧ ∃ n,w' = w.drewN n := by
 have ha := lowbits a
 have hb := lowbits b
 have x0 := Wd.m0 a
 have x1 := Wd.m1 a
 have y0 := Wd.m0 b
 have y1 := Wd.m1 b
 have E : bits .or .i64 (a % 4294967296) (b % 4294967296) = Wd.two 4 a b := by rw [i64_or _ _ x0 x1 y0 y1]; rfl
 have HE := Wd.keep E
 clear E
 go_enter Try.func69,Try.ntmps69
 go_wp2
 go_quiet (fail)
 go_wp2
 go_ret2
 exact ⟨Wd.ret_two HE.out 0,_,rfl⟩
theorem two_5 (a b : Int) (w : World) :
  Calls Try.prog 69 #[.int .i64 5,.int .i64 a,.int .i64 b] w fun e w' => e = .returned (.tuple #[.int .i64 (Wd.two 5 a b),.int .i64 0]) ∧ ∃ n,w' = w.drewN n := by
 have ha := lowbits a
 have hb := lowbits b
 have x0 := Wd.m0 a
 have x1 := Wd.m1 a
 have y0 := Wd.m0 b
 have y1 := Wd.m1 b
 have E : bits .xor .i64 (a % 4294967296) (b % 4294967296) = Wd.two 5 a b := by rw [i64_xor _ _ x0 x1 y0 y1]; rfl
 have HE := Wd.keep E
 clear E
 go_enter Try.func69,Try.ntmps69
 go_wp2
 go_quiet (fail)
 go_wp2
 go_ret2
 exact ⟨Wd.ret_two HE.out 0,_,rfl⟩
theorem two_6 (a b : Int) (w : World) :
  Calls Try.prog 69 #[.int .i64 6,.int .i64 a,.int .i64 b] w fun e w' => e = .returned (.tuple #[.int .i64 (Wd.two 6 a b),.int .i64 0]) ∧ ∃ n,w' = w.drewN n := by
 have ha := lowbits a
 have hb := lowbits b
 have x0 := Wd.m0 a
 have x1 := Wd.m1 a
 have y0 := Wd.m0 b
 have y1 := Wd.m1 b
 have n0 : 0 ≤ b % 32 := by omega
 have n1 : b % 32 < 32 := by omega
 have eN : (32 - b % 32).toNat = 32 - (b % 32).toNat := by omega
 have P := pow_le (32 - (b % 32).toNat) (by omega)
 have hP : wrap64 (2 ^ (32 - b % 32).toNat) = 2 ^ (32 - (b % 32).toNat) := by rw [eN]; exact wrap64_of _ (Int.le_trans (by decide) P.1) (Int.le_trans P.2 (by decide))
 have E : wrap64 (a % 4294967296 % 2 ^ (32 - (b % 32).toNat) * 2 ^ (b % 32).toNat) = Wd.two 6 a b := by
  rw [Wd.two6,shl_cut _ _ (by omega)]
  exact wrap64_of _ (Int.le_trans (by decide) (Int.emod_nonneg _ (by decide))) (Int.le_trans (Int.le_of_lt (Int.emod_lt_of_pos _ (by decide))) (by decide))
 clear eN
 generalize (2 : Int) ^ (32 - (b % 32).toNat) = p at *
 obtain ⟨p0,p1⟩ := P
 have HE := Wd.keep E
 clear E
 go_enter Try.func69,Try.ntmps69
 go_wp2
 go_quiet (fail)
 go_wp2
 go_ret2
 exact ⟨Wd.ret_two HE.out 0,_,rfl⟩
theorem two_7 (a b : Int) (w : World) :
  Calls Try.prog 69 #[.int .i64 7,.int .i64 a,.int .i64 b] w fun e w' => e = .returned (.tuple #[.int .i64 (Wd.two 7 a b),.int .i64 0]) ∧ ∃ n,w' = w.drewN n := by
 have ha := lowbits a
 have hb := lowbits b
 have x0 := Wd.m0 a
 have x1 := Wd.m1 a
 have y0 := Wd.m0 b
 have y1 := Wd.m1 b
 have n0 : 0 ≤ b % 32 := by omega
 have n1 : b % 32 < 32 := by omega
 go_enter Try.func69,Try.ntmps69
 go_wp2
 go_quiet (fail)
 go_wp2
 go_ret2
 exact ⟨Wd.ret_two (Wd.two7 a b).symm 0,_,rfl⟩
theorem two_8 (a b : Int) (w : World) :
  Calls Try.prog 69 #[.int .i64 8,.int .i64 a,.int .i64 b] w fun e w' => e = .returned (.tuple #[.int .i64 (Wd.two 8 a b),.int .i64 0]) ∧ ∃ n,w' = w.drewN n := by
 have ha := lowbits a
 have hb := lowbits b
 have x0 := Wd.m0 a
 have x1 := Wd.m1 a
 have y0 := Wd.m0 b
 have y1 := Wd.m1 b
 have E : Wd.two 8 a b = a % 4294967296 * (b % 4294967296) % 4294967296 := Wd.two8 a b
 rw [← mul_halves] at E
 have HE := Wd.keep E
 clear E
 generalize a % 4294967296 = x at *
 generalize b % 4294967296 = y at *
 have p0 : 0 ≤ x % 65536 * y := Int.mul_nonneg (by omega) y0
 have p1 : x % 65536 * y ≤ 65535 * 4294967295 := Int.mul_le_mul (by omega) (by omega) y0 (by decide)
 have q0 : 0 ≤ x / 65536 * (y % 65536) := Int.mul_nonneg (by omega) (by omega)
 have q1 : x / 65536 * (y % 65536) ≤ 65535 * 65535 := Int.mul_le_mul (by omega) (by omega) (by omega) (by decide)
 go_enter Try.func69,Try.ntmps69
 go_wp2
 go_quiet (fail)
 go_wp2
 go_ret2
 exact ⟨Wd.ret_two HE.out.symm 0,_,rfl⟩
theorem two_9 (a b : Int) (w : World) :
  Calls Try.prog 69 #[.int .i64 9,.int .i64 a,.int .i64 b] w fun e w' => e = .returned (.tuple #[.int .i64 (Wd.two 9 a b),.int .i64 0]) ∧ ∃ n,w' = w.drewN n := by
 have ha := lowbits a
 have hb := lowbits b
 have x0 := Wd.m0 a
 have x1 := Wd.m1 a
 have y0 := Wd.m0 b
 have y1 := Wd.m1 b
 have E := Wd.two9 a b
 by_cases hy : b % 4294967296 = 0
 ·have d : (b % 4294967296 == 0) = true := by rw [hy]; rfl
  rw [if_pos hy] at E
  have HE := Wd.keep E
  clear E hy
  go_enter Try.func69,Try.ntmps69
  go_wp2
  go_quiet (fail)
  go_wp2
  go_ret2
  exact ⟨Wd.ret_two HE.out.symm 0,_,rfl⟩
 ·have d : (b % 4294967296 == 0) = false := by rw [beq_eq_false_iff_ne]; exact hy
  rw [if_neg hy] at E
  have HE := Wd.keep E
  have l0 := Int.ediv_nonneg x0 y0
  have l1 := Int.ediv_le_self (b % 4294967296) x0
  clear E
  go_enter Try.func69,Try.ntmps69
  go_wp2
  go_quiet (fail)
  go_wp2
  go_ret2
  exact ⟨Wd.ret_two HE.out.symm 0,_,rfl⟩
theorem two_10 (a b : Int) (w : World) :
  Calls Try.prog 69 #[.int .i64 10,.int .i64 a,.int .i64 b] w fun e w' => e = .returned (.tuple #[.int .i64 (Wd.two 10 a b),.int .i64 0]) ∧ ∃ n,w' = w.drewN n := by
 have ha := lowbits a
 have hb := lowbits b
 have x0 := Wd.m0 a
 have x1 := Wd.m1 a
 have y0 := Wd.m0 b
 have y1 := Wd.m1 b
 have E := Wd.two10 a b
 by_cases hy : b % 4294967296 = 0
 ·have d : (b % 4294967296 == 0) = true := by rw [hy]; rfl
  rw [if_pos hy] at E
  have HE := Wd.keep E
  clear E hy
  go_enter Try.func69,Try.ntmps69
  go_wp2
  go_quiet (fail)
  go_wp2
  go_ret2
  exact ⟨Wd.ret_two HE.out.symm 0,_,rfl⟩
 ·have d : (b % 4294967296 == 0) = false := by rw [beq_eq_false_iff_ne]; exact hy
  rw [if_neg hy] at E
  have HE := Wd.keep E
  clear E
  go_enter Try.func69,Try.ntmps69
  go_wp2
  go_quiet (fail)
  go_wp2
  go_ret2
  exact ⟨Wd.ret_two HE.out.symm 0,_,rfl⟩
end Go.Proofs.Ytpnacanbknejiaa.Rf
