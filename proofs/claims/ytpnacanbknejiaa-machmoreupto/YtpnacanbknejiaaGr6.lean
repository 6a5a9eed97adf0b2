/- Laid together: WdTwo, LfOrd, LfIdx. -/
import Derived.Test.YtpnacanbknejiaaGr5
namespace Go.Proofs.Ytpnacanbknejiaa.Wd
set_option linter.unusedVariables false
open Go.ChangeShapes Go.WideShapes Go.ChangeAt Go.RowKit
theorem wrap64_small (n : Int) (h0 : 0 ≤ n) (h1 : n < 4294967296) : wrap64 n = n := by unfold wrap64; omega
theorem m0 (a : Int) : 0 ≤ a % 4294967296 := by omega
theorem m1 (a : Int) : a % 4294967296 < 4294967296 := by omega
theorem five (b : Int) : bits .and .u32 (b % 4294967296) 31 = b % 32 := by
 rw [u32_and _ _ (m0 b) (m1 b) (by decide) (by decide),show (31 : Int).toNat = 31 from rfl,nat_mask5]
 omega
theorem two_1 (a b : Int) (w : World) :
  Calls Try.prog 83 #[.int .i64 1,.int .i64 a,.int .i64 b] w fun e w' => e = .returned (.tuple #[.int .i64 (two 1 a b),.int .i64 0]) ∧ w' = w := by
 go_enter Try.func83,Try.ntmps83
 go_wp2
 go_ret2
 exact ⟨ret_two (two1 a b).symm 0,rfl⟩
theorem two_2 (a b : Int) (w : World) :
  Calls Try.prog 83 #[.int .i64 2,.int .i64 a,.int .i64 b] w fun e w' => e = .returned (.tuple #[.int .i64 (two 2 a b),.int .i64 0]) ∧ w' = w := by
 go_enter Try.func83,Try.ntmps83
 go_wp2
 go_ret2
 exact ⟨ret_two (two2 a b).symm 0,rfl⟩
theorem two_3 (a b : Int) (w : World) :
  Calls Try.prog 83 #[.int .i64 3,.int .i64 a,.int .i64 b] w fun e w' => e = .returned (.tuple #[.int .i64 (two 3 a b),.int .i64 0]) ∧ w' = w := by
 have E : wrap64 (bits BinOp.and IntKind.u32 (a % 4294967296) (b % 4294967296)) = two 3 a b := by
  rw [u32_and _ _ (m0 a) (m1 a) (m0 b) (m1 b),two3]
  have := and_lt (a % 4294967296).toNat (b % 4294967296).toNat (word_lt a)
  exact wrap64_small _ (by omega) (by omega)
 have HE := keep E
 clear E
 go_enter Try.func83,Try.ntmps83
 go_wp2
 go_ret2
 exact ⟨ret_two HE.out 0,rfl⟩
theorem two_4 (a b : Int) (w : World) :
  Calls Try.prog 83 #[.int .i64 4,.int .i64 a,.int .i64 b] w fun e w' => e = .returned (.tuple #[.int .i64 (two 4 a b),.int .i64 0]) ∧ w' = w := by
 have E : wrap64 (bits BinOp.or IntKind.u32 (a % 4294967296) (b % 4294967296)) = two 4 a b := by
  rw [u32_or _ _ (m0 a) (m1 a) (m0 b) (m1 b),two4]
  have := or_lt (a % 4294967296).toNat (b % 4294967296).toNat (word_lt a) (word_lt b)
  exact wrap64_small _ (by omega) (by omega)
 have HE := keep E
 clear E
 go_enter Try.func83,Try.ntmps83
 go_wp2
 go_ret2
 exact ⟨ret_two HE.out 0,rfl⟩
theorem two_5 (a b : Int) (w : World) :
  Calls Try.prog 83 #[.int .i64 5,.int .i64 a,.int .i64 b] w fun e w' => e = .returned (.tuple #[.int .i64 (two 5 a b),.int .i64 0]) ∧ w' = w := by
 have E : wrap64 (bits BinOp.xor IntKind.u32 (a % 4294967296) (b % 4294967296)) = two 5 a b := by
  rw [u32_xor _ _ (m0 a) (m1 a) (m0 b) (m1 b),two5]
  have := xor_lt (a % 4294967296).toNat (b % 4294967296).toNat (word_lt a) (word_lt b)
  exact wrap64_small _ (by omega) (by omega)
 have HE := keep E
 clear E
 go_enter Try.func83,Try.ntmps83
 go_wp2
 go_ret2
 exact ⟨ret_two HE.out 0,rfl⟩
theorem two_6 (a b : Int) (w : World) :
  Calls Try.prog 83 #[.int .i64 6,.int .i64 a,.int .i64 b] w fun e w' => e = .returned (.tuple #[.int .i64 (two 6 a b),.int .i64 0]) ∧ w' = w := by
 have F := five b
 have F0 : 0 ≤ b % 32 := by omega
 go_enter Try.func83,Try.ntmps83
 go_wp2
 go_ret2
 exact ⟨ret_two (two6 a b).symm 0,rfl⟩
theorem two_7 (a b : Int) (w : World) :
  Calls Try.prog 83 #[.int .i64 7,.int .i64 a,.int .i64 b] w fun e w' => e = .returned (.tuple #[.int .i64 (two 7 a b),.int .i64 0]) ∧ w' = w := by
 have F := five b
 have F0 : 0 ≤ b % 32 := by omega
 have E : wrap64 (a % 4294967296 / 2 ^ (b % 32).toNat) = two 7 a b := by
  have hw := two_word 7 a b
  rw [two7] at *
  exact wrap64_small _ hw.1 (by omega)
 have HE := keep E
 clear E
 go_enter Try.func83,Try.ntmps83
 go_wp2
 go_ret2
 exact ⟨ret_two HE.out 0,rfl⟩
theorem two_8 (a b : Int) (w : World) :
  Calls Try.prog 83 #[.int .i64 8,.int .i64 a,.int .i64 b] w fun e w' => e = .returned (.tuple #[.int .i64 (two 8 a b),.int .i64 0]) ∧ w' = w := by
 go_enter Try.func83,Try.ntmps83
 go_wp2
 go_ret2
 exact ⟨ret_two (two8 a b).symm 0,rfl⟩
theorem two_9 (a b : Int) (w : World) :
  Calls Try.prog 83 #[.int .i64 9,.int .i64 a,.int .i64 b] w fun e w' => e = .returned (.tuple #[.int .i64 (two 9 a b),.int .i64 0]) ∧ w' = w := by
 go_enter Try.func83,Try.ntmps83
 go_wp2_with fail
 refine (quotient_any _ _ (m0 a) (m1 a) (m0 b) _).mono ?_
 rintro e w' ⟨rfl,rfl⟩
 rw [← two9]
 have hw := two_word 9 a b
 generalize hg : two 9 a b = t at hw ⊢
 have HE := keep hg
 clear hg
 obtain ⟨t0,t1⟩ := hw
 go_wp2
 go_ret2
 exact ⟨ret_two HE.out.symm 0,rfl⟩
theorem two_10 (a b : Int) (w : World) :
  Calls Try.prog 83 #[.int .i64 10,.int .i64 a,.int .i64 b] w fun e w' => e = .returned (.tuple #[.int .i64 (two 10 a b),.int .i64 0]) ∧ w' = w := by
 go_enter Try.func83,Try.ntmps83
 go_wp2_with fail
 refine (remainder_any _ _ (m0 a) (m1 a) (m0 b) _).mono ?_
 rintro e w' ⟨rfl,rfl⟩
 rw [← two10]
 have hw := two_word 10 a b
 generalize hg : two 10 a b = t at hw ⊢
 have HE := keep hg
 clear hg
 obtain ⟨t0,t1⟩ := hw
 go_wp2
 go_ret2
 exact ⟨ret_two HE.out.symm 0,rfl⟩
theorem two_11 (a b : Int) (w : World) :
  Calls Try.prog 83 #[.int .i64 11,.int .i64 a,.int .i64 b] w fun e w' => e = .returned (.tuple #[.int .i64 (two 11 a b),.int .i64 0]) ∧ w' = w := by
 have E : oneOf (decide (a % 4294967296 < b % 4294967296)) = two 11 a b := by rw [two11]; unfold oneOf; simp
 have HE := keep E
 clear E
 go_enter Try.func83,Try.ntmps83
 go_wp2_with (go_at_call 88; refine (oneIf_any _ _).mono ?_; rintro e w' ⟨rfl,rfl⟩)
 go_ret2
 exact ⟨ret_two HE.out 0,rfl⟩
theorem two_12 (a b : Int) (w : World) :
  Calls Try.prog 83 #[.int .i64 12,.int .i64 a,.int .i64 b] w fun e w' => e = .returned (.tuple #[.int .i64 (two 12 a b),.int .i64 0]) ∧ w' = w := by
 have E : oneOf (a % 4294967296 == b % 4294967296) = two 12 a b := by rw [two12]; unfold oneOf; simp
 have HE := keep E
 clear E
 go_enter Try.func83,Try.ntmps83
 go_wp2_with (go_at_call 88; refine (oneIf_any _ _).mono ?_; rintro e w' ⟨rfl,rfl⟩)
 go_ret2
 exact ⟨ret_two HE.out 0,rfl⟩
theorem two_yes (op a b : Int) (h0 : 1 ≤ op) (h1 : op ≤ 12) (w : World) :
  Calls Try.prog 83 #[.int .i64 op,.int .i64 a,.int .i64 b] w fun e w' => e = .returned (.tuple #[.int .i64 (two op a b),.int .i64 0]) ∧ w' = w := by
 have h : op = 1 ∨ op = 2 ∨ op = 3 ∨ op = 4 ∨ op = 5 ∨ op = 6 ∨ op = 7 ∨ op = 8 ∨ op = 9 ∨ op = 10 ∨ op = 11 ∨ op = 12 := by omega
 rcases h with rfl | rfl | rfl | rfl | rfl | rfl | rfl | rfl | rfl | rfl | rfl | rfl
 ·exact two_1 a b w
 ·exact two_2 a b w
 ·exact two_3 a b w
 ·exact two_4 a b w
 ·exact two_5 a b w
 ·exact two_6 a b w
 ·exact two_7 a b w
 ·exact two_8 a b w
 ·exact two_9 a b w
 ·exact two_10 a b w
 ·exact two_11 a b w
 ·exact two_12 a b w
def sel (a b c : Int) : Int := if a % 4294967296 = 0 then c % 4294967296 else b % 4294967296
theorem sel_any (a b c : Int) (w : World) :
  Calls Try.prog 82 #[.int .i64 a,.int .i64 b,.int .i64 c] w fun e w' => e = .returned (.int .i64 (sel a b c)) ∧ w' = w := by
 by_cases h : a % 4294967296 = 0
 ·have hs : sel a b c = c % 4294967296 := if_pos h
  rw [hs]
  have d : (a % 4294967296 != 0) = false := by rw [h]; rfl
  clear h hs
  go_enter Try.func82,Try.ntmps82
  go_wp2
  go_ret
  exact ⟨rfl,rfl⟩
 ·have hs : sel a b c = b % 4294967296 := if_neg h
  rw [hs]
  have d : (a % 4294967296 != 0) = true := by rw [bne_iff_ne]; exact h
  clear h hs
  go_enter Try.func82,Try.ntmps82
  go_wp2
  go_ret
  exact ⟨rfl,rfl⟩
end Go.Proofs.Ytpnacanbknejiaa.Wd
namespace Go.Proofs.Ytpnacanbknejiaa.Ord
set_option linter.unusedVariables false
def left (ops : Array Oper) (d : Array Bool) : Nat := (List.range ops.size).countP fun i => !d.getD i true
end Go.Proofs.Ytpnacanbknejiaa.Ord
namespace Go.Proofs.Ytpnacanbknejiaa.Lr
set_option linter.unusedVariables false
set_option linter.unusedSimpArgs false
open Go.ChangeShapes Go.WideShapes Go.ChangeAt Go.RowKit Lg
def Idx {α : Type} (p : α → Bool) (l : List α) (i : Int) : Prop := (i = -1 ∧ l.find? p = none) ∨ ∃ (k : Nat) (a : α),i = (k : Int) ∧ l[k]? = some a ∧ l.find? p = some a ∧ k < l.length ∧ ∀ j b,j < k → l[j]? = some b → p b = false
theorem find_at {α : Type} {p : α → Bool} : ∀ {l : List α} {k : Nat} {a : α},(∀ j b,j < k → l[j]? = some b → p b = false) → l[k]? = some a → p a = true → l.find? p = some a
 | [],k,a,h,hk,hp => by simp at hk
 | b :: l,0,a,h,hk,hp => by
  simp at hk
  subst hk
  rw [List.find?_cons,hp]
 | b :: l,k + 1,a,h,hk,hp => by
  rw [List.find?_cons,h 0 b (by omega) rfl]
  exact find_at (k:=k) (fun j c hj hc => h (j + 1) c (by omega) (by simpa using hc)) (by simpa using hk) hp
theorem find_no {α : Type} {p : α → Bool} {l : List α} (h : ∀ (j : Nat) b,l[j]? = some b → p b = false) : l.find? p = none := by
 rw [List.find?_eq_none]
 intro b hb
 obtain ⟨j,hj⟩ := List.getElem?_of_mem hb
 rw [h j b hj]; decide
end Go.Proofs.Ytpnacanbknejiaa.Lr
