/- Laid together: LdBk, WdIs, WdWalks, WdTwo, LfOrd, LfIdx. -/
import Derived.Test.YtpnacanbknejiaaGr4
import Derived.Test.YtpnacanbknejiaaProg
import Derived.Test.YtpnacanbknejiaaGr0
import Derived.ProofKit
import Derived.OpenShut
namespace Go.Proofs.Ytpnacanbknejiaa.Lr
set_option linter.unusedVariables false
set_option linter.unusedSimpArgs false
open Go.ChangeShapes Go.WideShapes Go.ChangeAt Go.RowKit Lg
theorem RowX.len {α : Type} {nest : World → (Nat → Prop) → α → Prop} {cells : α → List Value} {k : Nat} {ty : TypeId} {w : World} {lo : Nat} {p : Option Addr} {n cap : Nat} {es : List α} (h : RowX nest cells k ty w lo (.slice p n cap) es) : n = es.length := by
 rcases h.own.2 with ⟨h1,h2⟩ | ⟨g,cap',cur,h1,_⟩
 ·injection h1 with _ h3 _; omega
 ·injection h1 with _ h3 _
theorem own_stay {w w' : World} {base n cap g k : Nat} {ty : TypeId} {xs : List Value} (h : w.ownsRow base ty k (.slice (some ⟨g,0,none⟩) n cap) n xs) (hb : w'.heap[g]? = w.heap[g]?) : w'.ownsRow base ty k (.slice (some ⟨g,0,none⟩) n cap) n xs := by
 obtain ⟨h1,h2⟩ := h
 refine ⟨h1,?_⟩
 rcases h2 with ⟨h2,_⟩ | ⟨g',cap',cur,a1,a2,a3,a4⟩
 ·cases h2
 ·have e : g = g' := by
   injection a1 with a1 _ _
   injection a1 with a1
   injection a1
  subst e
  exact .inr ⟨g,cap',cur,a1,a2,by rw [hb]; exact a3,a4⟩
theorem step_store_mid {P : Program} {ops : Array Oper} {o : Oper} {a : Act} {w : World} {K : Act → World → Prop} {Q : Exit → Act → World → Prop} {E : Prop} (hgd : o.guard = none) (ty : TypeId) (x y : Operand) (ho : o.op = .store ty x y)
  (b k : Nat) (cells : Array Value) (hx : a.eval x = .pointer (some ⟨b,k,none⟩)) (hy : a.eval y = .agg cells) (ht : w.there b k cells.size) (hi : (P.info? ty).map (·.size) = some cells.size) (h1 : cells.all (·.oneCell') = true)
  (h : K (a.put o.dst undef) (w.setCells b k cells.toList)) : if Region.wanted o (yielded ops a.tmps) = true then Oper.wp P o a w K Q else E := by
 rw [if_pos (by simp [Region.wanted,hgd])]
 exact wp_store_mid ty x y ho b k cells hx hy ht hi h1 h
theorem bk_add {w : World} {k : Nat} {l : List Value} {ty : TypeId} (h : Bk w k l ty) (j : Nat) (u : Value) (hj : l[j]? = some u) : w.cell? ((⟨k,0,none⟩ : Addr).add j) = some u := by
 have he : (⟨k,0,none⟩ : Addr).add j = ⟨k,j,none⟩ := by
  simp [Addr.add]
  intro h; omega
 rw [he]; exact h.cell j hj
end Go.Proofs.Ytpnacanbknejiaa.Lr
namespace Go.Proofs.Ytpnacanbknejiaa.Wd
set_option linter.unusedVariables false
open Go.ChangeShapes Go.WideShapes Go.ChangeAt Go.RowKit
theorem ret_int {k : IntKind} {a b : Int} (h : a = b) : Ending.returned (.int k a) = .returned (.int k b) := by rw [h]
theorem ret_two {a b : Int} (h : a = b) (n : Int) : Ending.returned (.tuple #[.int .i64 a,.int .i64 n]) = .returned (.tuple #[.int .i64 b,.int .i64 n]) := by rw [h]
theorem is_yes (n : Int) (h0 : 0 ≤ n) (h1 : n ≤ 4294967295) (w : World) :
  Calls Try.prog 78 #[.int .i64 n] w fun e w' => e = .returned (.bool true) ∧ w' = w := by
 have d0 : decide (0 ≤ n) = true := by simpa using h0
 have d1 : decide (n ≤ 4294967295) = true := by simpa using h1
 go_enter Try.func78,Try.ntmps78
 go_wp2
 go_ret
 exact ⟨rfl,rfl⟩
theorem is_no (n : Int) (h : n < 0 ∨ 4294967295 < n) (w : World) :
  Calls Try.prog 78 #[.int .i64 n] w fun e w' => e = .returned (.bool false) ∧ w' = w := by
 by_cases h0 : 0 ≤ n
 ·have d0 : decide (0 ≤ n) = true := by simpa using h0
  have d1 : decide (n ≤ 4294967295) = false := by simp; omega
  clear h
  go_enter Try.func78,Try.ntmps78
  go_wp2
  go_ret
  exact ⟨rfl,rfl⟩
 ·have d0 : decide (0 ≤ n) = false := by simpa using h0
  clear h
  go_enter Try.func78,Try.ntmps78
  go_wp2
  go_ret
  exact ⟨rfl,rfl⟩
def oneOf (c : Bool) : Int := if c then 1 else 0
theorem oneIf_any (c : Bool) (w : World) :
  Calls Try.prog 88 #[.bool c] w fun e w' => e = .returned (.int .i64 (oneOf c)) ∧ w' = w := by
 cases c
 ·go_enter Try.func88,Try.ntmps88
  go_wp2
  go_ret
  exact ⟨rfl,rfl⟩
 ·go_enter Try.func88,Try.ntmps88
  go_wp2
  go_ret
  exact ⟨rfl,rfl⟩
theorem quotient_any (x y : Int) (x0 : 0 ≤ x) (x1 : x < 4294967296) (y0 : 0 ≤ y) (w : World) :
  Calls Try.prog 86 #[.int .u32 x,.int .u32 y] w fun e w' => e = .returned (.int .u32 (if y = 0 then 4294967295 else x / y)) ∧ w' = w := by
 by_cases h : y = 0
 ·subst h
  go_enter Try.func86,Try.ntmps86
  go_wp2
  go_ret
  exact ⟨rfl,rfl⟩
 ·have d : (y == 0) = false := by simpa using h
  have e : x.tdiv y = x / y := Int.tdiv_eq_ediv_of_nonneg x0
  have l0 := Int.ediv_nonneg x0 y0
  have l1 := Int.ediv_le_self y x0
  have hE : (if y = 0 then 4294967295 else x / y) = x / y := if_neg h
  rw [hE]
  clear hE
  go_enter Try.func86,Try.ntmps86
  go_wp2
  go_ret
  exact ⟨ret_int (by try omega),rfl⟩
theorem remainder_any (x y : Int) (x0 : 0 ≤ x) (x1 : x < 4294967296) (y0 : 0 ≤ y) (w : World) :
  Calls Try.prog 87 #[.int .u32 x,.int .u32 y] w fun e w' => e = .returned (.int .u32 (if y = 0 then x else x % y)) ∧ w' = w := by
 by_cases h : y = 0
 ·subst h
  go_enter Try.func87,Try.ntmps87
  go_wp2
  go_ret
  exact ⟨rfl,rfl⟩
 ·have d : (y == 0) = false := by simpa using h
  have e : x.tmod y = x % y := Int.tmod_eq_emod_of_nonneg x0
  have l0 := Int.emod_nonneg x h
  have l1 := Int.emod_lt_of_pos x (show 0 < y by omega)
  have hE : (if y = 0 then x else x % y) = x % y := if_neg h
  rw [hE]
  clear hE
  go_enter Try.func87,Try.ntmps87
  go_wp2
  go_ret
  exact ⟨ret_int (by try omega),rfl⟩
theorem wrap64_small (n : Int) (h0 : 0 ≤ n) (h1 : n < 4294967296) : wrap64 n = n := by unfold wrap64; omega
theorem m0 (a : Int) : 0 ≤ a % 4294967296 := by omega
theorem m1 (a : Int) : a % 4294967296 < 4294967296 := by omega
theorem five (b : Int) : bits .and .u32 (b % 4294967296) 31 = b % 32 := by
 rw [u32_and _ _ (m0 b) (m1 b) (by decide) (by decide),show (31 : Int).toNat = 31 from rfl,nat_mask5]
 omega
theorem two_1 (a b : Int) (w : World) :
  Calls Try.prog 83 #[.int .i64 1,.int .i64 a,.int .i64 b] w fun e w' => e = .returned (.tuple #[.int .i64 (two 1 a b),.int .i64 0]) ∧ w' = w := by
 go_enter Try.func83,Try.ntmps83
 go_wp2
 go_ret2
 exact ⟨ret_two (two1 a b).symm 0,rfl⟩
theorem two_2 (a b : Int) (w : World) :
  Calls Try.prog 83 #[.int .i64 2,.int .i64 a,.int .i64 b] w fun e w' => e = .returned (.tuple #[.int .i64 (two 2 a b),.int .i64 0]) ∧ w' = w := by
 go_enter Try.func83,Try.ntmps83
 go_wp2
 go_ret2
 exact ⟨ret_two (two2 a b).symm 0,rfl⟩
theorem two_3 (a b : Int) (w : World) :
  Calls Try.prog 83 #[.int .i64 3,.int .i64 a,.int .i64 b] w fun e w' => e = .returned (.tuple #[.int .i64 (two 3 a b),.int .i64 0]) ∧ w' = w := by
 have E : wrap64 (bits BinOp.and IntKind.u32 (a % 4294967296) (b % 4294967296)) = two 3 a b := by
  rw [u32_and _ _ (m0 a) (m1 a) (m0 b) (m1 b),two3]
  have := and_lt (a % 4294967296).toNat (b % 4294967296).toNat (word_lt a)
  exact wrap64_small _ (by omega) (by omega)
 have HE := keep E
 clear E
 go_enter Try.func83,Try.ntmps83
 go_wp2
 go_ret2
 exact ⟨ret_two HE.out 0,rfl⟩
theorem two_4 (a b : Int) (w : World) :
  Calls Try.prog 83 #[.int .i64 4,.int .i64 a,.int .i64 b] w fun e w' => e = .returned (.tuple #[.int .i64 (two 4 a b),.int .i64 0]) ∧ w' = w := by
 have E : wrap64 (bits BinOp.or IntKind.u32 (a % 4294967296) (b % 4294967296)) = two 4 a b := by
  rw [u32_or _ _ (m0 a) (m1 a) (m0 b) (m1 b),two4]
  have := or_lt (a % 4294967296).toNat (b % 4294967296).toNat (word_lt a) (word_lt b)
  exact wrap64_small _ (by omega) (by omega)
 have HE := keep E
 clear E
 go_enter Try.func83,Try.ntmps83
 go_wp2
 go_ret2
 exact ⟨ret_two HE.out 0,rfl⟩
theorem two_5 (a b : Int) (w : World) :
  Calls Try.prog 83 #[.int .i64 5,.int .i64 a,.int .i64 b] w fun e w' => e = .returned (.tuple #[.int .i64 (two 5 a b),.int .i64 0]) ∧ w' = w := by
 have E : wrap64 (bits BinOp.xor IntKind.u32 (a % 4294967296) (b % 4294967296)) = two 5 a b := by
  rw [u32_xor _ _ (m0 a) (m1 a) (m0 b) (m1 b),two5]
  have := xor_lt (a % 4294967296).toNat (b % 4294967296).toNat (word_lt a) (word_lt b)
  exact wrap64_small _ (by omega) (by omega)
 have HE := keep E
 clear E
 go_enter Try.func83,Try.ntmps83
 go_wp2
 go_ret2
 exact ⟨ret_two HE.out 0,rfl⟩
theorem two_6 (a b : Int) (w : World) :
  Calls Try.prog 83 #[.int .i64 6,.int .i64 a,.int .i64 b] w fun e w' => e = .returned (.tuple #[.int .i64 (two 6 a b),.int .i64 0]) ∧ w' = w := by
 have F := five b
 have F0 : 0 ≤ b % 32 := by omega
 go_enter Try.func83,Try.ntmps83
 go_wp2
 go_ret2
 exact ⟨ret_two (two6 a b).symm 0,rfl⟩
theorem two_7 (a b : Int) (w : World) :
  Calls Try.prog 83 #[.int .i64 7,.int .i64 a,.int .i64 b] w fun e w' => e = .returned (.tuple #[.int .i64 (two 7 a b),.int .i64 0]) ∧ w' = w := by
 have F := five b
 have F0 : 0 ≤ b % 32 := by omega
 have E : wrap64 (a % 4294967296 / 2 ^ (b % 32).toNat) = two 7 a b := by
  have hw := two_word 7 a b
  rw [two7] at *
  exact wrap64_small _ hw.1 (by omega)
 have HE := keep E
 clear E
 go_enter Try.func83,Try.ntmps83
 go_wp2
 go_ret2
 exact ⟨ret_two HE.out 0,rfl⟩
theorem two_8 (a b : Int) (w : World) :
  Calls Try.prog 83 #[.int .i64 8,.int .i64 a,.int .i64 b] w fun e w' => e = .returned (.tuple #[.int .i64 (two 8 a b),.int .i64 0]) ∧ w' = w := by
 go_enter Try.func83,Try.ntmps83
 go_wp2
 go_ret2
 exact ⟨ret_two (two8 a b).symm 0,rfl⟩
theorem two_9 (a b : Int) (w : World) :
  Calls Try.prog 83 #[.int .i64 9,.int .i64 a,.int .i64 b] w fun e w' => e = .returned (.tuple #[.int .i64 (two 9 a b),.int .i64 0]) ∧ w' = w := by
 go_enter Try.func83,Try.ntmps83
 go_wp2_with fail
 refine (quotient_any _ _ (m0 a) (m1 a) (m0 b) _).mono ?_
 rintro e w' ⟨rfl,rfl⟩
 rw [← two9]
 have hw := two_word 9 a b
 generalize hg : two 9 a b = t at hw ⊢
 have HE := keep hg
 clear hg
 obtain ⟨t0,t1⟩ := hw
 go_wp2
 go_ret2
 exact ⟨ret_two HE.out.symm 0,rfl⟩
theorem two_10 (a b : Int) (w : World) :
  Calls Try.prog 83 #[.int .i64 10,.int .i64 a,.int .i64 b] w fun e w' => e = .returned (.tuple #[.int .i64 (two 10 a b),.int .i64 0]) ∧ w' = w := by
 go_enter Try.func83,Try.ntmps83
 go_wp2_with fail
 refine (remainder_any _ _ (m0 a) (m1 a) (m0 b) _).mono ?_
 rintro e w' ⟨rfl,rfl⟩
 rw [← two10]
 have hw := two_word 10 a b
 generalize hg : two 10 a b = t at hw ⊢
 have HE := keep hg
 clear hg
 obtain ⟨t0,t1⟩ := hw
 go_wp2
 go_ret2
 exact ⟨ret_two HE.out.symm 0,rfl⟩
theorem two_11 (a b : Int) (w : World) :
  Calls Try.prog 83 #[.int .i64 11,.int .i64 a,.int .i64 b] w fun e w' => e = .returned (.tuple #[.int .i64 (two 11 a b),.int .i64 0]) ∧ w' = w := by
 have E : oneOf (decide (a % 4294967296 < b % 4294967296)) = two 11 a b := by rw [two11]; unfold oneOf; simp
 have HE := keep E
 clear E
 go_enter Try.func83,Try.ntmps83
 go_wp2_with (go_at_call 88; refine (oneIf_any _ _).mono ?_; rintro e w' ⟨rfl,rfl⟩)
 go_ret2
 exact ⟨ret_two HE.out 0,rfl⟩
theorem two_12 (a b : Int) (w : World) :
  Calls Try.prog 83 #[.int .i64 12,.int .i64 a,.int .i64 b] w fun e w' => e = .returned (.tuple #[.int .i64 (two 12 a b),.int .i64 0]) ∧ w' = w := by
 have E : oneOf (a % 4294967296 == b % 4294967296) = two 12 a b := by rw [two12]; unfold oneOf; simp
 have HE := keep E
 clear E
 go_enter Try.func83,Try.ntmps83
 go_wp2_with (go_at_call 88; refine (oneIf_any _ _).mono ?_; rintro e w' ⟨rfl,rfl⟩)
 go_ret2
 exact ⟨ret_two HE.out 0,rfl⟩
theorem two_yes (op a b : Int) (h0 : 1 ≤ op) (h1 : op ≤ 12) (w : World) :
  Calls Try.prog 83 #[.int .i64 op,.int .i64 a,.int .i64 b] w fun e w' => e = .returned (.tuple #[.int .i64 (two op a b),.int .i64 0]) ∧ w' = w := by
 have h : op = 1 ∨ op = 2 ∨ op = 3 ∨ op = 4 ∨ op = 5 ∨ op = 6 ∨ op = 7 ∨ op = 8 ∨ op = 9 ∨ op = 10 ∨ op = 11 ∨ op = 12 := by omega
 rcases h with rfl | rfl | rfl | rfl | rfl | rfl | rfl | rfl | rfl | rfl | rfl | rfl
 ·exact two_1 a b w
 ·exact two_2 a b w
 ·exact two_3 a b w
 ·exact two_4 a b w
 ·exact two_5 a b w
 ·exact two_6 a b w
 ·exact two_7 a b w
 ·exact two_8 a b w
 ·exact two_9 a b w
 ·exact two_10 a b w
 ·exact two_11 a b w
 ·exact two_12 a b w
def sel (a b c : Int) : Int := if a % 4294967296 = 0 then c % 4294967296 else b % 4294967296
theorem sel_any (a b c : Int) (w : World) :
  Calls Try.prog 82 #[.int .i64 a,.int .i64 b,.int .i64 c] w fun e w' => e = .returned (.int .i64 (sel a b c)) ∧ w' = w := by
 by_cases h : a % 4294967296 = 0
 ·have hs : sel a b c = c % 4294967296 := if_pos h
  rw [hs]
  have d : (a % 4294967296 != 0) = false := by rw [h]; rfl
  clear h hs
  go_enter Try.func82,Try.ntmps82
  go_wp2
  go_ret
  exact ⟨rfl,rfl⟩
 ·have hs : sel a b c = b % 4294967296 := if_neg h
  rw [hs]
  have d : (a % 4294967296 != 0) = true := by rw [bne_iff_ne]; exact h
  clear h hs
  go_enter Try.func82,Try.ntmps82
  go_wp2
  go_ret
  exact ⟨rfl,rfl⟩
end Go.Proofs.Ytpnacanbknejiaa.Wd
namespace Go.Proofs.Ytpnacanbknejiaa.Ord
set_option linter.unusedVariables false
def left (ops : Array Oper) (d : Array Bool) : Nat := (List.range ops.size).countP fun i => !d.getD i true
end Go.Proofs.Ytpnacanbknejiaa.Ord
namespace Go.Proofs.Ytpnacanbknejiaa.Lr
set_option linter.unusedVariables false
set_option linter.unusedSimpArgs false
open Go.ChangeShapes Go.WideShapes Go.ChangeAt Go.RowKit Lg
def Idx {α : Type} (p : α → Bool) (l : List α) (i : Int) : Prop := (i = -1 ∧ l.find? p = none) ∨ ∃ (k : Nat) (a : α),i = (k : Int) ∧ l[k]? = some a ∧ l.find? p = some a ∧ k < l.length ∧ ∀ j b,j < k → l[j]? = some b → p b = false
theorem find_at {α : Type} {p : α → Bool} : ∀ {l : List α} {k : Nat} {a : α},(∀ j b,j < k → l[j]? = some b → p b = false) → l[k]? = some a → p a = true → l.find? p = some a
 | [],k,a,h,hk,hp => by simp at hk
 | b :: l,0,a,h,hk,hp => by
  simp at hk
  subst hk
  rw [List.find?_cons,hp]
 | b :: l,k + 1,a,h,hk,hp => by
  rw [List.find?_cons,h 0 b (by omega) rfl]
  exact find_at (k:=k) (fun j c hj hc => h (j + 1) c (by omega) (by simpa using hc)) (by simpa using hk) hp
theorem find_no {α : Type} {p : α → Bool} {l : List α} (h : ∀ (j : Nat) b,l[j]? = some b → p b = false) : l.find? p = none := by
 rw [List.find?_eq_none]
 intro b hb
 obtain ⟨j,hj⟩ := List.getElem?_of_mem hb
 rw [h j b hj]; decide
end Go.Proofs.Ytpnacanbknejiaa.Lr
