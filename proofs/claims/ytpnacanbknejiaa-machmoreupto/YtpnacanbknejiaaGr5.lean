/- Laid together: LdBk, WdIs, WdWalks. -/
import Derived.Test.YtpnacanbknejiaaGr4
import Derived.Test.YtpnacanbknejiaaProg
import Derived.Test.YtpnacanbknejiaaGr0
import Derived.ProofKit
import Derived.OpenShut
namespace Go.Proofs.Ytpnacanbknejiaa.Lr
set_option linter.unusedVariables false
set_option linter.unusedSimpArgs false
open Go.ChangeShapes Go.WideShapes Go.ChangeAt Go.RowKit Lg
theorem RowX.len {α : Type} {nest : World → (Nat → Prop) → α → Prop} {cells : α → List Value} {k : Nat} {ty : TypeId} {w : World} {lo : Nat} {p : Option Addr} {n cap : Nat} {es : List α} (h : RowX nest cells k ty w lo (.slice p n cap) es) : n = es.length := by
 rcases h.own.2 with ⟨h1,h2⟩ | ⟨g,cap',cur,h1,_⟩
 ·injection h1 with _ h3 _; omega
 ·injection h1 with _ h3 _
theorem own_stay {w w' : World} {base n cap g k : Nat} {ty : TypeId} {xs : List Value} (h : w.ownsRow base ty k (.slice (some ⟨g,0,none⟩) n cap) n xs) (hb : w'.heap[g]? = w.heap[g]?) : w'.ownsRow base ty k (.slice (some ⟨g,0,none⟩) n cap) n xs := by
 obtain ⟨h1,h2⟩ := h
 refine ⟨h1,?_⟩
 rcases h2 with ⟨h2,_⟩ | ⟨g',cap',cur,a1,a2,a3,a4⟩
 ·cases h2
 ·have e : g = g' := by
   injection a1 with a1 _ _
   injection a1 with a1
   injection a1
  subst e
  exact .inr ⟨g,cap',cur,a1,a2,by rw [hb]; exact a3,a4⟩
theorem step_store_mid {P : Program} {ops : Array Oper} {o : Oper} {a : Act} {w : World} {K : Act → World → Prop} {Q : Exit → Act → World → Prop} {E : Prop} (hgd : o.guard = none) (ty : TypeId) (x y : Operand) (ho : o.op = .store ty x y)
  (b k : Nat) (cells : Array Value) (hx : a.eval x = .pointer (some ⟨b,k,none⟩)) (hy : a.eval y = .agg cells) (ht : w.there b k cells.size) (hi : (P.info? ty).map (·.size) = some cells.size) (h1 : cells.all (·.oneCell') = true)
  (h : K (a.put o.dst undef) (w.setCells b k cells.toList)) : if Region.wanted o (yielded ops a.tmps) = true then Oper.wp P o a w K Q else E := by
 rw [if_pos (by simp [Region.wanted,hgd])]
 exact wp_store_mid ty x y ho b k cells hx hy ht hi h1 h
theorem bk_add {w : World} {k : Nat} {l : List Value} {ty : TypeId} (h : Bk w k l ty) (j : Nat) (u : Value) (hj : l[j]? = some u) : w.cell? ((⟨k,0,none⟩ : Addr).add j) = some u := by
 have he : (⟨k,0,none⟩ : Addr).add j = ⟨k,j,none⟩ := by
  simp [Addr.add]
  intro h; omega
 rw [he]; exact h.cell j hj
end Go.Proofs.Ytpnacanbknejiaa.Lr
namespace Go.Proofs.Ytpnacanbknejiaa.Wd
set_option linter.unusedVariables false
open Go.ChangeShapes Go.WideShapes Go.ChangeAt Go.RowKit
theorem ret_int {k : IntKind} {a b : Int} (h : a = b) : Ending.returned (.int k a) = .returned (.int k b) := by rw [h]
theorem ret_two {a b : Int} (h : a = b) (n : Int) : Ending.returned (.tuple #[.int .i64 a,.int .i64 n]) = .returned (.tuple #[.int .i64 b,.int .i64 n]) := by rw [h]
theorem is_yes (n : Int) (h0 : 0 ≤ n) (h1 : n ≤ 4294967295) (w : World) :
  Calls Try.prog 78 #[.int .i64 n] w fun e w' => e = .returned (.bool true) ∧ w' = w := by
 have d0 : decide (0 ≤ n) = true := by simpa using h0
 have d1 : decide (n ≤ 4294967295) = true := by simpa using h1
 go_enter Try.func78,Try.ntmps78
 go_wp2
 go_ret
 exact ⟨rfl,rfl⟩
theorem is_no (n : Int) (h : n < 0 ∨ 4294967295 < n) (w : World) :
  Calls Try.prog 78 #[.int .i64 n] w fun e w' => e = .returned (.bool false) ∧ w' = w := by
 by_cases h0 : 0 ≤ n
 ·have d0 : decide (0 ≤ n) = true := by simpa using h0
  have d1 : decide (n ≤ 4294967295) = false := by simp; omega
  clear h
  go_enter Try.func78,Try.ntmps78
  go_wp2
  go_ret
  exact ⟨rfl,rfl⟩
 ·have d0 : decide (0 ≤ n) = false := by simpa using h0
  clear h
  go_enter Try.func78,Try.ntmps78
  go_wp2
  go_ret
  exact ⟨rfl,rfl⟩
def oneOf (c : Bool) : Int := if c then 1 else 0
theorem oneIf_any (c : Bool) (w : World) :
  Calls Try.prog 88 #[.bool c] w fun e w' => e = .returned (.int .i64 (oneOf c)) ∧ w' = w := by
 cases c
 ·go_enter Try.func88,Try.ntmps88
  go_wp2
  go_ret
  exact ⟨rfl,rfl⟩
 ·go_enter Try.func88,Try.ntmps88
  go_wp2
  go_ret
  exact ⟨rfl,rfl⟩
theorem quotient_any (x y : Int) (x0 : 0 ≤ x) (x1 : x < 4294967296) (y0 : 0 ≤ y) (w : World) :
  Calls Try.prog 86 #[.int .u32 x,.int .u32 y] w fun e w' => e = .returned (.int .u32 (if y = 0 then 4294967295 else x / y)) ∧ w' = w := by
 by_cases h : y = 0
 ·subst h
  go_enter Try.func86,Try.ntmps86
  go_wp2
  go_ret
  exact ⟨rfl,rfl⟩
 ·have d : (y == 0) = false := by simpa using h
  have e : x.tdiv y = x / y := Int.tdiv_eq_ediv_of_nonneg x0
  have l0 := Int.ediv_nonneg x0 y0
  have l1 := Int.ediv_le_self y x0
  have hE : (if y = 0 then 4294967295 else x / y) = x / y := if_neg h
  rw [hE]
  clear hE
  go_enter Try.func86,Try.ntmps86
  go_wp2
  go_ret
  exact ⟨ret_int (by try omega),rfl⟩
theorem remainder_any (x y : Int) (x0 : 0 ≤ x) (x1 : x < 4294967296) (y0 : 0 ≤ y) (w : World) :
  Calls Try.prog 87 #[.int .u32 x,.int .u32 y] w fun e w' => e = .returned (.int .u32 (if y = 0 then x else x % y)) ∧ w' = w := by
 by_cases h : y = 0
 ·subst h
  go_enter Try.func87,Try.ntmps87
  go_wp2
  go_ret
  exact ⟨rfl,rfl⟩
 ·have d : (y == 0) = false := by simpa using h
  have e : x.tmod y = x % y := Int.tmod_eq_emod_of_nonneg x0
  have l0 := Int.emod_nonneg x h
  have l1 := Int.emod_lt_of_pos x (show 0 < y by omega)
  have hE : (if y = 0 then x else x % y) = x % y := if_neg h
  rw [hE]
  clear hE
  go_enter Try.func87,Try.ntmps87
  go_wp2
  go_ret
  exact ⟨ret_int (by try omega),rfl⟩
end Go.Proofs.Ytpnacanbknejiaa.Wd
