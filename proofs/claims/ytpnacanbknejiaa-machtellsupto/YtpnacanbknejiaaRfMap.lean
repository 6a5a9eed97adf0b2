/- The document's own Two at the two comparisons (by a map from truth values), at no op, whole; its Sel and low. -/
import Derived.Test.YtpnacanbknejiaaGr43
import Derived.Maps.Own
import Derived.Maps.OwnOps
import Derived.Maps.Keyed
import Derived.Maps.Views
import Derived.WalkSmall
namespace Go.Proofs.Ytpnacanbknejiaa.Rf
set_option linter.unusedVariables false
open Go.ChangeShapes Go.WideShapes Go.ChangeAt Go.RowKit Go.Maps
theorem zero_int (w : World) : (zeroValue 3).run Try.prog w = .ok (.int .i64 0) w := by kernel_rfl
theorem bool_map (W : World) (b : Nat) (hb : W.heap.size = b) : ∃ W1 W2,
  (Instr.mapUpdate 126 (.map (some b)) (.bool true) (.int .i64 1)).run Try.prog (W.alloc (.map #[] 0)) = .ok () W1 ∧
  (Instr.mapUpdate 126 (.map (some b)) (.bool false) (.int .i64 0)).run Try.prog W1 = .ok () W2 ∧
  (∀ c : Bool,(Instr.lookup 126 (.map (some b)) (.bool c) false).run Try.prog W2 = .ok (.int .i64 (Wd.oneOf c)) W2) ∧ Below W.heap.size W W2 := by
 subst hb
 have K := bool_keyed Try.underlying4
 have h0 := World.ownsMap_made (H:=Unit) W Try.prog 4 (plainElem Try.prog 3)
 obtain ⟨W1,r1,o1,g1⟩ := h0.update K Try.underlying126 (by unfold maxLen; decide) (keyOf_bool_mk Try.underlying4 true) (plainElem_int Try.underlying3 (a:=1) (by decide))
 obtain ⟨W2,r2,o2,g2⟩ := o1.update K Try.underlying126 (by unfold maxLen; decide) (keyOf_bool_mk Try.underlying4 false) (plainElem_int Try.underlying3 (a:=0) (by decide))
 refine ⟨W1,W2,r1,r2,?_,?_⟩
 ·intro c
  obtain ⟨n,hrun,hat,_⟩ := o2.lookup_int K Try.underlying126 Try.underlying3 (zero_int _) (keyOf_bool_mk Try.underlying4 c)
  rw [hrun]
  cases c
  ·have e : ((DataW.map []).put (.bool true) (.lit (.int .i64 1)) |>.put (.bool false) (.lit (.int .i64 0))).atKey (.bool false) (.lit (.int .i64 0)) = (DataW.lit (.int .i64 0) : DataW Unit) := by rfl
   rw [e] at hat
   cases hat; rfl
  ·have e : ((DataW.map []).put (.bool true) (.lit (.int .i64 1)) |>.put (.bool false) (.lit (.int .i64 0))).atKey (.bool true) (.lit (.int .i64 0)) = (DataW.lit (.int .i64 1) : DataW Unit) := by rfl
   rw [e] at hat
   cases hat; rfl
 ·have hA : Below W.heap.size W (W.alloc (.map #[] 0)) := (Below.refl _ _).alloc (Nat.le_refl _) _
  have h1 := hA.grown g1 (by simp) (fun k hk => by cases hk; exact Nat.le_refl _)
  have s1 := h1.size
  exact h1.grown g2 (by omega) (fun k hk => by cases hk; exact Nat.le_refl _)
theorem below_of_drew {w W : World} {n : Nat} (h : Below (w.drewN n).heap.size (w.drewN n) W) : Below w.heap.size w W := by
 have e : (w.drewN n).heap.size = w.heap.size := by simp
 rw [e] at h
 exact (below_drewN (Below.refl _ w) n).trans h
theorem two_11 (a b : Int) (w : World) :
  Calls Try.prog 69 #[.int .i64 11,.int .i64 a,.int .i64 b] w fun e w' => e = .returned (.tuple #[.int .i64 (Wd.two 11 a b),.int .i64 0]) ∧ Below w.heap.size w w' := by
 have ha := lowbits a
 have hb := lowbits b
 have x0 := Wd.m0 a
 have x1 := Wd.m1 a
 have y0 := Wd.m0 b
 have y1 := Wd.m1 b
 have hmm := @run_makeMap Try.prog
 by_cases hlt : a % 4294967296 < b % 4294967296
 ·have d : (decide (a % 4294967296 < b % 4294967296)) = true := by simpa using hlt
  have E : Wd.oneOf true = Wd.two 11 a b := by rw [Wd.two11,if_pos hlt]; rfl
  have HE := Wd.keep E
  clear E hlt
  go_enter Try.func69,Try.ntmps69
  go_wp2
  go_quiet (fail)
  obtain ⟨W1,W2,r1,r2,rl,hB⟩ := bool_map (w.drewN nq) w.heap.size (by simp)
  have HB := Wd.keep (below_of_drew hB)
  clear hB
  go_wp2
  go_ret2
  exact ⟨Wd.ret_two HE.out 0,HB.out⟩
 ·have d : (decide (a % 4294967296 < b % 4294967296)) = false := by simpa using hlt
  have E : Wd.oneOf false = Wd.two 11 a b := by rw [Wd.two11,if_neg hlt]; rfl
  have HE := Wd.keep E
  clear E hlt
  go_enter Try.func69,Try.ntmps69
  go_wp2
  go_quiet (fail)
  obtain ⟨W1,W2,r1,r2,rl,hB⟩ := bool_map (w.drewN nq) w.heap.size (by simp)
  have HB := Wd.keep (below_of_drew hB)
  clear hB
  go_wp2
  go_ret2
  exact ⟨Wd.ret_two HE.out 0,HB.out⟩
theorem two_12 (a b : Int) (w : World) :
  Calls Try.prog 69 #[.int .i64 12,.int .i64 a,.int .i64 b] w fun e w' => e = .returned (.tuple #[.int .i64 (Wd.two 12 a b),.int .i64 0]) ∧ Below w.heap.size w w' := by
 have ha := lowbits a
 have hb := lowbits b
 have x0 := Wd.m0 a
 have x1 := Wd.m1 a
 have y0 := Wd.m0 b
 have y1 := Wd.m1 b
 have hmm := @run_makeMap Try.prog
 by_cases hlt : a % 4294967296 = b % 4294967296
 ·have d : (a % 4294967296 == b % 4294967296) = true := by simpa using hlt
  have E : Wd.oneOf true = Wd.two 12 a b := by rw [Wd.two12,if_pos hlt]; rfl
  have HE := Wd.keep E
  clear E hlt
  go_enter Try.func69,Try.ntmps69
  go_wp2
  go_quiet (fail)
  obtain ⟨W1,W2,r1,r2,rl,hB⟩ := bool_map (w.drewN nq) w.heap.size (by simp)
  have HB := Wd.keep (below_of_drew hB)
  clear hB
  go_wp2
  go_ret2
  exact ⟨Wd.ret_two HE.out 0,HB.out⟩
 ·have d : (a % 4294967296 == b % 4294967296) = false := by simpa using hlt
  have E : Wd.oneOf false = Wd.two 12 a b := by rw [Wd.two12,if_neg hlt]; rfl
  have HE := Wd.keep E
  clear E hlt
  go_enter Try.func69,Try.ntmps69
  go_wp2
  go_quiet (fail)
  obtain ⟨W1,W2,r1,r2,rl,hB⟩ := bool_map (w.drewN nq) w.heap.size (by simp)
  have HB := Wd.keep (below_of_drew hB)
  clear hB
  go_wp2
  go_ret2
  exact ⟨Wd.ret_two HE.out 0,HB.out⟩
theorem two_yes (op a b : Int) (h0 : 1 ≤ op) (h1 : op ≤ 12) (w : World) :
  Calls Try.prog 69 #[.int .i64 op,.int .i64 a,.int .i64 b] w fun e w' => e = .returned (.tuple #[.int .i64 (Wd.two op a b),.int .i64 0]) ∧ Below w.heap.size w w' := by
 have dr : ∀ {k : Int} {e : Ending} {w' : World},(e = .returned (.tuple #[.int .i64 (Wd.two k a b),.int .i64 0]) ∧ ∃ n,w' = w.drewN n) → e = .returned (.tuple #[.int .i64 (Wd.two k a b),.int .i64 0]) ∧ Below w.heap.size w w' := by
  rintro k e w' ⟨he,n,rfl⟩
  exact ⟨he,below_drewN (Below.refl _ w) n⟩
 have h : op = 1 ∨ op = 2 ∨ op = 3 ∨ op = 4 ∨ op = 5 ∨ op = 6 ∨ op = 7 ∨ op = 8 ∨ op = 9 ∨ op = 10 ∨ op = 11 ∨ op = 12 := by omega
 rcases h with rfl | rfl | rfl | rfl | rfl | rfl | rfl | rfl | rfl | rfl | rfl | rfl
 ·exact (two_1 a b w).mono fun e w' h => dr h
 ·exact (two_2 a b w).mono fun e w' h => dr h
 ·exact (two_3 a b w).mono fun e w' h => dr h
 ·exact (two_4 a b w).mono fun e w' h => dr h
 ·exact (two_5 a b w).mono fun e w' h => dr h
 ·exact (two_6 a b w).mono fun e w' h => dr h
 ·exact (two_7 a b w).mono fun e w' h => dr h
 ·exact (two_8 a b w).mono fun e w' h => dr h
 ·exact (two_9 a b w).mono fun e w' h => dr h
 ·exact (two_10 a b w).mono fun e w' h => dr h
 ·exact two_11 a b w
 ·exact two_12 a b w
theorem low_any (a : Int) (w : World) :
  Calls Try.prog 43 #[.int .i64 a] w fun e w' => e = .returned (.int .i64 (a % 4294967296)) ∧ w' = w := by
 go_enter Try.func43,Try.ntmps43
 go_wp2
 go_ret
 exact ⟨rfl,rfl⟩
theorem sel_any (a b c : Int) (w : World) :
  Calls Try.prog 70 #[.int .i64 a,.int .i64 b,.int .i64 c] w fun e w' => e = .returned (.int .i64 (Wd.sel a b c)) ∧ w' = w := by
 by_cases h : a % 4294967296 = 0
 ·have hs : Wd.sel a b c = c % 4294967296 := if_pos h
  rw [hs]
  have d : (a % 4294967296 == 0) = true := by rw [h]; rfl
  clear h hs
  go_enter Try.func70,Try.ntmps70
  go_wp2_with (go_at_call 43; refine (low_any _ _).mono ?_; rintro e w' ⟨rfl,rfl⟩)
  go_ret
  exact ⟨rfl,rfl⟩
 ·have hs : Wd.sel a b c = b % 4294967296 := if_neg h
  rw [hs]
  have d : (a % 4294967296 == 0) = false := by rw [beq_eq_false_iff_ne]; exact h
  clear h hs
  go_enter Try.func70,Try.ntmps70
  go_wp2_with (go_at_call 43; refine (low_any _ _).mono ?_; rintro e w' ⟨rfl,rfl⟩)
  go_ret
  exact ⟨rfl,rfl⟩
end Go.Proofs.Ytpnacanbknejiaa.Rf
