/- Laid together: RfMap, FrDo, MhRdo, FrEnd, FrRun, MhRrun, FlSameV, FlSame, MhTells, MhOnPlain. -/
import Derived.Test.YtpnacanbknejiaaGr49
import Derived.Maps.Own
import Derived.Maps.OwnOps
import Derived.Maps.Keyed
import Derived.Maps.Views
import Derived.WalkSmall
import Derived.Test.YtpnacanbknejiaaFrMach
import Derived.Deep.QuietTactic
import Derived.BigQuiet
import Derived.Test.YtpnacanbknejiaaMhDo
import Derived.Test.YtpnacanbknejiaaGr40
import Derived.Test.YtpnacanbknejiaaMhAll
import Derived.Test.YtpnacanbknejiaaFlOwn
import Derived.Deep.RegionHeld3
import Derived.Deep.DrawnRows
namespace Go.Proofs.Ytpnacanbknejiaa.Rf
set_option linter.unusedVariables false
open Go.ChangeShapes Go.WideShapes Go.ChangeAt Go.RowKit Go.Maps
theorem zero_int (w : World) : (zeroValue 3).run Try.prog w = .ok (.int .i64 0) w := by kernel_rfl
theorem bool_map (W : World) (b : Nat) (hb : W.heap.size = b) : ∃ W1 W2,
  (Instr.mapUpdate 126 (.map (some b)) (.bool true) (.int .i64 1)).run Try.prog (W.alloc (.map #[] 0)) = .ok () W1 ∧
  (Instr.mapUpdate 126 (.map (some b)) (.bool false) (.int .i64 0)).run Try.prog W1 = .ok () W2 ∧
  (∀ c : Bool,(Instr.lookup 126 (.map (some b)) (.bool c) false).run Try.prog W2 = .ok (.int .i64 (Wd.oneOf c)) W2) ∧ Below W.heap.size W W2 := by
 subst hb
 have K := bool_keyed Try.underlying4
 have h0 := World.ownsMap_made (H:=Unit) W Try.prog 4 (plainElem Try.prog 3)
 obtain ⟨W1,r1,o1,g1⟩ := h0.update K Try.underlying126 (by unfold maxLen; decide) (keyOf_bool_mk Try.underlying4 true) (plainElem_int Try.underlying3 (a:=1) (by decide))
 obtain ⟨W2,r2,o2,g2⟩ := o1.update K Try.underlying126 (by unfold maxLen; decide) (keyOf_bool_mk Try.underlying4 false) (plainElem_int Try.underlying3 (a:=0) (by decide))
 refine ⟨W1,W2,r1,r2,?_,?_⟩
 ·intro c
  obtain ⟨n,hrun,hat,_⟩ := o2.lookup_int K Try.underlying126 Try.underlying3 (zero_int _) (keyOf_bool_mk Try.underlying4 c)
  rw [hrun]
  cases c
  ·have e : ((DataW.map []).put (.bool true) (.lit (.int .i64 1)) |>.put (.bool false) (.lit (.int .i64 0))).atKey (.bool false) (.lit (.int .i64 0)) = (DataW.lit (.int .i64 0) : DataW Unit) := by rfl
   rw [e] at hat
   cases hat; rfl
  ·have e : ((DataW.map []).put (.bool true) (.lit (.int .i64 1)) |>.put (.bool false) (.lit (.int .i64 0))).atKey (.bool true) (.lit (.int .i64 0)) = (DataW.lit (.int .i64 1) : DataW Unit) := by rfl
   rw [e] at hat
   cases hat; rfl
 ·have hA : Below W.heap.size W (W.alloc (.map #[] 0)) := (Below.refl _ _).alloc (Nat.le_refl _) _
  have h1 := hA.grown g1 (by simp) (fun k hk => by cases hk; exact Nat.le_refl _)
  have s1 := h1.size
  exact h1.grown g2 (by omega) (fun k hk => by cases hk; exact Nat.le_refl _)
theorem below_of_drew {w W : World} {n : Nat} (h : Below (w.drewN n).heap.size (w.drewN n) W) : Below w.heap.size w W := by
 have e : (w.drewN n).heap.size = w.heap.size := by simp
 rw [e] at h
 exact (below_drewN (Below.refl _ w) n).trans h
theorem two_11 (a b : Int) (w : World) :
  Calls Try.prog 69 #[.int .i64 11,.int .i64 a,.int .i64 b] w fun e w' => e = .returned (.tuple #[.int .i64 (Wd.two 11 a b),.int .i64 0]) ∧ Below w.heap.size w w' := by
 have ha := lowbits a
 have hb := lowbits b
 have x0 := Wd.m0 a
 have x1 := Wd.m1 a
 have y0 := Wd.m0 b
 have y1 := Wd.m1 b
 have hmm := @run_makeMap Try.prog
 by_cases hlt : a % 4294967296 < b % 4294967296
 ·have d : (decide (a % 4294967296 < b % 4294967296)) = true := by simpa using hlt
  have E : Wd.oneOf true = Wd.two 11 a b := by rw [Wd.two11,if_pos hlt]; rfl
  have HE := Wd.keep E
  clear E hlt
  go_enter Try.func69,Try.ntmps69
  go_wp2
  go_quiet (fail)
  obtain ⟨W1,W2,r1,r2,rl,hB⟩ := bool_map (w.drewN nq) w.heap.size (by simp)
  have HB := Wd.keep (below_of_drew hB)
  clear hB
  go_wp2
  go_ret2
  exact ⟨Wd.ret_two HE.out 0,HB.out⟩
 ·have d : (decide (a % 4294967296 < b % 4294967296)) = false := by simpa using hlt
  have E : Wd.oneOf false = Wd.two 11 a b := by rw [Wd.two11,if_neg hlt]; rfl
  have HE := Wd.keep E
  clear E hlt
  go_enter Try.func69,Try.ntmps69
  go_wp2
  go_quiet (fail)
  obtain ⟨W1,W2,r1,r2,rl,hB⟩ := bool_map (w.drewN nq) w.heap.size (by simp)
  have HB := Wd.keep (below_of_drew hB)
  clear hB
  go_wp2
  go_ret2
  exact ⟨Wd.ret_two HE.out 0,HB.out⟩
theorem two_12 (a b : Int) (w : World) :
  Calls Try.prog 69 #[.int .i64 12,.int .i64 a,.int .i64 b] w fun e w' => e = .returned (.tuple #[.int .i64 (Wd.two 12 a b),.int .i64 0]) ∧ Below w.heap.size w w' := by
 have ha := lowbits a
 have hb := lowbits b
 have x0 := Wd.m0 a
 have x1 := Wd.m1 a
 have y0 := Wd.m0 b
 have y1 := Wd.m1 b
 have hmm := @run_makeMap Try.prog
 by_cases hlt : a % 4294967296 = b % 4294967296
 ·have d : (a % 4294967296 == b % 4294967296) = true := by simpa using hlt
  have E : Wd.oneOf true = Wd.two 12 a b := by rw [Wd.two12,if_pos hlt]; rfl
  have HE := Wd.keep E
  clear E hlt
  go_enter Try.func69,Try.ntmps69
  go_wp2
  go_quiet (fail)
  obtain ⟨W1,W2,r1,r2,rl,hB⟩ := bool_map (w.drewN nq) w.heap.size (by simp)
  have HB := Wd.keep (below_of_drew hB)
  clear hB
  go_wp2
  go_ret2
  exact ⟨Wd.ret_two HE.out 0,HB.out⟩
 ·have d : (a % 4294967296 == b % 4294967296) = false := by simpa using hlt
  have E : Wd.oneOf false = Wd.two 12 a b := by rw [Wd.two12,if_neg hlt]; rfl
  have HE := Wd.keep E
  clear E hlt
  go_enter Try.func69,Try.ntmps69
  go_wp2
  go_quiet (fail)
  obtain ⟨W1,W2,r1,r2,rl,hB⟩ := bool_map (w.drewN nq) w.heap.size (by simp)
  have HB := Wd.keep (below_of_drew hB)
  clear hB
  go_wp2
  go_ret2
  exact ⟨Wd.ret_two HE.out 0,HB.out⟩
theorem two_yes (op a b : Int) (h0 : 1 ≤ op) (h1 : op ≤ 12) (w : World) :
  Calls Try.prog 69 #[.int .i64 op,.int .i64 a,.int .i64 b] w fun e w' => e = .returned (.tuple #[.int .i64 (Wd.two op a b),.int .i64 0]) ∧ Below w.heap.size w w' := by
 have dr : ∀ {k : Int} {e : Ending} {w' : World},(e = .returned (.tuple #[.int .i64 (Wd.two k a b),.int .i64 0]) ∧ ∃ n,w' = w.drewN n) → e = .returned (.tuple #[.int .i64 (Wd.two k a b),.int .i64 0]) ∧ Below w.heap.size w w' := by
  rintro k e w' ⟨he,n,rfl⟩
  exact ⟨he,below_drewN (Below.refl _ w) n⟩
 have h : op = 1 ∨ op = 2 ∨ op = 3 ∨ op = 4 ∨ op = 5 ∨ op = 6 ∨ op = 7 ∨ op = 8 ∨ op = 9 ∨ op = 10 ∨ op = 11 ∨ op = 12 := by omega
 rcases h with rfl | rfl | rfl | rfl | rfl | rfl | rfl | rfl | rfl | rfl | rfl | rfl
 ·exact (two_1 a b w).mono fun e w' h => dr h
 ·exact (two_2 a b w).mono fun e w' h => dr h
 ·exact (two_3 a b w).mono fun e w' h => dr h
 ·exact (two_4 a b w).mono fun e w' h => dr h
 ·exact (two_5 a b w).mono fun e w' h => dr h
 ·exact (two_6 a b w).mono fun e w' h => dr h
 ·exact (two_7 a b w).mono fun e w' h => dr h
 ·exact (two_8 a b w).mono fun e w' h => dr h
 ·exact (two_9 a b w).mono fun e w' h => dr h
 ·exact (two_10 a b w).mono fun e w' h => dr h
 ·exact two_11 a b w
 ·exact two_12 a b w
theorem low_any (a : Int) (w : World) :
  Calls Try.prog 43 #[.int .i64 a] w fun e w' => e = .returned (.int .i64 (a % 4294967296)) ∧ w' = w := by
 go_enter Try.func43,Try.ntmps43
 go_wp2
 go_ret
 exact ⟨rfl,rfl⟩
theorem sel_any (a b c : Int) (w : World) :
  Calls Try.prog 70 #[.int .i64 a,.int .i64 b,.int .i64 c] w fun e w' => e = .returned (.int .i64 (Wd.sel a b c)) ∧ w' = w := by
 by_cases h : a % 4294967296 = 0
 ·have hs : Wd.sel a b c = c % 4294967296 := if_pos h
  rw [hs]
  have d : (a % 4294967296 == 0) = true := by rw [h]; rfl
  clear h hs
  go_enter Try.func70,Try.ntmps70
  go_wp2_with (go_at_call 43; refine (low_any _ _).mono ?_; rintro e w' ⟨rfl,rfl⟩)
  go_ret
  exact ⟨rfl,rfl⟩
 ·have hs : Wd.sel a b c = b % 4294967296 := if_neg h
  rw [hs]
  have d : (a % 4294967296 == 0) = false := by rw [beq_eq_false_iff_ne]; exact h
  clear h hs
  go_enter Try.func70,Try.ntmps70
  go_wp2_with (go_at_call 43; refine (low_any _ _).mono ?_; rintro e w' ⟨rfl,rfl⟩)
  go_ret
  exact ⟨rfl,rfl⟩
end Go.Proofs.Ytpnacanbknejiaa.Rf
namespace Go.Proofs.Ytpnacanbknejiaa.Fl
set_option linter.unusedVariables false
set_option linter.unusedSimpArgs false
open Go.ChangeShapes Go.WideShapes Go.ChangeAt Go.RowKit Lg Lr
end Go.Proofs.Ytpnacanbknejiaa.Fl
namespace Go.Proofs.Ytpnacanbknejiaa.Mh
set_option linter.unusedVariables false
set_option linter.unusedSimpArgs false
open Go.ChangeShapes Go.WideShapes Go.ChangeAt Go.RowKit Lg Lr Fl
theorem RM.mode {md : Int} {w : World} {MB PB AO : Nat} {av : Value} {P : List Int} {ps : List (Nat × List Int)} (h : Fl.RM md w MB PB AO av P ps) (m : Int) : Fl.RM m (w.setCell ⟨MB,2,none⟩ (.int .i64 m)) MB PB AO av P ps := by
 have hf : Fs [MB] w (w.setCell ⟨MB,2,none⟩ (.int .i64 m)) := (Fs.refl [MB] w).set (by simp) 2 _
 exact ⟨h.m.set 2 _,h.pl.fs hf (by simpa using Ne.symm h.ne),h.ar.fs hf (fun hn => by simpa using (h.ao hn).2) (fun p hp => by simpa using (h.np p hp).2),h.ne,h.ao,h.np⟩
end Go.Proofs.Ytpnacanbknejiaa.Mh
namespace Go.Proofs.Ytpnacanbknejiaa.Fl
set_option linter.unusedVariables false
set_option linter.unusedSimpArgs false
open Go.ChangeShapes Go.WideShapes Go.ChangeAt Go.RowKit Lg Lr
end Go.Proofs.Ytpnacanbknejiaa.Fl
namespace Go.Proofs.Ytpnacanbknejiaa.Mh
set_option linter.unusedVariables false
set_option linter.unusedSimpArgs false
open Go.ChangeShapes Go.WideShapes Go.ChangeAt Go.RowKit Lg Lr Fl
end Go.Proofs.Ytpnacanbknejiaa.Mh
namespace Go.Proofs.Ytpnacanbknejiaa.Lr
set_option linter.unusedVariables false
open Go.ChangeShapes Go.WideShapes Go.ChangeAt Go.RowKit Lg
attribute [local go_sem ↓] Go.wp_at_zero Go.wp_at_succ
end Go.Proofs.Ytpnacanbknejiaa.Lr
namespace Go.Proofs.Ytpnacanbknejiaa.Fl
set_option linter.unusedVariables false
set_option linter.unusedSimpArgs false
open Go.ChangeShapes Go.WideShapes Go.ChangeAt Go.RowKit Lg Lr
theorem codes_at {w : World} {B : Nat} {l : List Ix} {p : Option Addr} {n c : Nat} (h : CodeIs w B l (.slice p n c)) {k : Nat} {v : Ix} (hk : l[k]? = some v) : ∃ g o,p = some ⟨g,o,none⟩ ∧ g < B ∧ IxAt w g (o + k * 6) v := by
 obtain ⟨q1,q2,q3,q4,q5,q6,q7,q8⟩ := h
 cases q4
 exact q8 k _ hk
end Go.Proofs.Ytpnacanbknejiaa.Fl
namespace Go.Proofs.Ytpnacanbknejiaa.Mh
set_option linter.unusedVariables false
set_option linter.unusedSimpArgs false
open Go.ChangeShapes Go.WideShapes Go.ChangeAt Go.RowKit Lg Lr Fl
theorem loadM_len {m : Int} {l : List Int} : (loadM m l).1.length ≤ l.length := by
 unfold loadM
 split
 ·exact Nat.zero_le _
 ·split
  ·rw [List.length_map,List.length_range]; omega
  ·exact Nat.zero_le _
theorem bit_le {n m : Int} {k : Nat} (h0 : 0 ≤ n) (h1 : n ≤ m) (hm : m = 0 ∨ m = 1 ∨ m = 3 ∨ m = 7) (h : bitOn n k = true) : bitOn m k = true := by
 unfold bitOn at h ⊢
 have h2 := of_decide_eq_true h
 refine decide_eq_true ?_
 match k,h2 with
 | 0,h2 => rw [show (2 : Int) ^ 0 = 1 by rfl] at h2 ⊢; omega
 | 1,h2 => rw [show (2 : Int) ^ 1 = 2 by rfl] at h2 ⊢; omega
 | 2,h2 => rw [show (2 : Int) ^ 2 = 4 by rfl] at h2 ⊢; omega
 | k + 3,h2 =>
  exfalso
  have h3 : (8 : Int) ≤ 2 ^ (k + 3) := by
   have h4 : (8 : Nat) ≤ 2 ^ (k + 3) := by
    have := Nat.pow_le_pow_right (n:=2) (by omega) (show 3 ≤ k + 3 by omega)
    simpa using this
   exact_mod_cast h4
  have h5 : n / 2 ^ (k + 3) = 0 := Int.ediv_eq_zero_of_lt h0 (by omega)
  rw [h5] at h2
  omega
theorem allV_le : ∀ k : Fin 18,1 ≤ k.val → Tb.most k.val ≤ Tb.allV (k.val : Int) ∧ (Tb.allV (k.val : Int) = 0 ∨ Tb.allV (k.val : Int) = 1 ∨ Tb.allV (k.val : Int) = 3 ∨ Tb.allV (k.val : Int) = 7) := by decide
theorem bits_on {T : Nat → Int} (hT : TabR T) (op : Int) (k : Nat) (h : bitOn (bitsG T op false) k = true) : bitOn (bitsG T op true) k = true := by
 unfold bitsG at h ⊢
 by_cases h9 : op = 19
 ·rw [if_pos h9] at h ⊢; exact h
 ·rw [if_neg h9] at h ⊢
  rw [if_pos (.inl rfl)]
  by_cases ho : op < 1 ∨ 17 < op
  ·rw [if_pos (by rcases ho with q | q; exact .inr (.inl q); exact .inr (.inr q))] at h; exact h
  ·rw [if_neg (by rintro (q | q | q); exact absurd q (by simp); exact ho (.inl q); exact ho (.inr q))] at h
   have h1 : op.toNat < 18 := by omega
   obtain ⟨e1,e2⟩ := allV_le ⟨op.toNat,h1⟩ (by show 1 ≤ op.toNat; omega)
   have e3 : ((⟨op.toNat,h1⟩ : Fin 18).val : Int) = op := by show ((op.toNat : Nat) : Int) = op; omega
   rw [e3] at e1 e2
   have h2 := hT.2 op.toNat (by omega) (by omega)
   exact bit_le h2.1 (Int.le_trans h2.2 e1) e2 h
structure Less (R1 R2 : Rn) : Prop where
 e : R1.e = R2.e
 en : R1.en = R2.en
 ls : lessL R1.ls R2.ls
theorem ran_on {T : Nat → Int} {l : List Int} {pr : Int} {m : Nat} {ws : List Int} {aa : List (List Int)} {most : Int} (hT : TabR T) (h : ∀ x ∈ (loadM (m : Int) l).1,x.op ≠ 22 ∧ x.op ≠ 23) : Less (ranM T l pr m ws aa 0 most) (ranM T l pr m ws aa 1 most) := by
 unfold ranM
 by_cases h1 : (loadM (m : Int) l).2 ≠ 0
 ·rw [if_pos h1,if_pos h1]
  exact ⟨rfl,rfl,rfl,fun k x y hx => by simp [noR] at hx⟩
 ·rw [if_neg h1,if_neg h1]
  have hq : decide (((0 : Int) = 0 ∨ (0 : Int) = 1) ∧ (ws.length : Int) = pr ∧ pr < 120 ∧ aa.length = m) = decide (((1 : Int) = 0 ∨ (1 : Int) = 1) ∧ (ws.length : Int) = pr ∧ pr < 120 ∧ aa.length = m) := by simp
  rw [hq]
  by_cases h2 : decide (((1 : Int) = 0 ∨ (1 : Int) = 1) ∧ (ws.length : Int) = pr ∧ pr < 120 ∧ aa.length = m) = false
  ·rw [if_pos h2,if_pos h2]
   exact ⟨rfl,rfl,rfl,fun k x y hx => by simp [noR] at hx⟩
  ·rw [if_neg h2,if_neg h2]
   obtain ⟨a,b,c⟩ := on_any (code:=(loadM (m : Int) l).1) (T:=T) h (bits_on hT) (n:=most.toNat) (at' := 0) (P:=fromP 120 1 ws) (A:=aa)
   exact ⟨a,b,c⟩
end Go.Proofs.Ytpnacanbknejiaa.Mh
