/- Laid together: HgTotal, HgVia. -/
import Derived.Test.YtfbmkcogkiejnaaHgPlain
namespace Go.Proofs.Ytfbmkcogkiejnaa.Hg
set_option linter.unusedVariables false
set_option linter.unusedSimpArgs false
open Lg Fl
def Ends (T : Nat → Int) (k : Nat) (m M : Mk) : Prop := ∃ op a b q m0,M = (twoM T op a b m0).2 ∧ Stp k m (q,m0)
theorem Ends.after {T : Nat → Int} {k l : Nat} {m M : Mk} {r : Int × Mk} (h : Stp k m r) (h' : Ends T l r.2 M) : Ends T (k + l) m M := by
 obtain ⟨op,a,b,q,m0,e,s⟩ := h'
 exact ⟨op,a,b,q,m0,e,h.then s⟩
theorem Ends.mono {T : Nat → Int} {k l : Nat} {m M : Mk} (h : Ends T k m M) (hl : k ≤ l) : Ends T l m M := by
 obtain ⟨op,a,b,q,m0,e,s⟩ := h
 exact ⟨op,a,b,q,m0,e,s.mono hl⟩
theorem two_ends (T : Nat → Int) {k : Nat} {m : Mk} {r : Int × Mk} (op a b : Int) (h : Stp k m r) : Ends T k m (twoM T op a b r.2).2 := ⟨op,a,b,r.1,r.2,rfl,h⟩
theorem down_ends (T : Nat → Int) (a far : Int) {m : Mk} (h : Gd m) : Ends T 1 m (downM T a far m).2 := by
 unfold downM
 exact two_ends T _ _ _ (num_stp T far h)
theorem top_ends (T : Nat → Int) (a : Int) {m : Mk} (h : Gd m) : Ends T 1 m (topM T a m).2 := down_ends T a 31 h
theorem choose_ends (T : Nat → Int) (a b c : Int) {m : Mk} (h : Gd m) : Ends T 2 m (chooseM T a b c m).2 := by
 unfold chooseM
 dsimp only
 have h1 := two_stp T 5 b c h
 generalize twoM T 5 b c m = r1 at *
 have h2 := two_stp T 3 r1.1 a h1.gd
 generalize twoM T 3 r1.1 a r1.2 = r2 at *
 exact two_ends T _ _ _ (h1.then h2)
theorem below_ends (T : Nat → Int) (a b : Int) {m : Mk} (h : Gd m) : Ends T 6 m (belowM T a b m).2 := by
 unfold belowM
 dsimp only
 have h1 := two_stp T 2 a b h
 generalize twoM T 2 a b m = r1 at *
 have h2 := two_stp T 5 a b h1.gd
 generalize twoM T 5 a b r1.2 = r2 at *
 have h3 := two_stp T 5 a r1.1 h2.gd
 generalize twoM T 5 a r1.1 r2.2 = r3 at *
 have h4 := two_stp T 4 r2.1 r3.1 h3.gd
 generalize twoM T 4 r2.1 r3.1 r3.2 = r4 at *
 have h5 := two_stp T 5 a r4.1 h4.gd
 generalize twoM T 5 a r4.1 r4.2 = r5 at *
 exact Ends.after ((((h1.then h2).then h3).then h4).then h5) (top_ends T _ h5.gd)
theorem move_ends (T : Nat → Int) {by' : Nat → Int → Mk → Int × Mk} (hb : ByOk by') (k : Nat) (hk : k ≤ 4) (a b : Int) {m : Mk} (h : Gd m) (h0 : 0 ≤ a) (h1 : a < m.sec.length) : Ends T 24 m (moveM T by' k a b m).2 := by
 have hp : 2 ^ k ≤ 16 := by
  have : 2 ^ k ≤ 2 ^ 4 := Nat.pow_le_pow_right (by decide) hk
  omega
 unfold moveM
 dsimp only
 have e1 := num_stp T k h
 generalize numM T k m = r1 at *
 have e2 := two_stp T 7 b r1.1 e1.gd
 generalize twoM T 7 b r1.1 r1.2 = r2 at *
 have e3 := num_stp T 1 e2.gd
 generalize numM T 1 r2.2 = r3 at *
 have e4 := two_stp T 3 r2.1 r3.1 e3.gd
 generalize twoM T 3 r2.1 r3.1 r3.2 = r4 at *
 have e5 := all_stp T r4.1 e4.gd
 generalize allM T r4.1 r4.2 = r5 at *
 have e15 := (((e1.then e2).then e3).then e4).then e5
 have e6 := hb (2 ^ k) a _ e5.gd h0 (by have := e15.ge; omega)
 generalize by' (2 ^ k) a r5.2 = r6 at *
 exact (Ends.after (e15.then e6) (choose_ends T _ _ a e6.gd)).mono (by omega)
theorem moved_ends (T : Nat → Int) {by' : Nat → Int → Mk → Int × Mk} (hb : ByOk by') (a b : Int) {m : Mk} (h : Gd m) (h0 : 0 ≤ a) (h1 : a < m.sec.length) : Ends T 200 m (movedM T by' b 5 a m).2 := by
 have e := moved_stp T hb b 4 a (by omega) h h0 h1
 rw [movedM]
 exact (Ends.after e (move_ends T hb 4 (by omega) _ b e.gd e.p0 e.p1)).mono (by omega)
theorem prod_ends (T : Nat → Int) {k : Nat} {m : Mk} {p : Pr} (h : PrOk k m p) : Ends T (k + 8) m (prodM T p).m := by
 obtain ⟨sum,a,b,q⟩ := p
 have hs := h.s
 dsimp only at hs
 clear h
 unfold prodM
 dsimp only
 have e1 := num_stp T 1 hs.gd
 dsimp only at e1
 generalize numM T 1 q = r1 at *
 have e2 := two_stp T 3 b r1.1 e1.gd
 generalize twoM T 3 b r1.1 r1.2 = r2 at *
 have e3 := all_stp T r2.1 e2.gd
 generalize allM T r2.1 r2.2 = r3 at *
 have e4 := two_stp T 3 a r3.1 e3.gd
 generalize twoM T 3 a r3.1 r3.2 = r4 at *
 have e5 := double_stp T a e4.gd
 generalize doubleM T a r4.2 = r5 at *
 have e6 := down_stp T b 1 e5.gd
 generalize downM T b 1 r5.2 = r6 at *
 exact two_ends T _ _ _ ((((((hs.then e1).then e2).then e3).then e4).then e5).then e6)
theorem step_ends (T : Nat → Int) (by' : Int) {k : Nat} {m : Mk} {d : Dv} (h : DvOk k m d) : Ends T (k + 15) m (stepM T by' d).2.m := by
 obtain ⟨rest,left,q⟩ := d
 have hs := h.s
 dsimp only at hs
 clear h
 unfold stepM
 dsimp only
 have e1 := double_stp T left hs.gd
 dsimp only at e1
 generalize doubleM T left q = r1 at *
 have e2 := top_stp T rest e1.gd
 generalize topM T rest r1.2 = r2 at *
 have e3 := two_stp T 4 r1.1 r2.1 e2.gd
 generalize twoM T 4 r1.1 r2.1 r2.2 = r3 at *
 have e4 := double_stp T rest e3.gd
 generalize doubleM T rest r3.2 = r4 at *
 have e5 := below_stp T r3.1 by' e4.gd
 generalize belowM T r3.1 by' r4.2 = r5 at *
 have e6 := num_stp T 1 e5.gd
 generalize numM T 1 r5.2 = r6 at *
 have e7 := two_stp T 2 r5.1 r6.1 e6.gd
 generalize twoM T 2 r5.1 r6.1 r6.2 = r7 at *
 have e8 := two_stp T 3 by' r7.1 e7.gd
 generalize twoM T 3 by' r7.1 r7.2 = r8 at *
 exact two_ends T _ _ _ ((((((((hs.then e1).then e2).then e3).then e4).then e5).then e6).then e7).then e8)
theorem quo_ends (T : Nat → Int) (by' : Int) {k : Nat} {m : Mk} {p : Int × Dv} (h : DvOk k m p.2) : Ends T (k + 17) m (quoM T by' p).2.m := by
 obtain ⟨often,d⟩ := p
 dsimp only at h
 obtain ⟨h1,h2,h3⟩ := step_stp T by' h
 unfold quoM
 dsimp only
 generalize stepM T by' d = r1 at *
 have hs := h1.s
 clear h1 h
 have e1 := double_stp T often hs.gd
 dsimp only at e1
 generalize doubleM T often r1.2.m = r2 at *
 exact two_ends T _ _ _ (hs.then e1)
theorem fresh_good {m : Mk} (h : ∀ s ∈ m.sec,s = 0 ∨ s = 1) : Gd (fresh m) := ⟨fun n p hp => (by cases hp),h⟩
theorem other_ends (T : Nat → Int) (i : Ix) {m : Mk} (hs : ∀ s ∈ m.sec,s = 0 ∨ s = 1) (hw : ways i.op = true) (hr : ∀ p ∈ rds i,0 ≤ p ∧ p < m.sec.length) : Ends T 990 (fresh m) (otherM T i m) := by
 have hg := fresh_good hs
 have hop : 6 ≤ i.op ∧ i.op ≤ 13 := by unfold ways at hw; rw [Bool.and_eq_true,decide_eq_true_eq,decide_eq_true_eq] at hw; exact hw
 have ha : 0 ≤ i.a ∧ i.a < (fresh m).sec.length := hr i.a (by
  unfold rds
  by_cases h : i.op = 13
  ·rw [if_neg (by omega),if_pos h]; simp
  ·rw [if_pos (by omega)]; simp)
 unfold otherM
 by_cases h6 : i.op = 6
 ·rw [if_pos h6]; exact (moved_ends T (up_ok T) i.a i.b hg ha.1 ha.2).mono (by omega)
 rw [if_neg h6]
 by_cases h7 : i.op = 7
 ·rw [if_pos h7]; exact (moved_ends T (down_ok T) i.a i.b hg ha.1 ha.2).mono (by omega)
 rw [if_neg h7]
 by_cases h8 : i.op = 8
 ·rw [if_pos h8]
  have hb : 0 ≤ i.b ∧ i.b < (fresh m).sec.length := hr i.b (by unfold rds; rw [if_pos (by omega)]; simp)
  unfold mulM
  dsimp only
  have e1 := num_stp T 0 hg
  generalize numM T 0 (fresh m) = r1 at *
  have h0 : PrOk 1 (fresh m) ⟨r1.1,i.a,i.b,r1.2⟩ := ⟨e1,ha.1,by have := e1.ge; dsimp only; omega,hb.1,by have := e1.ge; dsimp only; omega⟩
  rw [prodsM]
  exact (prod_ends T (prods_stp T h0 31)).mono (by omega)
 rw [if_neg h8]
 by_cases h9 : i.op = 9
 ·rw [if_pos h9]
  unfold divM
  dsimp only
  have e1 := num_stp T 0 hg
  generalize numM T 0 (fresh m) = r1 at *
  have e2 := num_stp T 0 e1.gd
  generalize numM T 0 r1.2 = r2 at *
  have e12 := e1.then e2
  have g2 := e2.ge
  have p1 := e1.p1
  have h0 : DvOk 2 (fresh m) (r2.1,(⟨i.a,r1.1,r2.2⟩ : Dv)).2 := ⟨⟨e12.gd,e1.p0,by dsimp only; omega,e12.ge,e12.c,e12.s,e12.n⟩,ha.1,by have := e12.ge; dsimp only; omega⟩
  have hq := quos_stp T i.b h0 e2.p0 e2.p1 31
  rw [quosM]
  exact (quo_ends T i.b hq.1).mono (by omega)
 rw [if_neg h9]
 by_cases h10 : i.op = 10
 ·rw [if_pos h10]
  unfold remM
  dsimp only
  have e1 := num_stp T 0 hg
  generalize numM T 0 (fresh m) = r1 at *
  have h0 : DvOk 1 (fresh m) ⟨i.a,r1.1,r1.2⟩ := ⟨e1,ha.1,by have := e1.ge; dsimp only; omega⟩
  rw [remsM]
  exact (step_ends T i.b (rems_stp T i.b h0 31)).mono (by omega)
 rw [if_neg h10]
 by_cases h11 : i.op = 11
 ·rw [if_pos h11]; exact (below_ends T i.a i.b hg).mono (by omega)
 rw [if_neg h11]
 by_cases h12 : i.op = 12
 ·rw [if_pos h12]
  unfold sameM
  dsimp only
  have e1 := two_stp T 5 i.a i.b hg
  generalize twoM T 5 i.a i.b (fresh m) = r1 at *
  have e2 := some_stp T r1.1 e1.gd
  generalize someM T r1.1 r1.2 = r2 at *
  have e3 := num_stp T 1 e2.gd
  generalize numM T 1 r2.2 = r3 at *
  exact (two_ends T _ _ _ ((e1.then e2).then e3)).mono (by omega)
 rw [if_neg h12,if_pos (show i.op = 13 by omega)]
 unfold selM
 dsimp only
 have e1 := some_stp T i.a hg
 generalize someM T i.a (fresh m) = r1 at *
 have e2 := all_stp T r1.1 e1.gd
 generalize allM T r1.1 r1.2 = r2 at *
 exact (Ends.after (e1.then e2) (choose_ends T _ _ _ e2.gd)).mono (by omega)
structure Adds (m M : Mk) : Prop where
 c : ∃ C,M.code = m.code ++ C ∧ C.length ≤ 1000 ∧ 1 ≤ C.length
 s : ∃ S,M.sec = m.sec ++ S ∧ S.length ≤ 1000
 g : ∀ s ∈ M.sec,s = 0 ∨ s = 1
theorem emit_adds (T : Nat → Int) (i : Ix) {m : Mk} (hs : ∀ s ∈ m.sec,s = 0 ∨ s = 1) : Adds m (emitM T i m) := ⟨⟨[i],rfl,by simp,by simp⟩,⟨[],by unfold emitM; simp,by simp⟩,hs⟩
theorem swap_adds (T : Nat → Int) (i : Ix) {m M : Mk} (h : Ends T 990 (fresh m) M) : Adds m (swapD i M) := by
 obtain ⟨op,a,b,q,m0,rfl,s⟩ := h
 obtain ⟨C,hc,hcl⟩ := s.c
 obtain ⟨S,hS,hSl⟩ := s.s
 have e1 : (twoM T op a b m0).2.code = m0.code ++ [atD ⟨op,0,a,b,0,0⟩ m0.sec.length] := rfl
 have e2 : (twoM T op a b m0).2.sec = m0.sec ++ [orS m0.sec (rds ⟨op,0,a,b,0,0⟩)] := rfl
 have e3 : (twoM T op a b m0).2.code.getLast? = some (atD ⟨op,0,a,b,0,0⟩ m0.sec.length) := by rw [e1]; simp
 have e4 : (swapD i (twoM T op a b m0).2).code = m0.code ++ [atD (atD ⟨op,0,a,b,0,0⟩ m0.sec.length) i.d] := by
  unfold swapD; rw [e3]; dsimp only; rw [e1]; simp
 have e5 : (swapD i (twoM T op a b m0).2).sec = m0.sec := by
  unfold swapD; rw [e3]; dsimp only; rw [e2]
  show List.take ((m0.sec.length : Int)).toNat _ = _
  rw [Int.toNat_natCast]; simp
 refine ⟨⟨C ++ [atD (atD ⟨op,0,a,b,0,0⟩ m0.sec.length) i.d],by rw [e4,show m0.code = (fresh m).code ++ C from hc,List.append_assoc]; rfl,by rw [List.length_append]; simp; omega,by rw [List.length_append]; simp⟩,⟨S,by rw [e5]; exact hS,by omega⟩,?_⟩
 rw [e5]; exact s.gd.sec
theorem legal_adds (T : Nat → Int) (i : Ix) {m : Mk} (hs : ∀ s ∈ m.sec,s = 0 ∨ s = 1) (hr : ∀ p ∈ rds i,0 ≤ p ∧ p < m.sec.length) : Adds m (legalM T i m) := by
 unfold legalM
 split
 ·exact emit_adds T i hs
 ·split
  ·have h := emit_adds T i (m:=fresh m) hs
   exact ⟨h.c,h.s,h.g⟩
  ·rename_i hw
   exact swap_adds T i (other_ends T i hs (by simpa using hw) hr)
inductive Via (T : Nat → Int) : Mk → Mk → Prop
 | refl (m : Mk) : Via T m m
 | two {m M : Mk} (op a b : Int) (ho : 1 ≤ op ∧ op ≤ 5) (h : Via T m M) : Via T m (twoM T op a b M).2
 | num {m M : Mk} (n : Int) (h : Via T m M) : Via T m (numM T n M).2
 | down {m M : Mk} (a far : Int) (h : Via T m M) : Via T m (downM T a far M).2
theorem Via.then {T : Nat → Int} {m M N : Mk} (h : Via T m M) (h' : Via T M N) : Via T m N := by
 induction h' with
 | refl => exact h
 | two op a b ho _ ih => exact .two op a b ho ih
 | num n _ ih => exact .num n ih
 | down a far _ ih => exact .down a far ih
theorem top_via (T : Nat → Int) (a : Int) (m : Mk) : Via T m (topM T a m).2 := .down a 31 (.refl m)
theorem double_via (T : Nat → Int) (a : Int) (m : Mk) : Via T m (doubleM T a m).2 := .two 1 a a (by decide) (.refl m)
theorem all_via (T : Nat → Int) (a : Int) (m : Mk) : Via T m (allM T a m).2 := .two 2 _ _ (by decide) (.num 0 (.refl m))
theorem choose_via (T : Nat → Int) (a b c : Int) (m : Mk) : Via T m (chooseM T a b c m).2 := .two 5 _ _ (by decide) (.two 3 _ _ (by decide) (.two 5 _ _ (by decide) (.refl m)))
theorem some_via (T : Nat → Int) (a : Int) (m : Mk) : Via T m (someM T a m).2 := (Via.two 4 _ _ (by decide) (.two 2 _ _ (by decide) (.num 0 (.refl m)))).then (top_via T _ _)
theorem below_via (T : Nat → Int) (a b : Int) (m : Mk) : Via T m (belowM T a b m).2 := (Via.two 5 _ _ (by decide) (.two 4 _ _ (by decide) (.two 5 _ _ (by decide) (.two 5 _ _ (by decide) (.two 2 _ _ (by decide) (.refl m)))))).then (top_via T _ _)
theorem up_via (T : Nat → Int) : ∀ (n : Nat) (a : Int) (m : Mk),Via T m (upM T n a m).2
 | 0,a,m => .refl m
 | n + 1,a,m => (up_via T n a m).then (double_via T _ _)
theorem move_via (T : Nat → Int) {by' : Nat → Int → Mk → Int × Mk} (hb : ∀ n a m,Via T m (by' n a m).2) (k : Nat) (a b : Int) (m : Mk) : Via T m (moveM T by' k a b m).2 :=
 ((((((Via.down b k (.refl m)).then (.num 1 (.refl _))).then (.two 3 _ _ (by decide) (.refl _))).then (all_via T _ _)).then (hb (2 ^ k) a _)).then (choose_via T _ _ _ _))
theorem moved_via (T : Nat → Int) {by' : Nat → Int → Mk → Int × Mk} (hb : ∀ n a m,Via T m (by' n a m).2) (b : Int) : ∀ (n : Nat) (a : Int) (m : Mk),Via T m (movedM T by' b n a m).2
 | 0,a,m => .refl m
 | n + 1,a,m => (moved_via T hb b n a m).then (move_via T hb n _ b _)
theorem prod_via (T : Nat → Int) (p : Pr) : Via T p.m (prodM T p).m :=
 .two 1 _ _ (by decide) (.down _ 1 (.two 1 _ _ (by decide) (.two 3 _ _ (by decide) (.two 2 _ _ (by decide) (.num 0 (.two 3 _ _ (by decide) (.num 1 (.refl _))))))))
theorem prods_via (T : Nat → Int) (p : Pr) : ∀ n,Via T p.m (prodsM T n p).m
 | 0 => .refl _
 | n + 1 => (prods_via T p n).then (prod_via T _)
theorem step_via (T : Nat → Int) (by' : Int) (d : Dv) : Via T d.m (stepM T by' d).2.m :=
 ((((((Via.two 1 d.left d.left (by decide) (.refl d.m)).then (top_via T d.rest _)).then (.two 4 _ _ (by decide) (.refl _))).then (double_via T d.rest _)).then (below_via T _ by' _)).then (.two 2 _ _ (by decide) (.two 3 _ _ (by decide) (.two 2 _ _ (by decide) (.num 1 (.refl _))))))
theorem rems_via (T : Nat → Int) (by' : Int) (d : Dv) : ∀ n,Via T d.m (remsM T by' n d).m
 | 0 => .refl _
 | n + 1 => (rems_via T by' d n).then (step_via T by' _)
theorem quo_via (T : Nat → Int) (by' : Int) (p : Int × Dv) : Via T p.2.m (quoM T by' p).2.m :=
 (step_via T by' p.2).then (.two 2 _ _ (by decide) (.two 1 _ _ (by decide) (.refl _)))
theorem quos_via (T : Nat → Int) (by' : Int) (p : Int × Dv) : ∀ n,Via T p.2.m (quosM T by' n p).2.m
 | 0 => .refl _
 | n + 1 => (quos_via T by' p n).then (quo_via T by' _)
theorem other_via (T : Nat → Int) (i : Ix) (m : Mk) : Via T (fresh m) (otherM T i m) := by
 unfold otherM
 by_cases h6 : i.op = 6
 ·rw [if_pos h6]; exact moved_via T (up_via T) _ 5 _ _
 rw [if_neg h6]
 by_cases h7 : i.op = 7
 ·rw [if_pos h7]; exact moved_via T (fun n a m => .down a n (.refl m)) _ 5 _ _
 rw [if_neg h7]
 by_cases h8 : i.op = 8
 ·rw [if_pos h8]; exact (Via.num 0 (.refl _)).then (prods_via T ⟨_,i.a,i.b,_⟩ 32)
 rw [if_neg h8]
 by_cases h9 : i.op = 9
 ·rw [if_pos h9]; exact (Via.num 0 (.num 0 (.refl _))).then (quos_via T i.b (_,⟨i.a,_,_⟩) 32)
 rw [if_neg h9]
 by_cases h10 : i.op = 10
 ·rw [if_pos h10]; exact (Via.num 0 (.refl _)).then (rems_via T i.b ⟨i.a,_,_⟩ 32)
 rw [if_neg h10]
 by_cases h11 : i.op = 11
 ·rw [if_pos h11]; exact below_via T _ _ _
 rw [if_neg h11]
 by_cases h12 : i.op = 12
 ·rw [if_pos h12]; exact ((Via.two 5 i.a i.b (by decide) (.refl _)).then (some_via T _ _)).then (.two 5 _ _ (by decide) (.num 1 (.refl _)))
 rw [if_neg h12]
 by_cases h13 : i.op = 13
 ·rw [if_pos h13]; exact ((some_via T i.a _).then (all_via T _ _)).then (choose_via T _ _ _ _)
 rw [if_neg h13]
 exact .refl _
theorem num_code (T : Nat → Int) (n : Int) (m : Mk) : (numM T n m).2.code = m.code ∨ (numM T n m).2.code = m.code ++ [⟨14,m.sec.length,0,0,0,n⟩] := by
 unfold numM
 split
 ·exact .inl rfl
 ·exact .inr rfl
theorem Via.code {T : Nat → Int} {m M : Mk} (h : Via T m M) : ∀ x ∈ M.code,x ∈ m.code ∨ x.op ≤ 17 := by
 have hn : ∀ (n : Int) (N : Mk),(∀ x ∈ N.code,x ∈ m.code ∨ x.op ≤ 17) → ∀ x ∈ (numM T n N).2.code,x ∈ m.code ∨ x.op ≤ 17 := fun n N ih x hx => by
  rcases num_code T n N with e | e
  ·rw [e] at hx; exact ih x hx
  ·rw [e] at hx
   rcases List.mem_append.1 hx with hx | hx
   ·exact ih x hx
   ·rw [List.mem_singleton] at hx; subst hx; exact .inr (by show (14 : Int) ≤ 17; decide)
 have ht : ∀ (op a b : Int) (N : Mk),op ≤ 17 → (∀ x ∈ N.code,x ∈ m.code ∨ x.op ≤ 17) → ∀ x ∈ (twoM T op a b N).2.code,x ∈ m.code ∨ x.op ≤ 17 := fun op a b N ho ih x hx => by
  rcases List.mem_append.1 (show x ∈ N.code ++ [atD ⟨op,0,a,b,0,0⟩ N.sec.length] from hx) with hx | hx
  ·exact ih x hx
  ·rw [List.mem_singleton] at hx; subst hx; exact .inr ho
 induction h with
 | refl => exact fun x hx => .inl hx
 | two op a b ho _ ih => exact ht _ _ _ _ (by omega) ih
 | num n _ ih => exact hn _ _ ih
 | down a far _ ih => exact ht _ _ _ _ (by decide) (hn _ _ ih)
theorem legal_code (T : Nat → Int) (i : Ix) (m : Mk) : ∀ x ∈ (legalM T i m).code,(∃ y,(y ∈ m.code ∨ y = i) ∧ x.op = y.op ∧ x.imm = y.imm) ∨ x.op ≤ 17 := by
 intro x hx
 have he : x ∈ m.code ++ [i] → (∃ y,(y ∈ m.code ∨ y = i) ∧ x.op = y.op ∧ x.imm = y.imm) ∨ x.op ≤ 17 := fun hx => by
  rcases List.mem_append.1 hx with hx | hx
  ·exact .inl ⟨x,.inl hx,rfl,rfl⟩
  ·exact .inl ⟨x,.inr (List.mem_singleton.1 hx),rfl,rfl⟩
 have hv : ∀ l ∈ (otherM T i m).code,(∃ y,(y ∈ m.code ∨ y = i) ∧ l.op = y.op ∧ l.imm = y.imm) ∨ l.op ≤ 17 := fun l hl => by
  rcases (other_via T i m).code l hl with h | h
  ·exact .inl ⟨l,.inl h,rfl,rfl⟩
  ·exact .inr h
 unfold legalM at hx
 split at hx
 ·exact he hx
 ·split at hx
  ·exact he hx
  ·unfold swapD at hx
   split at hx
   ·rename_i l hl
    rcases List.mem_append.1 hx with hx | hx
    ·exact hv x ((List.dropLast_sublist _).subset hx)
    ·rw [List.mem_singleton] at hx
     subst hx
     exact hv l (List.mem_of_getLast? hl)
   ·exact hv x hx
end Go.Proofs.Ytfbmkcogkiejnaa.Hg
