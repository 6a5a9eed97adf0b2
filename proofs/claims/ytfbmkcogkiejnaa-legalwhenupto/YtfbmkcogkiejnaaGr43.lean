/- Laid together: HgWhen, HgAlp. -/
import Derived.Test.YtfbmkcogkiejnaaGr42
import Derived.Test.YtfbmkcogkiejnaaGr22
namespace Go.Proofs.Ytfbmkcogkiejnaa.Hg
set_option linter.unusedVariables false
set_option linter.unusedSimpArgs false
open Lg Fl
theorem Ok8.shw {f : Fx} {T : Nat → Int} {j : Nat} {s : S8} (h : Ok8 f T j s) {i : Ix} {k : Nat} (hf : Fine f k i) (hT : TabR T) : shwM T s.m.sec i = shw f T i := by
 obtain ⟨S,h1,_⟩ := h.sec
 rw [h1]; exact shw_same hf hT S
def cnt (f : Fx) (T : Nat → Int) (l : List Ix) : Nat := l.countP (fun i => shw f T i)
theorem cnt_step (f : Fx) (T : Nat → Int) {j : Nat} {i : Ix} (hi : f.code[j]? = some i) : cnt f T (f.code.take (j + 1)) = cnt f T (f.code.take j) + if shw f T i = true then 1 else 0 := by
 unfold cnt
 rw [List.take_add_one,hi,List.countP_append]
 congr 1
 cases h : Fl.shw f T i <;> simp [h]
theorem cnt_take (f : Fx) (T : Nat → Int) (j : Nat) : cnt f T (f.code.take j) ≤ cnt f T f.code := by
 unfold cnt
 exact List.Sublist.countP_le (List.take_sublist _ _)
theorem step_len {f : Fx} {T : Nat → Int} {j : Nat} {s : S8} (h : Ok8 f T j s) {i : Ix} (hf : Fine f j i) (hT : TabR T) : (legalM T i s.m).code.length ≤ s.m.code.length + if shw f T i = true then 1000 else 1 := by
 by_cases hs : Fl.shw f T i = true
 ·obtain ⟨C,h1,h2,_⟩ := (h.adds hf).c
  rw [if_pos hs,h1,List.length_append]; omega
 ·rw [if_neg hs]
  unfold legalM
  rw [if_pos (by rw [h.shw hf hT]; simpa using hs)]
  unfold emitM
  simp
theorem run_ok {f : Fx} {T : Nat → Int} (hR : Right f) (hT : TabR T) (hs : ∀ j i s,f.code[j]? = some i → Ok8 f T j s → (legalM T i s.m).shown = false) (hl : f.code.length + 1000 * cnt f T f.code ≤ 12000) : ∃ s,run8 f T = some s ∧ s.much = false := by
 have key : ∀ n j s,f.code.length - j = n → j ≤ f.code.length → Ok8 f T j s → s.much = false → s.m.code.length ≤ j + 1000 * cnt f T (f.code.take j) → ∃ s,run8 f T = some s ∧ s.much = false := by
  intro n
  induction n with
  | zero =>
   intro j s hn hj h hm hc
   refine ⟨s,?_,hm⟩
   rw [← h.go,List.drop_eq_nil_of_le (by omega)]; rfl
  | succ n ih =>
   intro j s hn hj h hm hc
   have hlt : j < f.code.length := by omega
   have hi : f.code[j]? = some f.code[j] := List.getElem?_eq_getElem hlt
   generalize f.code[j] = i at hi
   have hf := fine_of (hR.each j i hi)
   have hsh := hs j i s hi h
   have hst := step_len h hf hT
   have hcs := cnt_step f T hi
   have hct := cnt_take f T (j + 1)
   have hle : (legalM T i s.m).code.length ≤ (j + 1) + 1000 * cnt f T (f.code.take (j + 1)) := by
    generalize cnt f T (f.code.take (j + 1)) = A at hcs ⊢
    generalize cnt f T (f.code.take j) = B at hcs hc
    clear hct hl
    by_cases e : Fl.shw f T i = true
    ·rw [if_pos e] at hst hcs; omega
    ·rw [if_neg e] at hst hcs; omega
   have hno : ¬ 12000 < (legalM T i s.m).code.length := by omega
   refine ih (j + 1) _ (by omega) (by omega) (h.step hi hf hsh) ?_ ?_
   ·unfold stp8
    split
    ·rename_i h'; exact absurd h' hno
    ·exact hm
   ·unfold stp8
    split
    ·rename_i h'; exact absurd h' hno
    ·exact hle
 exact key f.code.length 0 (st0 f) (Nat.sub_zero _) (Nat.zero_le _) (Ok8.zero f T) rfl (Nat.zero_le _)
def Zn (m : Mk) : Prop := ∀ n p,m.nums.lookup n = some p → 0 ≤ p ∧ p < m.sec.length ∧ gI m.sec p = 0
theorem gI_app (l S : List Int) (p : Int) (h : 0 ≤ p ∧ p < l.length) : gI (l ++ S) p = gI l p := by
 unfold gI
 rw [List.getD_eq_getElem?_getD,List.getD_eq_getElem?_getD,List.getElem?_append_left (by omega)]
theorem Zn.made {m : Mk} (T : Nat → Int) (i : Ix) (h : Zn m) : Zn (madeM T i m).2 := fun n p hp => by
 obtain ⟨h0,h1,h2⟩ := h n p hp
 refine ⟨h0,?_,?_⟩
 ·show p < ((m.sec ++ [_]).length : Int)
  rw [List.length_append]; omega
 ·show gI (m.sec ++ [_]) p = 0
  rw [gI_app _ _ _ ⟨h0,h1⟩]; exact h2
theorem Zn.num {m : Mk} (T : Nat → Int) (n : Int) (h : Zn m) : Zn (numM T n m).2 ∧ (0 ≤ (numM T n m).1 ∧ (numM T n m).1 < (numM T n m).2.sec.length ∧ gI (numM T n m).2.sec (numM T n m).1 = 0) ∧ (numM T n m).2.shown = m.shown := by
 unfold numM
 cases hl : m.nums.lookup n with
 | some p => exact ⟨h,h n p hl,rfl⟩
 | none =>
  have hm := Zn.made T ⟨14,0,0,0,0,n⟩ h
  have hq : 0 ≤ (madeM T ⟨14,0,0,0,0,n⟩ m).1 ∧ (madeM T ⟨14,0,0,0,0,n⟩ m).1 < (madeM T ⟨14,0,0,0,0,n⟩ m).2.sec.length ∧ gI (madeM T ⟨14,0,0,0,0,n⟩ m).2.sec (madeM T ⟨14,0,0,0,0,n⟩ m).1 = 0 := by
   refine ⟨by show (0 : Int) ≤ (m.sec.length : Int); omega,by show (m.sec.length : Int) < ((m.sec ++ [_]).length : Int); rw [List.length_append,List.length_singleton]; omega,?_⟩
   show gI (m.sec ++ [orS m.sec []]) (m.sec.length : Int) = 0
   unfold gI
   rw [Int.toNat_natCast,List.getD_eq_getElem?_getD,List.getElem?_append_right (Nat.le_refl _),Nat.sub_self]
   rfl
  refine ⟨fun k p hp => ?_,hq,?_⟩
  ·dsimp only at hp ⊢
   rw [List.lookup_cons] at hp
   split at hp
   ·cases hp; exact hq
   ·exact hm k p hp
  ·show (m.shown || shwM T m.sec (atD ⟨14,0,0,0,0,n⟩ m.sec.length)) = m.shown
   have : shwM T m.sec (atD ⟨14,0,0,0,0,n⟩ m.sec.length) = false := rfl
   rw [this,Bool.or_false]
theorem plain_six {T : Nat → Int} (h : plainT T = true) (k : Nat) (hk : (k : Int) ∈ six) : T k = 0 := by
 unfold plainT at h
 rw [Bool.and_eq_true] at h
 have := List.all_eq_true.1 h.1 k hk
 simpa using this
theorem two_shown {T : Nat → Int} (hP : plainT T = true) {op a b : Int} (ho : 1 ≤ op ∧ op ≤ 5) (m : Mk) : (twoM T op a b m).2.shown = m.shown := by
 show (m.shown || shwM T m.sec (atD ⟨op,0,a,b,0,0⟩ m.sec.length)) = m.shown
 have hz : T op.toNat = 0 := plain_six hP op.toNat (by
  rw [Int.toNat_of_nonneg (by omega)]
  rcases (show op = 1 ∨ op = 2 ∨ op = 3 ∨ op = 4 ∨ op = 5 by omega) with e | e | e | e | e <;> (subst e; decide))
 have hb : bitsG T op false = 0 := by unfold bitsG; rw [if_neg (by omega),if_neg (by rintro (h | h | h) <;> first | cases h | omega),hz]
 have : ∀ (l : List Int) (k : Nat),valsW 0 m.sec k l = [] := by
  intro l
  induction l with
  | nil => intro k; rfl
  | cons p l ih => intro k; rw [valsW,bit_zero,if_neg (by simp),ih]
 have e : shwM T m.sec (atD ⟨op,0,a,b,0,0⟩ m.sec.length) = false := by
  unfold shwM
  rw [show (atD ⟨op,0,a,b,0,0⟩ m.sec.length).op = op from rfl,hb,this]; rfl
 rw [e,Bool.or_false]
theorem via_shown {T : Nat → Int} (hP : plainT T = true) {m M : Mk} (h : Via T m M) (hz : Zn m) : Zn M ∧ M.shown = m.shown := by
 induction h with
 | refl => exact ⟨hz,rfl⟩
 | two op a b ho _ ih => exact ⟨ih.1.made T _,(two_shown hP ho _).trans ih.2⟩
 | num n _ ih => exact ⟨(ih.1.num T n).1,(ih.1.num T n).2.2.trans ih.2⟩
 | @down M a far _ ih =>
  obtain ⟨q1,⟨q2,q3,q4⟩,q5⟩ := ih.1.num T far
  refine ⟨q1.made T _,?_⟩
  refine Eq.trans ?_ (q5.trans ih.2)
  show ((numM T far M).2.shown || shwM T (numM T far M).2.sec (atD ⟨7,0,a,(numM T far M).1,0,0⟩ (numM T far M).2.sec.length)) = (numM T far M).2.shown
  generalize numM T far M = r at *
  have h7 : Int.tmod (T 7) 2 = 0 := by
   unfold plainT at hP
   simp only [Bool.and_eq_true,beq_iff_eq] at hP
   exact hP.2.1.2
  have hb0 : bitOn (T 7) 0 = false := by
   unfold bitOn
   rw [decide_eq_false_iff_not]
   have h72 := Int.dvd_of_tmod_eq_zero h7
   simp
   omega
  have e : shwM T r.2.sec (atD ⟨7,0,a,r.1,0,0⟩ r.2.sec.length) = false := by
   unfold shwM
   show (valsW (T 7) r.2.sec 0 [a,r.1]).contains 1 = false
   rw [valsW,if_neg (by rw [hb0]; simp)]
   rw [has_cons _ _ _ _ _ ⟨q2,q3⟩,q4,has_nil]; simp
  rw [e,Bool.or_false]
theorem swap_shown (i : Ix) (m : Mk) : (swapD i m).shown = m.shown := by
 unfold swapD; split <;> rfl
theorem legal_shown {f : Fx} {T : Nat → Int} {j : Nat} {s : S8} (h : Ok8 f T j s) {i : Ix} (hf : Fine f j i) (hT : TabR T) (hw : shw f T i = true → ways i.op = true ∧ plainT T = true) : (legalM T i s.m).shown = false := by
 unfold legalM
 by_cases hs : Fl.shw f T i = true
 ·obtain ⟨h1,h2⟩ := hw hs
  rw [if_neg (by rw [h.shw hf hT,hs]; simp),if_neg (by rw [h1]; simp),swap_shown]
  have := (via_shown h2 (other_via T i s.m) (fun n p hp => by cases hp)).2
  rw [this]; exact h.sh
 ·have e : shwM T s.m.sec i = false := by rw [h.shw hf hT]; simpa using hs
  rw [if_pos e]
  show (s.m.shown || shwM T s.m.sec i) = false
  rw [h.sh,e]; rfl
def noWay (op : Int) : Bool := op == 1 || op == 2 || op == 3 || op == 4 || op == 5 || op == 15 || op == 17
theorem shw_ways {f : Fx} {T : Nat → Int} {i : Ix} {k : Nat} (hf : Fine f k i) (hT : TabR T) (hs : shw f T i = true) (hn : noWay i.op = false) : ways i.op = true := by
 unfold noWay at hn
 simp only [Bool.or_eq_false_iff,beq_eq_false_iff_ne] at hn
 have o1 := hf.o1
 unfold Fl.shw at hs
 split at hs
 ·cases hs
 ·rename_i h
  unfold ways
  rw [Bool.and_eq_true,decide_eq_true_eq,decide_eq_true_eq]
  by_cases h14 : i.op = 14
  ·exfalso
   have ht := hT.2 i.op.toNat (by omega) (by omega)
   have hz : T i.op.toNat = 0 := by
    have : Tb.most i.op.toNat = 0 := by rw [h14]; rfl
    omega
   rw [hz,bit_zero,bit_zero,bit_zero] at hs
   simp at hs
  ·by_cases h16 : i.op = 16
   ·exfalso
    have ht := hT.2 i.op.toNat (by omega) (by omega)
    have hm : Tb.most i.op.toNat = 1 := by rw [h16]; rfl
    rw [hm] at ht
    have hsp := hf.s
    unfold spl at hsp
    rw [if_pos h16,Bool.or_eq_false_iff] at hsp
    rw [hsp.1,(bit1_le ht.1 ht.2).1,(bit1_le ht.1 ht.2).2] at hs
    simp at hs
   ·omega
theorem run_none {f : Fx} {T : Nat → Int} (hR : Right f) (hT : TabR T) {j0 : Nat} {i0 : Ix} (hi0 : f.code[j0]? = some i0) (hs : shw f T i0 = true) (hw : ways i0.op = false) : run8 f T = none := by
 have hlt := (List.getElem?_eq_some_iff.1 hi0).1
 have key : ∀ n j s,j0 - j = n → j ≤ j0 → Ok8 f T j s → run8 f T = none := by
  intro n
  induction n with
  | zero =>
   intro j s hn hj h
   have e : j = j0 := by omega
   subst e
   refine h.none hi0 ?_
   unfold legalM
   rw [if_neg (by rw [h.shw (fine_of (hR.each _ _ hi0)) hT,hs]; simp),if_pos hw]
   show (s.m.shown || shwM T s.m.sec i0) = true
   rw [h.shw (fine_of (hR.each _ _ hi0)) hT,hs,Bool.or_true]
  | succ n ih =>
   intro j s hn hj h
   have hi : f.code[j]? = some f.code[j] := List.getElem?_eq_getElem (by omega)
   generalize f.code[j] = i at hi
   cases hsh : (legalM T i s.m).shown with
   | true => exact h.none hi hsh
   | false => exact ih (j + 1) _ (by omega) (by omega) (h.step hi (fine_of (hR.each j i hi)) hsh)
 exact key j0 0 (st0 f) (Nat.sub_zero _) (Nat.zero_le _) (Ok8.zero f T)
def noneF (f : Fx) (T : Nat → Int) (l : List Ix) : Bool := l.any fun i => shw f T i && noWay i.op
theorem noWay_ways {op : Int} (h : noWay op = true) : ways op = false := by
 unfold noWay at h
 simp only [Bool.or_eq_true,beq_iff_eq] at h
 unfold ways
 rw [Bool.and_eq_false_iff,decide_eq_false_iff_not,decide_eq_false_iff_not]
 omega
theorem err_ok {f : Fx} {T : Nat → Int} (hc : (checkF f).1 = 0) (hw : Tb.wrongT T = 0) (h : ∃ s,run8 f T = some s ∧ s.much = false) : err8 f T = 0 := by
 obtain ⟨s,h1,h2⟩ := h
 unfold err8
 rw [if_neg (by rw [hc]; simp),if_neg (by rw [hw]; simp),h1]
 dsimp only
 rw [if_neg (by rw [h2]; simp)]
theorem when_zero {f : Fx} {T : Nat → Int} (hc : (checkF f).1 = 0) (hw : Tb.wrongT T = 0) (hT : TabR T) (hl : f.code.length + 1000 * cnt f T f.code ≤ 12000) (hn : cnt f T f.code = 0) : err8 f T = 0 := by
 have hR := right_of hc
 refine err_ok hc hw (run_ok hR hT (fun j i s hi h => legal_shown h (fine_of (hR.each j i hi)) hT fun hs => ?_) hl)
 have := List.countP_eq_zero.1 hn i (List.mem_of_getElem? hi)
 exact absurd hs this
theorem when_none {f : Fx} {T : Nat → Int} (hc : (checkF f).1 = 0) (hw : Tb.wrongT T = 0) (hT : TabR T) (hn : noneF f T f.code = true) : err8 f T = 11 := by
 have hR := right_of hc
 obtain ⟨i,hi,hs⟩ := List.any_eq_true.1 hn
 rw [Bool.and_eq_true] at hs
 obtain ⟨j,hj⟩ := List.getElem?_of_mem hi
 unfold err8
 rw [if_neg (by rw [hc]; simp),if_neg (by rw [hw]; simp),run_none hR hT hj hs.1 (noWay_ways hs.2)]
theorem when_plain {f : Fx} {T : Nat → Int} (hc : (checkF f).1 = 0) (hw : Tb.wrongT T = 0) (hT : TabR T) (hl : f.code.length + 1000 * cnt f T f.code ≤ 12000) (hn : noneF f T f.code = false) (hP : plainT T = true) : err8 f T = 0 := by
 have hR := right_of hc
 refine err_ok hc hw (run_ok hR hT (fun j i s hi h => legal_shown h (fine_of (hR.each j i hi)) hT fun hs => ⟨shw_ways (fine_of (hR.each j i hi)) hT hs ?_,hP⟩) hl)
 have := List.any_eq_false.1 hn i (List.mem_of_getElem? hi)
 rw [hs,Bool.true_and] at this
 simpa using this
set_option maxHeartbeats 32000000
set_option maxRecDepth 100000
def t8 : Nat → Int := fun k => if k = 8 then 1 else 0
def t18 : Nat → Int := fun k => if k = 8 then 1 else if k = 1 then 1 else 0
def fB : Fx := ⟨[⟨1,1,0,0,0,0⟩,i20],[true,true],1,[]⟩
def sA : S8 := (run8 fA t8).getD (st0 fA)
def xA : Fx := ⟨leadM sA.st sA.m.code,is1 sA.m.sec,1,[]⟩
set_option maxRecDepth 100000
theorem some_A : (run8 fA t8).isSome = true := by decide +kernel
theorem run_A : run8 fA t8 = some sA := by
 unfold sA
 cases h : run8 fA t8 with
 | none => have := some_A; rw [h] at this; cases this
 | some s => rfl
theorem err_A : err8 fA t8 = 0 := by decide +kernel
theorem err_B : err8 fB t18 = 11 := by decide +kernel
theorem len_A : 3 ≤ xA.code.length ∧ xA.code.length ≤ 500 ∧ xA.sec.length ≤ 500 ∧ 2 ≤ xA.sec.length := by decide +kernel
theorem len_A2 : (leadM sA.st sA.m.code).length ≤ 1048576 := by decide +kernel
theorem len_A3 : sA.m.sec.length ≤ 1048576 := by decide +kernel
theorem check_A : checkF xA = (0,-1) := by decide +kernel
def runW (code : List Ix) : Nat → Nat → List Int → List (List Int) → Option En
 | 0,_,_,_ => none
 | n + 1,at',P,A => match code[at']? with
  | none => none
  | some i => if i.op = 20 then some ⟨gI P i.a,false,A⟩ else if i.op = 21 then some ⟨0,true,A⟩ else runW code n (nx i at' P) (pl i P A) (arr i P A)
theorem runW_is {code : List Ix} {T : Nat → Int} : ∀ {n at' : Nat} {P : List Int} {A : List (List Int)} {ls : List Lk} {e e' : En},Runs code T at' P A ls e → runW code n at' P A = some e' → e = e'
 | 0,_,_,_,_,_,_,_,h => by cases h
 | n + 1,at',P,A,ls,e,e',hr,h => by
  rw [runW] at h
  cases hr with
  | ret _ _ _ i hi ho => rw [hi] at h; dsimp only at h; rw [if_pos ho] at h; cases h; rfl
  | trap _ _ _ i hi ho => rw [hi] at h; dsimp only at h; rw [if_neg (by omega),if_pos ho] at h; cases h; rfl
  | step _ _ _ i ls e hi h0 h1 hr => rw [hi] at h; dsimp only at h; rw [if_neg h0,if_neg h1] at h; exact runW_is hr h
theorem word_A : (runW xA.code 500 0 (firstP xA.sec.length [9]) []).map (·.word) = some 81 := by decide +kernel
theorem end_A {T : Nat → Int} {ls : List Lk} {e : En} (h : Runs xA.code T 0 (firstP xA.sec.length [9]) [] ls e) : e.word = 81 := by
 have hw := word_A
 cases hr : runW xA.code 500 0 (firstP xA.sec.length [9]) [] with
 | none => rw [hr] at hw; cases hw
 | some e' =>
  rw [hr] at hw
  rw [runW_is h hr]
  simpa using hw
end Go.Proofs.Ytfbmkcogkiejnaa.Hg
