/- Flat instructions in plain words: what is wrong with them, what each does, how they run; two runs that are given the same, but for what is secret. No Go in it. -/
import Derived.Test.YtpnacanbknejiaaGr0
namespace Go.Proofs.Ytpnacanbknejiaa.Fl
set_option linter.unusedVariables false
set_option linter.unusedSimpArgs false
open Lg
structure Ix where
 op : Int
 d : Int
 a : Int
 b : Int
 c : Int
 imm : Int
structure Fx where
 code : List Ix
 sec : List Bool
 params : Int
 arrs : List Vr
def rds (i : Ix) : List Int := if 1 ≤ i.op ∧ i.op ≤ 12 then [i.a,i.b] else if i.op = 13 then [i.a,i.b,i.c] else if i.op = 17 then [i.a,i.d] else if i.op = 15 ∨ i.op = 16 ∨ i.op = 19 ∨ i.op = 20 then [i.a] else []
def mks (i : Ix) : Bool := decide (1 ≤ i.op) && decide (i.op ≤ 16)
def wi (p n : Int) : Bool := decide (0 ≤ p) && decide (p < n)
def gI (l : List Int) (k : Int) : Int := l.getD k.toNat 0
def gB (l : List Bool) (k : Int) : Bool := l.getD k.toNat false
def vB (l : List Vr) (k : Int) : Bool := (l[k.toNat]?.map (·.secret)).getD false
def rowA (A : List (List Int)) (b : Int) : List Int := A.getD b.toNat []
def ext (f : Fx) (at' : Int) (i : Ix) : Bool := if i.op = 14 then decide (0 ≤ i.imm) && decide (i.imm ≤ 4294967295) else if i.op = 16 ∨ i.op = 17 then wi i.b f.arrs.length else if i.op = 18 ∨ i.op = 19 then decide (at' < i.imm) && decide (i.imm < f.code.length) else true
def inR (f : Fx) (at' : Int) (i : Ix) : Bool := (!mks i || wi i.d f.sec.length) && (rds i).all (fun p => wi p f.sec.length) && ext f at' i
def spl (f : Fx) (i : Ix) : Bool := if i.op = 16 then gB f.sec i.a || vB f.arrs i.b && !gB f.sec i.d else if i.op = 17 then gB f.sec i.a || gB f.sec i.d && !vB f.arrs i.b else if i.op = 19 then gB f.sec i.a else mks i && !gB f.sec i.d && (rds i).any (gB f.sec)
def wrg (f : Fx) (at' : Int) (i : Ix) : Int := if i.op < 1 ∨ 21 < i.op then 1 else if inR f at' i = false then 3 else if spl f i = true then 10 else 0
def lst (op : Int) : Bool := decide (op = 18) || decide (op = 20) || decide (op = 21)
def endF (f : Fx) : Int × Int := match f.code.getLast? with
 | none => (0,-1)
 | some i => if lst i.op = true then (0,-1) else (8,f.code.length - 1)
def chkL (f : Fx) : Int → List Ix → Int × Int
 | _,[] => endF f
 | at',i :: l => if wrg f at' i = 0 then chkL f (at' + 1) l else (wrg f at' i,at')
def room (f : Fx) : Bool := !decide (f.code.length < 1) && !decide (12000 < f.code.length) && !decide (f.params < 0) && !decide ((f.sec.length : Int) < f.params)
def checkF (f : Fx) : Int × Int := if room f = true then chkL f 0 f.code else (4,-1)
structure Right (f : Fx) : Prop where
 len1 : 0 < f.code.length
 len2 : f.code.length ≤ 12000
 p0 : 0 ≤ f.params
 p1 : f.params ≤ f.sec.length
 each : ∀ (k : Nat) (i : Ix),f.code[k]? = some i → wrg f k i = 0
 last : ∀ i,f.code.getLast? = some i → lst i.op = true
theorem chkL_ok (f : Fx) : ∀ (l : List Ix) (n : Nat),(chkL f n l).1 = 0 → (∀ (k : Nat) (i : Ix),l[k]? = some i → wrg f (n + k : Nat) i = 0) ∧ (endF f).1 = 0
 | [],n,h => ⟨fun k i hk => by simp at hk,h⟩
 | i :: l,n,h => by
  rw [chkL] at h
  split at h
  ·rename_i h0
   have h' : (chkL f ((n + 1 : Nat) : Int) l).1 = 0 := by rw [Int.natCast_add]; exact h
   obtain ⟨h1,h2⟩ := chkL_ok f l (n + 1) h'
   refine ⟨fun k j hk => ?_,h2⟩
   cases k with
   | zero => simp at hk; rw [← hk]; exact h0
   | succ k => rw [show n + (k + 1) = n + 1 + k by omega]; exact h1 k j (by simpa using hk)
  ·rename_i h0
   exact absurd h h0
theorem right_of {f : Fx} (h : (checkF f).1 = 0) : Right f := by
 unfold checkF at h
 split at h
 ·rename_i hr
  unfold room at hr
  simp only [Bool.and_eq_true,Bool.not_eq_true',decide_eq_false_iff_not] at hr
  obtain ⟨h1,h2⟩ := chkL_ok f f.code 0 h
  refine ⟨by omega,by omega,by omega,by omega,fun k i hk => by have := h1 k i hk; rw [Nat.zero_add] at this; exact this,fun i hi => ?_⟩
  unfold endF at h2
  rw [hi] at h2
  dsimp only at h2
  split at h2
  ·assumption
  ·cases h2
 ·cases h
structure Fine (f : Fx) (k : Nat) (i : Ix) : Prop where
 o1 : 1 ≤ i.op
 o2 : i.op ≤ 21
 d : mks i = true → 0 ≤ i.d ∧ i.d < f.sec.length
 r : ∀ p ∈ rds i,0 ≤ p ∧ p < f.sec.length
 c : i.op = 14 → isW i.imm
 b : i.op = 16 ∨ i.op = 17 → 0 ≤ i.b ∧ i.b < f.arrs.length
 j : i.op = 18 ∨ i.op = 19 → (k : Int) < i.imm ∧ i.imm < f.code.length
 s : spl f i = false
theorem wi_iff {p n : Int} : wi p n = true ↔ 0 ≤ p ∧ p < n := by unfold wi; rw [Bool.and_eq_true,decide_eq_true_eq,decide_eq_true_eq]
theorem fine_of {f : Fx} {k : Nat} {i : Ix} (h : wrg f k i = 0) : Fine f k i := by
 unfold wrg at h
 split at h
 ·cases h
 ·rename_i ho
  split at h
  ·cases h
  ·rename_i hr
   split at h
   ·cases h
   ·rename_i hs
    have hr : inR f k i = true := by simpa using hr
    unfold inR at hr
    rw [Bool.and_eq_true,Bool.and_eq_true] at hr
    obtain ⟨⟨h1,h2⟩,h3⟩ := hr
    refine ⟨by omega,by omega,fun hm => ?_,fun p hp => wi_iff.1 (List.all_eq_true.1 h2 p hp),fun ho => ?_,fun ho => ?_,fun ho => ?_,by simpa using hs⟩
    ·rw [hm] at h1
     exact wi_iff.1 (by simpa using h1)
    ·unfold ext at h3
     rw [if_pos ho] at h3
     simpa [isW] using h3
    ·unfold ext at h3
     rw [if_neg (by omega),if_pos ho] at h3
     exact wi_iff.1 h3
    ·unfold ext at h3
     rw [if_neg (by omega),if_neg (by omega),if_pos ho] at h3
     simpa using h3
def made (i : Ix) (P : List Int) (A : List (List Int)) : Int := if i.op = 13 then selP (gI P i.a) (gI P i.b) (gI P i.c) else if i.op = 14 then i.imm else if i.op = 15 then gI P i.a else if i.op = 16 then (rowA A i.b).getD (gI P i.a).toNat 0 else Wd.two i.op (gI P i.a) (gI P i.b)
def nx (i : Ix) (at' : Nat) (P : List Int) : Nat := if i.op = 18 then i.imm.toNat else if i.op = 19 ∧ gI P i.a = 0 then i.imm.toNat else at' + 1
def pl (i : Ix) (P : List Int) (A : List (List Int)) : List Int := if mks i = true then P.set i.d.toNat (made i P A) else P
def arr (i : Ix) (P : List Int) (A : List (List Int)) : List (List Int) := if i.op = 17 ∧ gI P i.a < (rowA A i.b).length then A.set i.b.toNat ((rowA A i.b).set (gI P i.a).toNat (gI P i.d)) else A
def bts (T : Nat → Int) (op : Int) : Int := if op = 19 then 1 else if op < 1 ∨ 17 < op then 0 else T op.toNat
def bitOn (n : Int) (k : Nat) : Bool := decide (n / 2 ^ k % 2 = 1)
def valsL (n : Int) (P : List Int) : Nat → List Int → List Int
 | _,[] => []
 | k,p :: l => if bitOn n k = true then gI P p :: valsL n P (k + 1) l else valsL n P (k + 1) l
def vals (T : Nat → Int) (i : Ix) (P : List Int) : List Int := valsL (bts T i.op) P 0 (rds i)
structure Lk where
 at' : Nat
 op : Int
 vs : List Int
structure En where
 word : Int
 trap : Bool
 arr : List (List Int)
inductive Runs (code : List Ix) (T : Nat → Int) : Nat → List Int → List (List Int) → List Lk → En → Prop where
 | ret (at' : Nat) (P : List Int) (A : List (List Int)) (i : Ix) : code[at']? = some i → i.op = 20 → Runs code T at' P A [⟨at',i.op,vals T i P⟩] ⟨gI P i.a,false,A⟩
 | trap (at' : Nat) (P : List Int) (A : List (List Int)) (i : Ix) : code[at']? = some i → i.op = 21 → Runs code T at' P A [⟨at',i.op,vals T i P⟩] ⟨0,true,A⟩
 | step (at' : Nat) (P : List Int) (A : List (List Int)) (i : Ix) (ls : List Lk) (e : En) : code[at']? = some i → i.op ≠ 20 → i.op ≠ 21 → Runs code T (nx i at' P) (pl i P A) (arr i P A) ls e → Runs code T at' P A (⟨at',i.op,vals T i P⟩ :: ls) e
structure GP (f : Fx) (P : List Int) : Prop where
 len : P.length = f.sec.length
 word : ∀ x ∈ P,isW x
theorem gI_word {P : List Int} (h : ∀ x ∈ P,isW x) (k : Int) : isW (gI P k) := by
 unfold gI
 rw [List.getD_eq_getElem?_getD]
 cases hv : P[k.toNat]? with
 | none => exact isW_zero
 | some v => exact h v (List.mem_of_getElem? hv)
theorem rowA_word {rs : List Vr} {A : List (List Int)} (h : GA rs A) (b : Int) : ∀ x ∈ rowA A b,isW x := by
 unfold rowA
 rw [List.getD_eq_getElem?_getD]
 cases hr : A[b.toNat]? with
 | none => intro v hv; cases hv
 | some row => exact h.word row (List.mem_of_getElem? hr)
theorem getD_word {l : List Int} (h : ∀ x ∈ l,isW x) (k : Nat) : isW (l.getD k 0) := by
 rw [List.getD_eq_getElem?_getD]
 cases hv : l[k]? with
 | none => exact isW_zero
 | some v => exact h v (List.mem_of_getElem? hv)
theorem made_word {f : Fx} {k : Nat} {i : Ix} {P : List Int} {A : List (List Int)} (hf : Fine f k i) (hP : GP f P) (hA : GA f.arrs A) : isW (made i P A) := by
 unfold made
 split
 ·exact selP_word _ _ _
 ·split
  ·exact hf.c (by assumption)
  ·split
   ·exact gI_word hP.word _
   ·split
    ·exact getD_word (rowA_word hA _) _
    ·exact Wd.two_word _ _ _
theorem pl_good {f : Fx} {k : Nat} {i : Ix} {P : List Int} {A : List (List Int)} (hf : Fine f k i) (hP : GP f P) (hA : GA f.arrs A) : GP f (pl i P A) := by
 unfold pl
 split
 ·refine ⟨by rw [List.length_set]; exact hP.len,fun x hx => ?_⟩
  rcases List.mem_or_eq_of_mem_set hx with h | h
  ·exact hP.word x h
  ·rw [h]; exact made_word hf hP hA
 ·exact hP
theorem arr_good {f : Fx} {k : Nat} {i : Ix} {P : List Int} {A : List (List Int)} (hf : Fine f k i) (hP : GP f P) (hA : GA f.arrs A) : GA f.arrs (arr i P A) := by
 unfold arr
 split
 ·rename_i h
  have hb := hf.b (.inr h.1)
  have hrow : A[i.b.toNat]? = some (rowA A i.b) := by
   unfold rowA
   rw [List.getD_eq_getElem?_getD,List.getElem?_eq_getElem (by rw [hA.len]; omega)]; rfl
  refine ⟨by rw [List.length_set]; exact hA.len,fun j row v hj hv => ?_,fun row hr x hx => ?_⟩
  ·rw [List.getElem?_set] at hj
   split at hj
   ·rename_i e
    rw [if_pos (by rw [hA.len]; omega)] at hj
    cases hj
    rw [List.length_set]
    exact hA.size _ _ _ hrow (by rw [e]; exact hv)
   ·exact hA.size _ _ _ hj hv
  ·rcases List.mem_or_eq_of_mem_set hr with h | h
   ·exact hA.word row h x hx
   ·rw [h] at hx
    rcases List.mem_or_eq_of_mem_set hx with h | h
    ·exact rowA_word hA _ x h
    ·rw [h]; exact gI_word hP.word _
 ·exact hA
theorem nx_lt {f : Fx} {k : Nat} {i : Ix} {P : List Int} (hR : Right f) (hk : f.code[k]? = some i) (h0 : i.op ≠ 20) (h1 : i.op ≠ 21) : k < nx i k P ∧ nx i k P < f.code.length := by
 have hf := fine_of (hR.each k i hk)
 have hlt := (List.getElem?_eq_some_iff.1 hk).1
 unfold nx
 split
 ·have := hf.j (.inl (by assumption)); omega
 ·rename_i h8
  split
  ·have := hf.j (.inr (by rename_i h; exact h.1)); omega
  ·refine ⟨by omega,?_⟩
   by_cases he : k + 1 = f.code.length
   ·have hl : f.code.getLast? = some i := by rw [List.getLast?_eq_getElem?,show f.code.length - 1 = k by omega]; exact hk
    have := hR.last i hl
    unfold lst at this
    simp only [Bool.or_eq_true,decide_eq_true_eq] at this
    omega
   ·omega
structure Like (f : Fx) (P P' : List Int) (A A' : List (List Int)) : Prop where
 p : ∀ k : Int,gB f.sec k = false → 0 ≤ k → k < f.sec.length → gI P k = gI P' k
 a : ∀ b : Int,vB f.arrs b = false → 0 ≤ b → b < f.arrs.length → rowA A b = rowA A' b
theorem row_len {rs : List Vr} {A A' : List (List Int)} (h : GA rs A) (h' : GA rs A') (b : Int) : (rowA A b).length = (rowA A' b).length := by
 unfold rowA
 rw [List.getD_eq_getElem?_getD,List.getD_eq_getElem?_getD]
 by_cases hb : b.toNat < rs.length
 ·have h1 : b.toNat < A.length := by rw [h.len]; exact hb
  have h2 : b.toNat < A'.length := by rw [h'.len]; exact hb
  rw [List.getElem?_eq_getElem h1,List.getElem?_eq_getElem h2]
  have e1 := h.size b.toNat _ _ (List.getElem?_eq_getElem h1) (List.getElem?_eq_getElem hb)
  have e2 := h'.size b.toNat _ _ (List.getElem?_eq_getElem h2) (List.getElem?_eq_getElem hb)
  simp only [Option.getD_some]
  omega
 ·rw [List.getElem?_eq_none (by rw [h.len]; omega),List.getElem?_eq_none (by rw [h'.len]; omega)]
theorem gI_set {P : List Int} {n k : Int} (v : Int) (hn : 0 ≤ n) (hk : 0 ≤ k) (hl : n < P.length) : gI (P.set n.toNat v) k = if k = n then v else gI P k := by
 unfold gI
 rw [List.getD_eq_getElem?_getD,List.getD_eq_getElem?_getD,List.getElem?_set]
 by_cases h : k = n
 ·rw [if_pos (by rw [h]),if_pos (by omega),if_pos h]; rfl
 ·rw [if_neg (by omega),if_neg h]
theorem rowA_set {A : List (List Int)} {n k : Int} (v : List Int) (hn : 0 ≤ n) (hk : 0 ≤ k) (hl : n < A.length) : rowA (A.set n.toNat v) k = if k = n then v else rowA A k := by
 unfold rowA
 rw [List.getD_eq_getElem?_getD,List.getD_eq_getElem?_getD,List.getElem?_set]
 by_cases h : k = n
 ·rw [if_pos (by rw [h]),if_pos (by omega),if_pos h]; rfl
 ·rw [if_neg (by omega),if_neg h]
theorem spl_ld {f : Fx} {i : Ix} (h : spl f i = false) (ho : i.op = 16) : gB f.sec i.a = false ∧ (vB f.arrs i.b = true → gB f.sec i.d = true) := by
 unfold spl at h
 rw [if_pos ho] at h
 revert h
 cases gB f.sec i.a <;> cases vB f.arrs i.b <;> cases gB f.sec i.d <;> simp
theorem spl_st {f : Fx} {i : Ix} (h : spl f i = false) (ho : i.op = 17) : gB f.sec i.a = false ∧ (gB f.sec i.d = true → vB f.arrs i.b = true) := by
 unfold spl at h
 rw [if_neg (by omega),if_pos ho] at h
 revert h
 cases gB f.sec i.a <;> cases vB f.arrs i.b <;> cases gB f.sec i.d <;> simp
theorem spl_mk {f : Fx} {i : Ix} (h : spl f i = false) (h6 : i.op ≠ 16) (hm : mks i = true) (hd : gB f.sec i.d = false) : ∀ p ∈ rds i,gB f.sec p = false := by
 have ho : i.op ≤ 16 := by
  unfold mks at hm
  rw [Bool.and_eq_true,decide_eq_true_eq,decide_eq_true_eq] at hm
  exact hm.2
 unfold spl at h
 rw [if_neg h6,if_neg (by omega),if_neg (by omega),hm,hd] at h
 intro p hp
 cases hg : gB f.sec p
 ·rfl
 ·have : (rds i).any (gB f.sec) = true := List.any_eq_true.2 ⟨p,hp,hg⟩
  rw [this] at h
  simp at h
theorem made_like {f : Fx} {k : Nat} {i : Ix} {P P' : List Int} {A A' : List (List Int)} (hf : Fine f k i) (hL : Like f P P' A A') (hm : mks i = true) (hd : gB f.sec i.d = false) : made i P A = made i P' A' := by
 have hr : i.op ≠ 16 → ∀ p ∈ rds i,gI P p = gI P' p := fun h6 p hp => hL.p p (spl_mk hf.s h6 hm hd p hp) (hf.r p hp).1 (hf.r p hp).2
 unfold mks at hm
 rw [Bool.and_eq_true,decide_eq_true_eq,decide_eq_true_eq] at hm
 unfold made
 split
 ·rename_i h
  have e : rds i = [i.a,i.b,i.c] := by unfold rds; rw [if_neg (by omega),if_pos h]
  rw [hr (by omega) i.a (by rw [e]; simp),hr (by omega) i.b (by rw [e]; simp),hr (by omega) i.c (by rw [e]; simp)]
 ·rename_i h3
  split
  ·rfl
  ·rename_i h4
   split
   ·rename_i h
    have e : rds i = [i.a] := by unfold rds; rw [if_neg (by omega),if_neg (by omega),if_neg (by omega),if_pos (by omega)]
    rw [hr (by omega) i.a (by rw [e]; simp)]
   ·rename_i h5
    split
    ·rename_i h
     obtain ⟨h1,h2⟩ := spl_ld hf.s h
     have e : rds i = [i.a] := by unfold rds; rw [if_neg (by omega),if_neg (by omega),if_neg (by omega),if_pos (by omega)]
     have ha := hf.r i.a (by rw [e]; simp)
     have hb := hf.b (.inl h)
     have hv : vB f.arrs i.b = false := by
      cases hv : vB f.arrs i.b
      ·rfl
      ·have := h2 hv
       rw [hd] at this
       cases this
     rw [hL.p i.a h1 ha.1 ha.2,hL.a i.b hv hb.1 hb.2]
    ·rename_i h6
     have e : rds i = [i.a,i.b] := by unfold rds; rw [if_pos (by omega)]
     rw [hr (by omega) i.a (by rw [e]; simp),hr (by omega) i.b (by rw [e]; simp)]
theorem Like.step {f : Fx} {k : Nat} {i : Ix} {P P' : List Int} {A A' : List (List Int)} (hf : Fine f k i) (hP : GP f P) (hP' : GP f P') (hA : GA f.arrs A) (hA' : GA f.arrs A') (hL : Like f P P' A A') : Like f (pl i P A) (pl i P' A') (arr i P A) (arr i P' A') := by
 refine ⟨fun q hq h0 h1 => ?_,fun q hq h0 h1 => ?_⟩
 ·unfold pl
  split
  ·rename_i hm
   have hd := hf.d hm
   rw [gI_set _ hd.1 h0 (by rw [hP.len]; exact hd.2),gI_set _ hd.1 h0 (by rw [hP'.len]; exact hd.2)]
   split
   ·rename_i e
    exact made_like hf hL hm (by rw [← e]; exact hq)
   ·exact hL.p q hq h0 h1
  ·exact hL.p q hq h0 h1
 ·by_cases h7 : i.op = 17
  ·obtain ⟨s1,s2⟩ := spl_st hf.s h7
   have hb := hf.b (.inr h7)
   have e : rds i = [i.a,i.d] := by unfold rds; rw [if_neg (by omega),if_neg (by omega),if_pos h7]
   have ha := hf.r i.a (by rw [e]; simp)
   have hd := hf.r i.d (by rw [e]; simp)
   have ea := hL.p i.a s1 ha.1 ha.2
   unfold arr
   rw [ea,row_len hA hA' i.b]
   split
   ·rw [rowA_set _ hb.1 h0 (by rw [hA.len]; exact hb.2),rowA_set _ hb.1 h0 (by rw [hA'.len]; exact hb.2)]
    split
    ·rename_i e
     rw [e] at hq
     have hds : gB f.sec i.d = false := by
      cases hv : gB f.sec i.d
      ·rfl
      ·have := s2 hv
       rw [hq] at this
       cases this
     rw [hL.a i.b hq hb.1 hb.2,hL.p i.d hds hd.1 hd.2]
    ·exact hL.a q hq h0 h1
   ·exact hL.a q hq h0 h1
  ·unfold arr
   rw [if_neg (fun h => h7 h.1),if_neg (fun h => h7 h.1)]
   exact hL.a q hq h0 h1
def ao (l : Lk) : Nat × Int := (l.at',l.op)
end Go.Proofs.Ytpnacanbknejiaa.Fl
