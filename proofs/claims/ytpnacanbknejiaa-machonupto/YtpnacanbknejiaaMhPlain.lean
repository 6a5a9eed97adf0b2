/- A machine in plain words: how an image's instructions run, in whichever mode; more steps are no less; on, less is seen. No Go in it. -/
import Derived.Test.YtpnacanbknejiaaGr11
namespace Go.Proofs.Ytpnacanbknejiaa.Mh
set_option linter.unusedVariables false
set_option linter.unusedSimpArgs false
open Lg Fl
structure Ms where
 P : List Int
 A : List (List Int)
 m : Int
def slotsM (i : Ix) (s : Ms) : List Int := if i.op = 22 then s.P.set i.d.toNat s.m else pl i s.P s.A
def modeM (i : Ix) (s : Ms) : Int := if i.op = 22 then 1 else if i.op = 23 then gI s.P i.a % 2 else s.m
def doM (i : Ix) (s : Ms) : Ms := ⟨slotsM i s,arr i s.P s.A,modeM i s⟩
def seenM (T : Nat → Int) (i : Ix) (s : Ms) : List Int := valsW (bitsG T i.op (decide (s.m = 0))) s.P 0 (rds i)
def lkM (T : Nat → Int) (at' : Nat) (i : Ix) (s : Ms) : Lk := ⟨at',i.op,seenM T i s⟩
def endM (i : Ix) (s : Ms) : En := ⟨if i.op = 21 then 0 else gI s.P i.a,decide (i.op = 21),s.A⟩
structure Rn where
 e : Int
 ls : List Lk
 en : En
 m : Int
def noR (e : Int) : Rn := ⟨e,[],⟨0,false,[]⟩,0⟩
def runM (code : List Ix) (T : Nat → Int) : Nat → Nat → Ms → Rn
 | 0,_,_ => noR 12
 | n + 1,at',s => match code[at']? with
  | none => noR 8
  | some i => if i.op = 20 ∨ i.op = 21 then ⟨0,[lkM T at' i s],endM i s,s.m⟩ else
   let r := runM code T n (nx i at' s.P) (doM i s)
   if r.e = 0 then ⟨0,lkM T at' i s :: r.ls,r.en,r.m⟩ else noR r.e
theorem runM_none {code : List Ix} {T : Nat → Int} {n at' : Nat} {s : Ms} (h : code[at']? = none) : runM code T (n + 1) at' s = noR 8 := by rw [runM,h]
theorem runM_end {code : List Ix} {T : Nat → Int} {n at' : Nat} {s : Ms} {i : Ix} (h : code[at']? = some i) (ho : i.op = 20 ∨ i.op = 21) : runM code T (n + 1) at' s = ⟨0,[lkM T at' i s],endM i s,s.m⟩ := by
 rw [runM,h]; dsimp only; rw [if_pos ho]
theorem runM_on {code : List Ix} {T : Nat → Int} {n at' : Nat} {s : Ms} {i : Ix} (h : code[at']? = some i) (ho : ¬ (i.op = 20 ∨ i.op = 21)) : runM code T (n + 1) at' s = if (runM code T n (nx i at' s.P) (doM i s)).e = 0 then ⟨0,lkM T at' i s :: (runM code T n (nx i at' s.P) (doM i s)).ls,(runM code T n (nx i at' s.P) (doM i s)).en,(runM code T n (nx i at' s.P) (doM i s)).m⟩ else noR (runM code T n (nx i at' s.P) (doM i s)).e := by
 rw [runM,h]; dsimp only; rw [if_neg ho]
theorem runM_bad {code : List Ix} {T : Nat → Int} : ∀ {n at' : Nat} {s : Ms},(runM code T n at' s).e ≠ 0 → runM code T n at' s = noR (runM code T n at' s).e
 | 0,_,_,_ => rfl
 | n + 1,at',s,h => by
  cases hi : code[at']? with
  | none => rw [runM_none hi]; rfl
  | some i =>
   by_cases ho : i.op = 20 ∨ i.op = 21
   ·rw [runM_end hi ho] at h; exact absurd rfl h
   ·rw [runM_on hi ho] at h ⊢
    by_cases h0 : (runM code T n (nx i at' s.P) (doM i s)).e = 0
    ·rw [if_pos h0] at h; exact absurd rfl h
    ·rw [if_neg h0]; rfl
theorem runM_e {code : List Ix} {T : Nat → Int} : ∀ {n at' : Nat} {s : Ms},(runM code T n at' s).e = 0 ∨ (runM code T n at' s).e = 8 ∨ (runM code T n at' s).e = 12
 | 0,_,_ => .inr (.inr rfl)
 | n + 1,at',s => by
  cases hi : code[at']? with
  | none => rw [runM_none hi]; exact .inr (.inl rfl)
  | some i =>
   by_cases ho : i.op = 20 ∨ i.op = 21
   ·rw [runM_end hi ho]; exact .inl rfl
   ·rw [runM_on hi ho]
    by_cases h0 : (runM code T n (nx i at' s.P) (doM i s)).e = 0
    ·rw [if_pos h0]; exact .inl rfl
    ·rw [if_neg h0]; exact runM_e
structure Tr where
 l : List (Nat × Ix × Ms)
 e : Int
 at' : Nat
 s : Ms
def trM (code : List Ix) : Nat → Nat → Ms → Tr
 | 0,at',s => ⟨[],12,at',s⟩
 | n + 1,at',s => match code[at']? with
  | none => ⟨[],8,at',s⟩
  | some i => if i.op = 20 ∨ i.op = 21 then ⟨[(at',i,s)],0,at',s⟩ else
   let r := trM code n (nx i at' s.P) (doM i s)
   ⟨(at',i,s) :: r.l,r.e,r.at',r.s⟩
theorem trM_none {code : List Ix} {n at' : Nat} {s : Ms} (h : code[at']? = none) : trM code (n + 1) at' s = ⟨[],8,at',s⟩ := by rw [trM,h]
theorem trM_end {code : List Ix} {n at' : Nat} {s : Ms} {i : Ix} (h : code[at']? = some i) (ho : i.op = 20 ∨ i.op = 21) : trM code (n + 1) at' s = ⟨[(at',i,s)],0,at',s⟩ := by
 rw [trM,h]; dsimp only; rw [if_pos ho]
theorem trM_on {code : List Ix} {n at' : Nat} {s : Ms} {i : Ix} (h : code[at']? = some i) (ho : ¬ (i.op = 20 ∨ i.op = 21)) : trM code (n + 1) at' s = ⟨(at',i,s) :: (trM code n (nx i at' s.P) (doM i s)).l,(trM code n (nx i at' s.P) (doM i s)).e,(trM code n (nx i at' s.P) (doM i s)).at',(trM code n (nx i at' s.P) (doM i s)).s⟩ := by
 rw [trM,h]; dsimp only; rw [if_neg ho]
theorem trM_run {code : List Ix} {T : Nat → Int} : ∀ {n at' : Nat} {s : Ms},(runM code T n at' s).e = (trM code n at' s).e ∧ ((trM code n at' s).e = 0 → ∃ i,code[(trM code n at' s).at']? = some i ∧ (i.op = 20 ∨ i.op = 21) ∧ runM code T n at' s = ⟨0,(trM code n at' s).l.map (fun x => lkM T x.1 x.2.1 x.2.2),endM i (trM code n at' s).s,(trM code n at' s).s.m⟩)
 | 0,at',s => ⟨rfl,fun h => by cases h⟩
 | n + 1,at',s => by
  cases hi : code[at']? with
  | none => rw [runM_none hi,trM_none hi]; exact ⟨rfl,fun h => by cases h⟩
  | some i =>
   by_cases ho : i.op = 20 ∨ i.op = 21
   ·rw [runM_end hi ho,trM_end hi ho]
    exact ⟨rfl,fun _ => ⟨i,hi,ho,rfl⟩⟩
   ·rw [runM_on hi ho,trM_on hi ho]
    dsimp only
    obtain ⟨h1,h2⟩ := trM_run (code:=code) (T:=T) (n:=n) (at' := nx i at' s.P) (s:=doM i s)
    by_cases h0 : (runM code T n (nx i at' s.P) (doM i s)).e = 0
    ·rw [if_pos h0]
     refine ⟨by rw [← h1,h0],fun h => ?_⟩
     obtain ⟨j,q1,q2,q3⟩ := h2 (by rw [← h1]; exact h0)
     refine ⟨j,q1,q2,?_⟩
     rw [q3]; rfl
    ·rw [if_neg h0]
     exact ⟨h1,fun h => absurd (h1.trans h) h0⟩
theorem trM_bad {code : List Ix} {T : Nat → Int} {n at' : Nat} {s : Ms} (h : (trM code n at' s).e ≠ 0) : runM code T n at' s = noR (trM code n at' s).e := by
 have h1 := (trM_run (code:=code) (T:=T) (n:=n) (at' := at') (s:=s)).1
 rw [runM_bad (by rw [h1]; exact h),h1]
theorem trM_len {code : List Ix} : ∀ {n at' : Nat} {s : Ms},(trM code n at' s).l.length ≤ n
 | 0,_,_ => Nat.le_refl _
 | n + 1,at',s => by
  cases hi : code[at']? with
  | none => rw [trM_none hi]; exact Nat.zero_le _
  | some i =>
   by_cases ho : i.op = 20 ∨ i.op = 21
   ·rw [trM_end hi ho]; show 1 ≤ n + 1; omega
   ·rw [trM_on hi ho]
    have := trM_len (code:=code) (n:=n) (at' := nx i at' s.P) (s:=doM i s)
    show (_ :: _ : List _).length ≤ n + 1
    rw [List.length_cons]; omega
def ahead (code : List Ix) : Nat → Nat → Ms → Option (Nat × Ms)
 | 0,at',s => some (at',s)
 | k + 1,at',s => match code[at']? with
  | none => none
  | some i => if i.op = 20 ∨ i.op = 21 then none else ahead code k (nx i at' s.P) (doM i s)
theorem vals_sub {P : List Int} {m n : Int} (hb : ∀ k,bitOn n k = true → bitOn m k = true) : ∀ (l : List Int) (k : Nat),(∀ x ∈ valsW n P k l,x ∈ valsW m P k l) ∧ (valsW n P k l).length ≤ (valsW m P k l).length
 | [],_ => ⟨fun x h => h,Nat.le_refl _⟩
 | p :: l,k => by
  obtain ⟨h1,h2⟩ := vals_sub (P:=P) hb l (k + 1)
  rw [valsW,valsW]
  by_cases hn : bitOn n k = true ∧ wi p P.length = true
  ·rw [if_pos hn,if_pos ⟨hb k hn.1,hn.2⟩]
   refine ⟨fun x hx => ?_,by rw [List.length_cons,List.length_cons]; omega⟩
   rcases List.mem_cons.1 hx with e | e
   ·rw [e]; exact List.mem_cons_self
   ·exact List.mem_cons_of_mem _ (h1 x e)
  ·rw [if_neg hn]
   by_cases hm : bitOn m k = true ∧ wi p P.length = true
   ·rw [if_pos hm]
    exact ⟨fun x hx => List.mem_cons_of_mem _ (h1 x hx),by rw [List.length_cons]; omega⟩
   ·rw [if_neg hm]; exact ⟨h1,h2⟩
def lessL (a b : List Lk) : Prop := a.length = b.length ∧ ∀ (k : Nat) (x y : Lk),a[k]? = some x → b[k]? = some y → x.at' = y.at' ∧ x.op = y.op ∧ y.vs.length ≤ x.vs.length ∧ ∀ n ∈ y.vs,n ∈ x.vs
theorem lessL.cons {a b : List Lk} {x y : Lk} (h : lessL a b) (hx : x.at' = y.at' ∧ x.op = y.op ∧ y.vs.length ≤ x.vs.length ∧ ∀ n ∈ y.vs,n ∈ x.vs) : lessL (x :: a) (y :: b) := by
 refine ⟨by rw [List.length_cons,List.length_cons,h.1],fun k u v hu hv => ?_⟩
 cases k with
 | zero => simp at hu hv; rw [← hu,← hv]; exact hx
 | succ k => rw [List.getElem?_cons_succ] at hu hv; exact h.2 k u v hu hv
theorem on_any {code : List Ix} {T : Nat → Int} (hc : ∀ i ∈ code,i.op ≠ 22 ∧ i.op ≠ 23) (hT : ∀ op k,bitOn (bitsG T op false) k = true → bitOn (bitsG T op true) k = true) : ∀ {n at' : Nat} {P : List Int} {A : List (List Int)},
  (runM code T n at' ⟨P,A,0⟩).e = (runM code T n at' ⟨P,A,1⟩).e ∧ (runM code T n at' ⟨P,A,0⟩).en = (runM code T n at' ⟨P,A,1⟩).en ∧ lessL (runM code T n at' ⟨P,A,0⟩).ls (runM code T n at' ⟨P,A,1⟩).ls
 | 0,at',P,A => ⟨rfl,rfl,rfl,fun k x y h => by simp [runM,noR] at h⟩
 | n + 1,at',P,A => by
  cases hi : code[at']? with
  | none => rw [runM_none hi,runM_none hi]; exact ⟨rfl,rfl,rfl,fun k x y h => by simp [noR] at h⟩
  | some i =>
   obtain ⟨c1,c2⟩ := hc i (List.mem_of_getElem? hi)
   have hx : (lkM T at' i ⟨P,A,0⟩).at' = (lkM T at' i ⟨P,A,1⟩).at' ∧ (lkM T at' i ⟨P,A,0⟩).op = (lkM T at' i ⟨P,A,1⟩).op ∧ (lkM T at' i ⟨P,A,1⟩).vs.length ≤ (lkM T at' i ⟨P,A,0⟩).vs.length ∧ ∀ n ∈ (lkM T at' i ⟨P,A,1⟩).vs,n ∈ (lkM T at' i ⟨P,A,0⟩).vs := by
    have h := vals_sub (P:=P) (fun k => hT i.op k) (rds i) 0
    exact ⟨rfl,rfl,h.2,h.1⟩
   by_cases ho : i.op = 20 ∨ i.op = 21
   ·rw [runM_end hi ho,runM_end hi ho]
    exact ⟨rfl,rfl,lessL.cons (a:=[]) (b:=[]) ⟨rfl,fun k x y h => by simp at h⟩ hx⟩
   ·rw [runM_on hi ho,runM_on hi ho]
    have e0 : doM i ⟨P,A,0⟩ = ⟨pl i P A,arr i P A,0⟩ := by unfold doM slotsM modeM; rw [if_neg c1,if_neg c1,if_neg c2]
    have e1 : doM i ⟨P,A,1⟩ = ⟨pl i P A,arr i P A,1⟩ := by unfold doM slotsM modeM; rw [if_neg c1,if_neg c1,if_neg c2]
    rw [e0,e1]
    dsimp only
    obtain ⟨h1,h2,h3⟩ := on_any (n:=n) (at' := nx i at' P) (P:=pl i P A) (A:=arr i P A) hc hT
    by_cases h0 : (runM code T n (nx i at' P) ⟨pl i P A,arr i P A,0⟩).e = 0
    ·rw [if_pos h0,if_pos (by rw [← h1]; exact h0)]
     exact ⟨rfl,h2,lessL.cons h3 hx⟩
    ·rw [if_neg h0,if_neg (by rw [← h1]; exact h0),h1]
     exact ⟨rfl,rfl,rfl,fun k x y h => by simp [noR] at h⟩
structure FitI (n m : Nat) (i : Ix) : Prop where
 o1 : 1 ≤ i.op
 o2 : i.op ≤ 23
 d0 : 0 ≤ i.d
 d1 : i.d < n
 r : ∀ p ∈ rds i,0 ≤ p ∧ p < n
 b : i.op = 16 ∨ i.op = 17 → 0 ≤ i.b ∧ i.b < m
 a : i.op = 23 → 0 ≤ i.a ∧ i.a < n
 imm0 : isW i.imm
structure GoodM (n m : Nat) (s : Ms) : Prop where
 len : s.P.length = n
 word : ∀ x ∈ s.P,isW x
 alen : s.A.length = m
 aword : ∀ r ∈ s.A,∀ x ∈ r,isW x
 mode : s.m = 0 ∨ s.m = 1
theorem rowA_isW {A : List (List Int)} (h : ∀ r ∈ A,∀ x ∈ r,isW x) (b : Int) : ∀ x ∈ rowA A b,isW x := by
 unfold rowA
 rw [List.getD_eq_getElem?_getD]
 cases hb : A[b.toNat]? with
 | none => intro x hx; simp at hx
 | some r => intro x hx; exact h r (List.mem_of_getElem? hb) x (by simpa using hx)
theorem made_isW {i : Ix} {P : List Int} {A : List (List Int)} (hP : ∀ x ∈ P,isW x) (hA : ∀ r ∈ A,∀ x ∈ r,isW x) (hi : isW i.imm) : isW (made i P A) := by
 unfold made
 split
 ·exact selP_word _ _ _
 split
 ·exact hi
 split
 ·exact gI_word hP _
 split
 ·exact getD_word (rowA_isW hA _) _
 ·exact Wd.two_word _ _ _
theorem mem_set {α : Type} {l : List α} {k : Nat} {v x : α} (h : x ∈ l.set k v) : x ∈ l ∨ x = v := List.mem_or_eq_of_mem_set h
theorem doM_good {n m : Nat} {i : Ix} {s : Ms} (h : FitI n m i) (hG : GoodM n m s) : GoodM n m (doM i s) := by
 have hm : isW s.m := by unfold isW; rcases hG.mode with e | e <;> omega
 refine ⟨?_,fun x hx => ?_,?_,fun r hr x hx => ?_,?_⟩
 ·show (slotsM i s).length = n
  unfold slotsM
  split
  ·rw [List.length_set]; exact hG.len
  ·unfold pl; split
   ·rw [List.length_set]; exact hG.len
   ·exact hG.len
 ·change x ∈ slotsM i s at hx
  unfold slotsM at hx
  split at hx
  ·rcases mem_set hx with e | e
   ·exact hG.word x e
   ·rw [e]; exact hm
  ·unfold pl at hx
   split at hx
   ·rcases mem_set hx with e | e
    ·exact hG.word x e
    ·rw [e]; exact made_isW hG.word hG.aword h.imm0
   ·exact hG.word x hx
 ·show (arr i s.P s.A).length = m
  unfold arr; split
  ·rw [List.length_set]; exact hG.alen
  ·exact hG.alen
 ·change r ∈ arr i s.P s.A at hr
  unfold arr at hr
  split at hr
  ·rcases mem_set hr with e | e
   ·exact hG.aword r e x hx
   ·rw [e] at hx
    rcases mem_set hx with e | e
    ·exact rowA_isW hG.aword _ x e
    ·rw [e]; exact gI_word hG.word _
  ·exact hG.aword r hr x hx
 ·show modeM i s = 0 ∨ modeM i s = 1
  unfold modeM
  split
  ·exact .inr rfl
  ·split
   ·omega
   ·exact hG.mode
end Go.Proofs.Ytpnacanbknejiaa.Mh
