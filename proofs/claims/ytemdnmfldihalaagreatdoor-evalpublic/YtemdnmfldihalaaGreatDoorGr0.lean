/- Laid together: WdNumPlain, RfNumPlain, LgPlain, LgTree, LgStmt. -/
import Derived.Lib.Strings
import Derived.WalkKit
import Derived.Lib.AtoiAll
import Derived.Lib.ItoaNum
import Derived.Lib.ItoaMem
namespace Go.Proofs.YtemdnmfldihalaaGreatDoor.Wd
set_option linter.unusedVariables false
def val (l : List UInt8) : Nat := l.foldl (fun n c => n * 10 + (c.toNat - 48)) 0
def dig (c : UInt8) : Bool := decide (48 ≤ c.toNat ∧ c.toNat ≤ 57)
def isNum (l : List UInt8) : Bool :=
 decide (1 ≤ l.length ∧ l.length ≤ 10 ∧ ¬ (1 < l.length ∧ l[0]? = some 48) ∧ (∀ c ∈ l,dig c = true) ∧ val l ≤ 4294967295)
theorem isNum_mk {l : List UInt8} (h : 1 ≤ l.length ∧ l.length ≤ 10 ∧ ¬ (1 < l.length ∧ l[0]? = some 48) ∧ (∀ c ∈ l,dig c = true) ∧ val l ≤ 4294967295) : isNum l = true := decide_eq_true h
theorem val_snoc (l : List UInt8) (c : UInt8) : val (l ++ [c]) = val l * 10 + (c.toNat - 48) := by
 unfold val; rw [List.foldl_append]; rfl
theorem val_lt : ∀ (n : Nat) (l : List UInt8),l.length = n → (∀ c ∈ l,dig c = true) → val l < 10 ^ n := by
 intro n
 induction n with
 | zero => intro l hl _; have : l = [] := List.eq_nil_of_length_eq_zero hl
           subst this; decide
 | succ n ih =>
  intro l hl hd
  have hne : l ≠ [] := by intro h; subst h; simp at hl
  have e := List.dropLast_concat_getLast hne
  have h1 := ih l.dropLast (by simp; omega) (fun c hc => hd c (List.dropLast_subset l hc))
  have h2 := hd (l.getLast hne) (List.getLast_mem hne)
  unfold dig at h2
  have h3 := of_decide_eq_true h2
  rw [← e,val_snoc,Nat.pow_succ]
  omega
theorem u8_48 (c : UInt8) : c = 48 ↔ c.toNat = 48 := by
 constructor
 ·intro h; subst h; rfl
 ·intro h; exact UInt8.toNat_inj.1 h
end Go.Proofs.YtemdnmfldihalaaGreatDoor.Wd
namespace Go.Proofs.YtemdnmfldihalaaGreatDoor.Rf
set_option linter.unusedVariables false
open Wd
theorem u8_of (u : Nat) (h : u < 10) : (UInt8.ofNat (48 + u)).toNat = 48 + u := by
 show (48 + u) % 256 = 48 + u
 omega
theorem dig_of (u : Nat) (h : u < 10) : dig (UInt8.ofNat (48 + u)) = true := decide_eq_true (by rw [u8_of u h]; omega)
theorem val_one (c : UInt8) : val [c] = c.toNat - 48 := by simp [val]
theorem digits_snoc {l : List UInt8} {c : UInt8} (h : ∀ x ∈ l ++ [c],dig x = true) : (∀ x ∈ l,dig x = true) ∧ 48 ≤ c.toNat ∧ c.toNat ≤ 57 := by
 refine ⟨fun x hx => h x (by simp [hx]),?_⟩
 have := h c (by simp)
 unfold dig at this
 exact of_decide_eq_true this
theorem val_pos : ∀ (n : Nat) (l : List UInt8),l.length = n + 1 → (∀ c ∈ l,dig c = true) → ¬ l[0]? = some 48 → 1 ≤ val l := by
 intro n
 induction n with
 | zero =>
  intro l hl hd h0
  match l,hl with
  | [c],_ =>
   have := hd c (by simp)
   unfold dig at this
   have hc := of_decide_eq_true this
   have hne : ¬ c.toNat = 48 := fun e => h0 (by rw [(u8_48 c).2 e]; rfl)
   rw [val_one]; omega
 | succ n ih =>
  intro l hl hd h0
  have hne : l ≠ [] := by intro h; subst h; simp at hl
  have e := List.dropLast_concat_getLast hne
  have hlen : l.dropLast.length = n + 1 := by simp; omega
  rw [← e] at hd
  obtain ⟨h1,_,_⟩ := digits_snoc hd
  have h2 := ih l.dropLast hlen h1 (by
   intro h; refine h0 ?_
   rw [← e,List.getElem?_append_left (by omega)]; exact h)
  rw [← e,val_snoc]
  omega
theorem dec_val : ∀ (n : Nat) (l : List UInt8),l.length = n + 1 → (∀ c ∈ l,dig c = true) → ¬ (1 < l.length ∧ l[0]? = some 48) → Lib.decDigits (val l) = l := by
 intro n
 induction n with
 | zero =>
  intro l hl hd _
  match l,hl with
  | [c],_ =>
   have := hd c (by simp)
   unfold dig at this
   have hc := of_decide_eq_true this
   rw [val_one,Lib.decDigits_one (by omega)]
   have : UInt8.ofNat (48 + (c.toNat - 48)) = c := UInt8.toNat_inj.1 (by rw [u8_of _ (by omega)]; omega)
   rw [this]
 | succ n ih =>
  intro l hl hd h0
  have hne : l ≠ [] := by intro h; subst h; simp at hl
  have e := List.dropLast_concat_getLast hne
  have hlen : l.dropLast.length = n + 1 := by simp; omega
  have hd' := hd
  rw [← e] at hd'
  obtain ⟨h1,c0,c1⟩ := digits_snoc hd'
  have h48 : ¬ l.dropLast[0]? = some 48 := by
   intro h; refine h0 ⟨by omega,?_⟩
   rw [← e,List.getElem?_append_left (by omega)]; exact h
  have h2 := ih l.dropLast hlen h1 (fun h => h48 h.2)
  have h3 := val_pos n l.dropLast hlen h1 h48
  have ev : val l = val l.dropLast * 10 + ((l.getLast hne).toNat - 48) := by rw [← val_snoc,e]
  rw [Lib.decDigits,dif_neg (by omega)]
  have e1 : val l / 10 = val l.dropLast := by omega
  have e2 : val l % 10 = (l.getLast hne).toNat - 48 := by omega
  rw [e1,e2,h2]
  have : UInt8.ofNat (48 + ((l.getLast hne).toNat - 48)) = l.getLast hne := UInt8.toNat_inj.1 (by rw [u8_of _ (by omega)]; omega)
  rw [this,e]
theorem dec_facts (n : Nat) : ∀ u : Nat,u < n → (∀ c ∈ Lib.decDigits u,dig c = true) ∧ val (Lib.decDigits u) = u ∧ 1 ≤ (Lib.decDigits u).length ∧ ((Lib.decDigits u)[0]? = some 48 → u = 0) := by
 induction n with
 | zero => intro u h; omega
 | succ n ih =>
  intro u hu
  by_cases h : u < 10
  ·rw [Lib.decDigits_one h]
   refine ⟨fun c hc => ?_,?_,by simp,fun h0 => ?_⟩
   ·have : c = UInt8.ofNat (48 + u) := by simpa using hc
    rw [this]; exact dig_of u h
   ·rw [val_one,u8_of u h]; omega
   ·have h1 : UInt8.ofNat (48 + u) = 48 := by simpa using h0
    have h2 := (u8_48 _).1 h1
    rw [u8_of u h] at h2; omega
  ·rw [Lib.decDigits,dif_neg h]
   obtain ⟨a1,a2,a3,a4⟩ := ih (u / 10) (by omega)
   refine ⟨fun c hc => ?_,?_,by simp,fun h0 => ?_⟩
   ·rcases List.mem_append.1 hc with hc | hc
    ·exact a1 c hc
    ·have : c = UInt8.ofNat (48 + u % 10) := by simpa using hc
     rw [this]; exact dig_of _ (by omega)
   ·rw [val_snoc,a2,u8_of _ (by omega)]; omega
   ·rw [List.getElem?_append_left (by omega)] at h0
    have := a4 h0
    omega
theorem isNum_dec (u : Nat) (h : u ≤ 4294967295) : isNum (Lib.decDigits u) = true := by
 obtain ⟨a1,a2,a3,a4⟩ := dec_facts (u + 1) u (by omega)
 refine isNum_mk ⟨a3,?_,fun hh => ?_,a1,by omega⟩
 ·rw [Lib.decDigits_length]
  have hp := Lib.nDigits_pos u
  by_cases hlt : Lib.nDigits u ≤ 10
  ·exact hlt
  ·exfalso
   have hl := val_lt
   -- ten to the tenth is more than a word
   have hge : ∀ k u : Nat,Lib.nDigits u = k + 1 → 1 ≤ k → 10 ^ k ≤ u := by
    intro k
    induction k with
    | zero => intro u _ h; omega
    | succ k ihk =>
     intro u hk _
     by_cases hu : u < 10
     ·rw [Lib.nDigits_small hu] at hk; omega
     ·rw [Lib.nDigits_big hu] at hk
      by_cases hk0 : k = 0
      ·subst hk0; simp; omega
      ·have := ihk (u / 10) (by omega) (by omega)
       rw [Nat.pow_succ]
       omega
   have h1 := hge (Lib.nDigits u - 1) u (by omega) (by omega)
   have h2 : 10 ^ 10 ≤ 10 ^ (Lib.nDigits u - 1) := Nat.pow_le_pow_right (by decide) (by omega)
   have h3 : (10 : Nat) ^ 10 = 10000000000 := by decide
   omega
 ·have := a4 hh.2
  subst this
  have : (Lib.decDigits 0).length = 1 := by rw [Lib.decDigits_length]; exact Lib.nDigits_small (by decide)
  omega
theorem num_parts {l : List UInt8} (h : isNum l = true) : 1 ≤ l.length ∧ l.length ≤ 10 ∧ ¬ (1 < l.length ∧ l[0]? = some 48) ∧ (∀ c ∈ l,dig c = true) ∧ val l ≤ 4294967295 := of_decide_eq_true h
theorem dec_of_num {l : List UInt8} (h : isNum l = true) : Lib.decDigits (val l) = l := by
 obtain ⟨h1,h2,h3,h4,h5⟩ := num_parts h
 exact dec_val (l.length - 1) l (by omega) h4 h3
theorem parse_digits : ∀ (l : List UInt8) (acc : Nat),(∀ c ∈ l,dig c = true) → (acc + 1) * 10 ^ l.length ≤ 10000000000 → Lib.parseUint10 acc l = .ok (l.foldl (fun n c => n * 10 + (c.toNat - 48)) acc) := by
 intro l
 induction l with
 | nil => intro acc _ _; rfl
 | cons c r ih =>
  intro acc hd hb
  have hc := hd c (by simp)
  unfold dig at hc
  have hc' := of_decide_eq_true hc
  have e : (acc + 1) * 10 ^ (r.length + 1) = (acc + 1) * 10 * 10 ^ r.length := by rw [Nat.pow_succ,Nat.mul_assoc,Nat.mul_comm (10 ^ r.length)]
  have hp : 1 ≤ 10 ^ r.length := Nat.one_le_pow _ _ (by decide)
  have hb2 : (acc * 10 + (c.toNat - 48) + 1) * 10 ^ r.length ≤ 10000000000 := by
   refine Nat.le_trans (Nat.mul_le_mul_right _ (show acc * 10 + (c.toNat - 48) + 1 ≤ (acc + 1) * 10 by omega)) ?_
   rw [← e]; simpa using hb
  have hsmall : acc * 10 + (c.toNat - 48) + 1 ≤ 10000000000 := Nat.le_trans (Nat.le_mul_of_pos_right _ hp) hb2
  rw [Lib.parseUint10,if_pos hc',if_neg (by omega),if_neg (by omega),ih _ (fun x hx => hd x (by simp [hx])) hb2]
  rfl
theorem atoi_of_num {l : List UInt8} (h : isNum l = true) : Lib.atoiAll l = .ok (val l : Int) := by
 obtain ⟨h1,h2,h3,h4,h5⟩ := num_parts h
 match l,h1,h2,h4,h5 with
 | c :: r,h1,h2,h4,h5 =>
  have hc := h4 c (by simp)
  unfold dig at hc
  have hc' := of_decide_eq_true hc
  have hb : (0 + 1) * 10 ^ (c :: r).length ≤ 10000000000 := by
   rw [Nat.zero_add,Nat.one_mul]
   exact Nat.le_trans (Nat.pow_le_pow_right (by decide) h2) (by decide)
  have hp := parse_digits (c :: r) 0 h4 hb
  unfold Lib.atoiAll
  have e43 : (if c.toNat = 43 ∨ c.toNat = 45 then r else c :: r) = c :: r := if_neg (by omega)
  have em : Lib.parseMag (c :: r) = Lib.parseUint10 0 (c :: r) := by unfold Lib.parseMag; rw [if_neg (by simp)]
  simp only [e43,em,hp]
  show (if ¬ c.toNat = 45 ∧ 9223372036854775808 ≤ val (c :: r) then _ else if c.toNat = 45 ∧ 9223372036854775808 < val (c :: r) then _ else Lib.NumEnd.ok (if c.toNat = 45 then -(val (c :: r) : Int) else (val (c :: r) : Int))) = _
  rw [if_neg (by omega),if_neg (by omega),if_neg (by omega)]
theorem num_iff {l : List UInt8} {v : Int} (h : Lib.atoiAll l = .ok v) (v0 : 0 ≤ v) (v1 : v < 4294967296) (hw : Lib.itoa v = l) : isNum l = true ∧ v = val l := by
 obtain ⟨u,rfl⟩ := Int.eq_ofNat_of_zero_le v0
 rw [Lib.itoa_nonneg] at hw
 obtain ⟨_,a2,_,_⟩ := dec_facts (u + 1) u (by omega)
 subst hw
 exact ⟨isNum_dec u (by omega),by rw [a2]⟩
theorem num_back {l : List UInt8} (h : isNum l = true) : Lib.itoa (val l : Int) = l := by
 rw [Lib.itoa_nonneg]; exact dec_of_num h
end Go.Proofs.YtemdnmfldihalaaGreatDoor.Rf
namespace Go.Proofs.YtemdnmfldihalaaGreatDoor.Lg
set_option linter.unusedVariables false
open Wd Rf
def blank (c : UInt8) : Bool := c == 32 || c == 10
def brack (c : UInt8) : Bool := c == 40 || c == 41
def stop (c : UInt8) : Bool := blank c || brack c
def flush (cur : List UInt8) (r : List (List UInt8)) : List (List UInt8) := if cur = [] then r else cur :: r
def lex : List UInt8 → List UInt8 → List (List UInt8)
 | [],cur => flush cur []
 | c :: r,cur => if blank c then flush cur (lex r []) else if brack c then flush cur ([c] :: lex r []) else lex r (cur ++ [c])
def words (l : List UInt8) : List (List UInt8) := lex l []
theorem lex_run : ∀ (p r cur : List UInt8),(∀ c ∈ p,stop c = false) → lex (p ++ r) cur = lex r (cur ++ p)
 | [],r,cur,_ => by simp
 | c :: p,r,cur,h => by
  have hc := h c (by simp)
  unfold stop at hc
  rw [Bool.or_eq_false_iff] at hc
  rw [List.cons_append,lex,if_neg (by simp [hc.1]),if_neg (by simp [hc.2]),lex_run p r (cur ++ [c]) (fun x hx => h x (by simp [hx]))]
  simp
def skip (l : List UInt8) : List UInt8 := l.dropWhile blank
def word (l : List UInt8) : List UInt8 := if l.takeWhile (fun c => !stop c) = [] then l.take 1 else l.takeWhile (fun c => !stop c)
def wd (l : List UInt8) : List UInt8 := word (skip l)
def rs (l : List UInt8) : List UInt8 := (skip l).drop (wd l).length
theorem words_blank {c : UInt8} (h : blank c = true) (r : List UInt8) : words (c :: r) = words r := by
 unfold words
 rw [lex,if_pos h]
 rfl
theorem words_skip : ∀ l : List UInt8,words (skip l) = words l
 | [] => rfl
 | c :: r => by
  unfold skip
  rw [List.dropWhile_cons]
  by_cases h : blank c = true
  ·rw [if_pos h,words_blank h]; exact words_skip r
  ·rw [if_neg h]
theorem skip_head (l : List UInt8) {c : UInt8} {r : List UInt8} (h : skip l = c :: r) : blank c = false := by
 have := List.head?_dropWhile_not blank l
 unfold skip at h
 rw [h] at this
 simpa using this
theorem tw_all (p : UInt8 → Bool) : ∀ (l : List UInt8) (x : UInt8),x ∈ l.takeWhile p → p x = true
 | [],x,h => by simp at h
 | a :: l,x,h => by
  rw [List.takeWhile_cons] at h
  by_cases ha : p a = true
  ·rw [if_pos ha] at h
   rcases List.mem_cons.1 h with e | e
   ·rw [e]; exact ha
   ·exact tw_all p l x e
  ·rw [if_neg ha] at h; simp at h
theorem words_step (l : List UInt8) : words l = if skip l = [] then [] else wd l :: words (rs l) := by
 rw [← words_skip l]
 unfold wd rs
 unfold wd
 cases hs : skip l with
 | nil => rw [if_pos rfl]; rfl
 | cons c r =>
  rw [if_neg (by simp)]
  have hb := skip_head l hs
  by_cases hk : brack c = true
  ·have hw : word (c :: r) = [c] := by
    have hst : stop c = true := by unfold stop; rw [hk]; simp
    have ht : (c :: r).takeWhile (fun c => !stop c) = [] := by rw [List.takeWhile_cons,if_neg (by simp [hst])]
    unfold word
    rw [if_pos ht]
    rfl
   rw [hw]
   unfold words
   rw [lex,if_neg (by simp [hb]),if_pos hk]
   simp [flush]
  ·have hc : stop c = false := by unfold stop; rw [hb]; simpa using hk
   have hne : ¬ (c :: r).takeWhile (fun c => !stop c) = [] := by
    rw [List.takeWhile_cons,if_pos (by simp [hc])]; simp
   have hw : word (c :: r) = (c :: r).takeWhile (fun c => !stop c) := by unfold word; rw [if_neg hne]
   rw [hw]
   have hsplit := List.takeWhile_append_dropWhile (p:=fun c => !stop c) (l:=c :: r)
   have hdrop : (c :: r).drop ((c :: r).takeWhile (fun c => !stop c)).length = (c :: r).dropWhile (fun c => !stop c) := by
    have := congrArg (List.drop ((c :: r).takeWhile (fun c => !stop c)).length) hsplit
    rw [List.drop_left] at this
    exact this.symm
   rw [hdrop]
   generalize hp : (c :: r).takeWhile (fun c => !stop c) = p at *
   generalize hq : (c :: r).dropWhile (fun c => !stop c) = q at *
   have hps : ∀ x ∈ p,stop x = false := fun x hx => by
    have := tw_all (fun c => !stop c) (c :: r) x (hp ▸ hx)
    simpa using this
   rw [← hsplit]
   unfold words
   rw [lex_run p q [] hps,List.nil_append]
   cases q with
   | nil => simp [lex,flush,hne]
   | cons d q =>
    have hd : stop d = true := by
     have := List.head?_dropWhile_not (fun c => !stop c) (c :: r)
     rw [hq] at this
     simpa using this
    unfold stop at hd
    by_cases hbd : blank d = true
    ·rw [lex,if_pos hbd,lex,if_pos hbd]
     simp [flush,hne]
    ·have hkd : brack d = true := by simpa [hbd] using hd
     rw [lex,if_neg hbd,if_pos hkd,lex,if_neg hbd,if_pos hkd]
     simp [flush,hne]
theorem wd_none (l : List UInt8) : wd l = [] ↔ skip l = [] := by
 unfold wd word
 cases h : skip l with
 | nil => simp
 | cons c r =>
  simp only [List.takeWhile_cons]
  by_cases hc : stop c = true
  ·simp [hc]
  ·simp [hc]
structure Ex where
 kind : Int
 n : Int
 name : List UInt8
 args : List Ex
structure St where
 kind : Int
 n : Int
 name : List UInt8
 secret : Bool
 args : List Ex
 thn : List St
 els : List St
structure Vr where
 name : List UInt8
 secret : Bool
 size : Int
structure Fn where
 params : List Vr
 arrays : List Vr
 body : List St
def kept : List (List UInt8) := [[102,110],[112,117,98],[115,101,99],[108,101,116],[115,101,116],[112,117,116],[105,102],[102,111,114],[114,101,116],[115,101,108],[97,116]]
def isName (w : List UInt8) : Bool := decide (1 ≤ w.length ∧ w.length ≤ 6 ∧ (∀ c ∈ w,97 ≤ c.toNat ∧ c.toNat ≤ 122) ∧ w ∉ kept)
def signs : List (List UInt8) := [[43],[45],[38],[124],[94],[60,60],[62,62],[42],[47],[37],[60],[61]]
def signOf (w : List UInt8) : Nat := if w ∈ signs then signs.idxOf w + 1 else 0
def sign (k : Nat) : List UInt8 := signs.getD (k - 1) []
abbrev Res (α : Type) := Except Int (α × List (List UInt8))
def andT {α β : Type} (x : Res α) (f : α → List (List UInt8) → Res β) : Res β := match x with
 | .error e => .error e
 | .ok (a,r) => f a r
theorem andT_ok {α β : Type} (a : α) (r : List (List UInt8)) (f : α → List (List UInt8) → Res β) : andT (.ok (a,r)) f = f a r := rfl
theorem andT_inv {α β : Type} {x : Res α} {f : α → List (List UInt8) → Res β} {b : β} {q : List (List UInt8)} (h : andT x f = .ok (b,q)) : ∃ a r,x = .ok (a,r) ∧ f a r = .ok (b,q) := by
 cases x with
 | error e => cases h
 | ok p => exact ⟨p.1,p.2,rfl,h⟩
def next : List (List UInt8) → Res (List UInt8)
 | [] => .error 8
 | w :: r => .ok (w,r)
def want (x : List UInt8) (l : List (List UInt8)) : Res Unit := andT (next l) fun w r => if w = x then .ok ((),r) else .error 2
def nameT (l : List (List UInt8)) : Res (List UInt8) := andT (next l) fun w r => if isName w = true then .ok (w,r) else .error 7
def numT (low high : Int) (l : List (List UInt8)) : Res Int := andT (next l) fun w r =>
 if isNum w = true then (if (val w : Int) < low ∨ high < (val w : Int) then .error 3 else .ok ((val w : Int),r)) else .error 2
def labT (l : List (List UInt8)) : Res Bool := andT (next l) fun w r =>
 if w = [115,101,99] then .ok (true,r) else if w = [112,117,98] then .ok (false,r) else .error 2
def manyT {α : Type} (f : List (List UInt8) → Res α) : Nat → List (List UInt8) → Res (List α)
 | 0,l => .ok ([],l)
 | n + 1,l => andT (f l) fun a r => andT (manyT f n r) fun as q => .ok (a :: as,q)
def uptoT {α : Type} (f : List (List UInt8) → Res α) : Nat → List (List UInt8) → Res (List α)
 | 0,l => .error 8
 | n + 1,l => if l.head? = some [41] then .ok ([],l.tail) else andT (f l) fun a r => andT (uptoT f n r) fun as q => .ok (a :: as,q)
def headT (k : List UInt8) (q : List (List UInt8)) : Res (Int × Int × List UInt8) :=
 if k = [115,101,108] then .ok ((4,0,[]),q) else if k = [97,116] then andT (nameT q) fun x r => .ok ((5,0,x),r) else if signOf k = 0 then .error 1 else .ok ((3,(signOf k : Nat),[]),q)
def arity (k : Int) : Nat := if k = 4 then 3 else if k = 5 then 1 else 2
def exprT : Nat → List (List UInt8) → Res Ex
 | 0,_ => .error 9
 | m + 1,l => andT (next l) fun w r =>
  if w = [40] then andT (next r) fun k q => andT (headT k q) fun h q => andT (manyT (exprT m) (arity h.1) q) fun as q => andT (want [41] q) fun _ q => .ok (⟨h.1,h.2.1,h.2.2,as⟩,q)
  else if isNum w = true then .ok (⟨1,(val w : Int),[],[]⟩,r) else if isName w = true then .ok (⟨2,0,w,[]⟩,r) else .error 7
def kindOf (k : List UInt8) : Int := if k = [108,101,116] then 1 else if k = [115,101,116] then 2 else if k = [112,117,116] then 3 else if k = [105,102] then 4 else if k = [102,111,114] then 5 else if k = [114,101,116] then 6 else 0
def stmtT : Nat → List (List UInt8) → Res St
 | 0,_ => .error 9
 | m + 1,l => andT (want [40] l) fun _ l => andT (next l) fun k l =>
  if kindOf k = 1 then andT (labT l) fun s l => andT (nameT l) fun x l => andT (exprT m l) fun a l => andT (want [41] l) fun _ l => .ok (⟨1,0,x,s,[a],[],[]⟩,l)
  else if kindOf k = 2 then andT (nameT l) fun x l => andT (exprT m l) fun a l => andT (want [41] l) fun _ l => .ok (⟨2,0,x,false,[a],[],[]⟩,l)
  else if kindOf k = 3 then andT (nameT l) fun x l => andT (exprT m l) fun a l => andT (exprT m l) fun b l => andT (want [41] l) fun _ l => .ok (⟨3,0,x,false,[a,b],[],[]⟩,l)
  else if kindOf k = 4 then andT (exprT m l) fun a l => andT (want [40] l) fun _ l => andT (uptoT (stmtT m) (l.length + 1) l) fun t l => andT (want [40] l) fun _ l =>
   andT (uptoT (stmtT m) (l.length + 1) l) fun e l => andT (want [41] l) fun _ l => .ok (⟨4,0,[],false,[a],t,e⟩,l)
  else if kindOf k = 5 then andT (nameT l) fun x l => andT (numT 0 8 l) fun n l => andT (uptoT (stmtT m) (l.length + 1) l) fun t l => .ok (⟨5,n,x,false,[],t,[]⟩,l)
  else if kindOf k = 6 then andT (exprT m l) fun a l => andT (want [41] l) fun _ l => .ok (⟨6,0,[],false,[a],[],[]⟩,l)
  else .error 1
def varT (l : List (List UInt8)) : Res Vr := andT (want [40] l) fun _ l => andT (labT l) fun s l => andT (nameT l) fun x l => andT (want [41] l) fun _ l => .ok (⟨x,s,0⟩,l)
def arrT (l : List (List UInt8)) : Res Vr := andT (want [40] l) fun _ l => andT (labT l) fun s l => andT (nameT l) fun x l => andT (numT 1 8 l) fun n l => andT (want [41] l) fun _ l => .ok (⟨x,s,n⟩,l)
def fnT (l : List (List UInt8)) : Res Fn := andT (want [40] l) fun _ l => andT (want [102,110] l) fun _ l => andT (want [40] l) fun _ l => andT (uptoT varT (l.length + 1) l) fun ps l =>
 andT (want [40] l) fun _ l => andT (uptoT arrT (l.length + 1) l) fun rs l => andT (uptoT (stmtT 9) (l.length + 1) l) fun b l => if l = [] then .ok (⟨ps,rs,b⟩,l) else .error 2
def toksE : Nat → Ex → List (List UInt8)
 | 0,_ => []
 | m + 1,e => if e.kind = 1 then [Lib.decDigits e.n.toNat] else if e.kind = 2 then [e.name] else
  if e.kind = 3 then [40] :: sign e.n.toNat :: (e.args.flatMap (toksE m) ++ [[41]]) else
  if e.kind = 4 then [40] :: [115,101,108] :: (e.args.flatMap (toksE m) ++ [[41]]) else [40] :: [97,116] :: e.name :: (e.args.flatMap (toksE m) ++ [[41]])
def wfE : Nat → Ex → Prop
 | 0,_ => False
 | m + 1,e => (e.kind = 1 ∧ 0 ≤ e.n ∧ e.n ≤ 4294967295 ∧ e.name = [] ∧ e.args = []) ∨ (e.kind = 2 ∧ e.n = 0 ∧ isName e.name = true ∧ e.args = []) ∨
  (e.kind = 3 ∧ 1 ≤ e.n ∧ e.n ≤ 12 ∧ e.name = [] ∧ e.args.length = 2 ∧ ∀ a ∈ e.args,wfE m a) ∨ (e.kind = 4 ∧ e.n = 0 ∧ e.name = [] ∧ e.args.length = 3 ∧ ∀ a ∈ e.args,wfE m a) ∨
  (e.kind = 5 ∧ e.n = 0 ∧ isName e.name = true ∧ e.args.length = 1 ∧ ∀ a ∈ e.args,wfE m a)
theorem manyT_inv {α : Type} {f : List (List UInt8) → Res α} {P : α → Prop} (hf : ∀ l a r,f l = .ok (a,r) → P a) : ∀ (n : Nat) (l : List (List UInt8)) (as : List α) (r : List (List UInt8)),manyT f n l = .ok (as,r) → as.length = n ∧ ∀ a ∈ as,P a
 | 0,l,as,r,h => by
  simp only [manyT,Except.ok.injEq,Prod.mk.injEq] at h
  rw [← h.1]; simp
 | n + 1,l,as,r,h => by
  rw [manyT] at h
  obtain ⟨a,r1,h1,h2⟩ := andT_inv h
  obtain ⟨bs,r2,h3,h4⟩ := andT_inv h2
  simp only [Except.ok.injEq,Prod.mk.injEq] at h4
  obtain ⟨e1,e2⟩ := manyT_inv hf n r1 bs r2 h3
  rw [← h4.1]
  refine ⟨by simp [e1],fun x hx => ?_⟩
  rcases List.mem_cons.1 hx with e | e
  ·rw [e]; exact hf _ _ _ h1
  ·exact e2 x e
theorem sign_of : ∀ k : Nat,1 ≤ k → k ≤ 12 → signOf (sign k) = k ∧ sign k ≠ [115,101,108] ∧ sign k ≠ [97,116] := by
 intro k h1 h2
 have : ∀ j : Fin 12,signOf (sign (j.val + 1)) = j.val + 1 ∧ sign (j.val + 1) ≠ [115,101,108] ∧ sign (j.val + 1) ≠ [97,116] := by decide
 have := this ⟨k - 1,by omega⟩
 rwa [show (⟨k - 1,by omega⟩ : Fin 12).val + 1 = k by simp; omega] at this
theorem signOf_le (k : List UInt8) : signOf k ≤ 12 := by
 unfold signOf
 split
 ·rename_i h
  have := List.idxOf_lt_length_of_mem h
  have hl : signs.length = 12 := by decide
  omega
 ·omega
theorem exprT_wf : ∀ (m : Nat) (l : List (List UInt8)) (e : Ex) (r : List (List UInt8)),exprT m l = .ok (e,r) → wfE m e
 | 0,l,e,r,h => by cases h
 | m + 1,l,e,r,h => by
  rw [exprT] at h
  obtain ⟨w,r1,h1,h2⟩ := andT_inv h
  clear h h1
  by_cases hw : w = [40]
  ·rw [if_pos hw] at h2
   obtain ⟨k,q1,h3,h4⟩ := andT_inv h2
   obtain ⟨hd,q2,h5,h6⟩ := andT_inv h4
   obtain ⟨as,q3,h7,h8⟩ := andT_inv h6
   obtain ⟨_,q4,h9,h10⟩ := andT_inv h8
   simp only [Except.ok.injEq,Prod.mk.injEq] at h10
   obtain ⟨e1,e2⟩ := manyT_inv (fun l a r hh => exprT_wf m l a r hh) _ _ _ _ h7
   clear h2 h4 h6 h8 h7 h9 h3
   rw [← h10.1]
   unfold headT at h5
   by_cases k1 : k = [115,101,108]
   ·rw [if_pos k1] at h5
    simp only [Except.ok.injEq,Prod.mk.injEq] at h5
    rw [← h5.1] at e1 ⊢
    exact .inr (.inr (.inr (.inl ⟨rfl,rfl,rfl,e1,e2⟩)))
   ·rw [if_neg k1] at h5
    by_cases k2 : k = [97,116]
    ·rw [if_pos k2] at h5
     obtain ⟨x,q5,h11,h12⟩ := andT_inv h5
     simp only [Except.ok.injEq,Prod.mk.injEq] at h12
     obtain ⟨y,q6,h13,h14⟩ := andT_inv h11
     by_cases hn : isName y = true
     ·rw [if_pos hn] at h14
      simp only [Except.ok.injEq,Prod.mk.injEq] at h14
      rw [← h12.1] at e1 ⊢
      exact .inr (.inr (.inr (.inr ⟨rfl,rfl,by rw [← h14.1]; exact hn,e1,e2⟩)))
     ·rw [if_neg hn] at h14; cases h14
    ·rw [if_neg k2] at h5
     by_cases k3 : signOf k = 0
     ·rw [if_pos k3] at h5; cases h5
     ·rw [if_neg k3] at h5
      simp only [Except.ok.injEq,Prod.mk.injEq] at h5
      have := signOf_le k
      rw [← h5.1] at e1 ⊢
      exact .inr (.inr (.inl ⟨rfl,by show (1 : Int) ≤ ((signOf k : Nat) : Int); omega,by show ((signOf k : Nat) : Int) ≤ 12; omega,rfl,e1,e2⟩))
  ·rw [if_neg hw] at h2
   by_cases hn : isNum w = true
   ·rw [if_pos hn] at h2
    simp only [Except.ok.injEq,Prod.mk.injEq] at h2
    obtain ⟨_,_,_,_,h5⟩ := num_parts hn
    rw [← h2.1]
    exact .inl ⟨rfl,by show (0 : Int) ≤ ((val w : Nat) : Int); omega,by show ((val w : Nat) : Int) ≤ 4294967295; omega,rfl,rfl⟩
   ·rw [if_neg hn] at h2
    by_cases hx : isName w = true
    ·rw [if_pos hx] at h2
     simp only [Except.ok.injEq,Prod.mk.injEq] at h2
     rw [← h2.1]
     exact .inr (.inl ⟨rfl,rfl,hx,rfl⟩)
    ·rw [if_neg hx] at h2; cases h2
set_option linter.unusedSimpArgs false
theorem uptoT_inv {α : Type} {f : List (List UInt8) → Res α} {P : α → Prop} (hf : ∀ l a r,f l = .ok (a,r) → P a) : ∀ (n : Nat) (l : List (List UInt8)) (as : List α) (r : List (List UInt8)),uptoT f n l = .ok (as,r) → ∀ a ∈ as,P a
 | 0,l,as,r,h => by cases h
 | n + 1,l,as,r,h => by
  rw [uptoT] at h
  by_cases hb : l.head? = some [41]
  ·rw [if_pos hb] at h
   simp only [Except.ok.injEq,Prod.mk.injEq] at h
   rw [← h.1]; simp
  ·rw [if_neg hb] at h
   obtain ⟨a,r1,h1,h2⟩ := andT_inv h
   obtain ⟨bs,r2,h3,h4⟩ := andT_inv h2
   simp only [Except.ok.injEq,Prod.mk.injEq] at h4
   rw [← h4.1]
   intro x hx
   rcases List.mem_cons.1 hx with e | e
   ·rw [e]; exact hf _ _ _ h1
   ·exact uptoT_inv hf n r1 bs r2 h3 x e
theorem flat_len {α : Type} {toks : α → List (List UInt8)} : ∀ (as : List α),(∀ a ∈ as,(toks a).head? = some [40]) → as.length ≤ (as.flatMap toks).length
 | [],_ => by simp
 | a :: as,h => by
  have h1 := h a (by simp)
  have h2 := flat_len as (fun b hb => h b (by simp [hb]))
  rw [List.flatMap_cons,List.length_append,List.length_cons]
  cases ht : toks a with
  | nil => rw [ht] at h1; cases h1
  | cons x y => rw [List.length_cons]; omega
def lab (s : Bool) : List UInt8 := if s then [115,101,99] else [112,117,98]
theorem wantT_toks (x : List UInt8) (r : List (List UInt8)) : want x (x :: r) = .ok ((),r) := by
 unfold want
 rw [next,andT_ok,if_pos rfl]
theorem nameT_inv {l r : List (List UInt8)} {x : List UInt8} (h : nameT l = .ok (x,r)) : isName x = true := by
 obtain ⟨y,q,h1,h2⟩ := andT_inv h
 by_cases hn : isName y = true
 ·rw [if_pos hn] at h2
  simp only [Except.ok.injEq,Prod.mk.injEq] at h2
  rw [← h2.1]; exact hn
 ·rw [if_neg hn] at h2; cases h2
theorem numT_inv {low high n : Int} {l r : List (List UInt8)} (h : numT low high l = .ok (n,r)) : low ≤ n ∧ n ≤ high := by
 obtain ⟨y,q,h1,h2⟩ := andT_inv h
 by_cases hn : isNum y = true
 ·rw [if_pos hn] at h2
  by_cases hr : (val y : Int) < low ∨ high < (val y : Int)
  ·rw [if_pos hr] at h2; cases h2
  ·rw [if_neg hr] at h2
   simp only [Except.ok.injEq,Prod.mk.injEq] at h2
   rw [← h2.1]; omega
 ·rw [if_neg hn] at h2; cases h2
def toksS : Nat → St → List (List UInt8)
 | 0,_ => []
 | m + 1,t =>
  if t.kind = 1 then [40] :: [108,101,116] :: lab t.secret :: t.name :: (t.args.flatMap (toksE m) ++ [[41]])
  else if t.kind = 2 then [40] :: [115,101,116] :: t.name :: (t.args.flatMap (toksE m) ++ [[41]])
  else if t.kind = 3 then [40] :: [112,117,116] :: t.name :: (t.args.flatMap (toksE m) ++ [[41]])
  else if t.kind = 4 then [40] :: [105,102] :: (t.args.flatMap (toksE m) ++ [40] :: (t.thn.flatMap (toksS m) ++ [41] :: [40] :: (t.els.flatMap (toksS m) ++ [[41],[41]])))
  else if t.kind = 5 then [40] :: [102,111,114] :: t.name :: Lib.decDigits t.n.toNat :: (t.thn.flatMap (toksS m) ++ [[41]])
  else [40] :: [114,101,116] :: (t.args.flatMap (toksE m) ++ [[41]])
def wfS : Nat → St → Prop
 | 0,_ => False
 | m + 1,t => ((t.kind = 1 ∧ isName t.name = true) ∨ (t.kind = 2 ∧ isName t.name = true ∧ t.secret = false) ∨ (t.kind = 6 ∧ t.name = [] ∧ t.secret = false)) ∧ t.n = 0 ∧ t.thn = [] ∧ t.els = [] ∧ (∃ a,t.args = [a] ∧ wfE m a) ∨
  (t.kind = 3 ∧ isName t.name = true ∧ t.secret = false ∧ t.n = 0 ∧ t.thn = [] ∧ t.els = [] ∧ ∃ a b,t.args = [a,b] ∧ wfE m a ∧ wfE m b) ∨
  (t.kind = 4 ∧ t.name = [] ∧ t.secret = false ∧ t.n = 0 ∧ (∃ a,t.args = [a] ∧ wfE m a) ∧ (∀ u ∈ t.thn,wfS m u) ∧ ∀ u ∈ t.els,wfS m u) ∨
  (t.kind = 5 ∧ isName t.name = true ∧ t.secret = false ∧ 0 ≤ t.n ∧ t.n ≤ 8 ∧ t.args = [] ∧ t.els = [] ∧ ∀ u ∈ t.thn,wfS m u)
theorem stmtT_wf : ∀ (m : Nat) (l : List (List UInt8)) (t : St) (r : List (List UInt8)),stmtT m l = .ok (t,r) → wfS m t
 | 0,l,t,r,h => by cases h
 | m + 1,l,t,r,h => by
  rw [stmtT] at h
  obtain ⟨_,l1,_,h⟩ := andT_inv h
  obtain ⟨k,l2,_,h⟩ := andT_inv h
  have hU := fun n l us r hh => uptoT_inv (fun l a r hh => stmtT_wf m l a r hh) n l us r hh
  by_cases k1 : kindOf k = 1
  ·rw [if_pos k1] at h
   obtain ⟨s,_,_,h⟩ := andT_inv h
   obtain ⟨x,_,hx,h⟩ := andT_inv h
   obtain ⟨a,_,ha,h⟩ := andT_inv h
   obtain ⟨_,_,_,h⟩ := andT_inv h
   simp only [Except.ok.injEq,Prod.mk.injEq] at h
   rw [← h.1]
   exact .inl ⟨.inl ⟨rfl,nameT_inv hx⟩,rfl,rfl,rfl,a,rfl,exprT_wf m _ _ _ ha⟩
  rw [if_neg k1] at h
  by_cases k2 : kindOf k = 2
  ·rw [if_pos k2] at h
   obtain ⟨x,_,hx,h⟩ := andT_inv h
   obtain ⟨a,_,ha,h⟩ := andT_inv h
   obtain ⟨_,_,_,h⟩ := andT_inv h
   simp only [Except.ok.injEq,Prod.mk.injEq] at h
   rw [← h.1]
   exact .inl ⟨.inr (.inl ⟨rfl,nameT_inv hx,rfl⟩),rfl,rfl,rfl,a,rfl,exprT_wf m _ _ _ ha⟩
  rw [if_neg k2] at h
  by_cases k3 : kindOf k = 3
  ·rw [if_pos k3] at h
   obtain ⟨x,_,hx,h⟩ := andT_inv h
   obtain ⟨a,_,ha,h⟩ := andT_inv h
   obtain ⟨b,_,hb,h⟩ := andT_inv h
   obtain ⟨_,_,_,h⟩ := andT_inv h
   simp only [Except.ok.injEq,Prod.mk.injEq] at h
   rw [← h.1]
   exact .inr (.inl ⟨rfl,nameT_inv hx,rfl,rfl,rfl,rfl,a,b,rfl,exprT_wf m _ _ _ ha,exprT_wf m _ _ _ hb⟩)
  rw [if_neg k3] at h
  by_cases k4 : kindOf k = 4
  ·rw [if_pos k4] at h
   obtain ⟨a,_,ha,h⟩ := andT_inv h
   obtain ⟨_,_,_,h⟩ := andT_inv h
   obtain ⟨t1,_,ht,h⟩ := andT_inv h
   obtain ⟨_,_,_,h⟩ := andT_inv h
   obtain ⟨t2,_,he,h⟩ := andT_inv h
   obtain ⟨_,_,_,h⟩ := andT_inv h
   simp only [Except.ok.injEq,Prod.mk.injEq] at h
   rw [← h.1]
   exact .inr (.inr (.inl ⟨rfl,rfl,rfl,rfl,⟨a,rfl,exprT_wf m _ _ _ ha⟩,hU _ _ _ _ ht,hU _ _ _ _ he⟩))
  rw [if_neg k4] at h
  by_cases k5 : kindOf k = 5
  ·rw [if_pos k5] at h
   obtain ⟨x,_,hx,h⟩ := andT_inv h
   obtain ⟨n,_,hn,h⟩ := andT_inv h
   obtain ⟨t1,_,ht,h⟩ := andT_inv h
   simp only [Except.ok.injEq,Prod.mk.injEq] at h
   rw [← h.1]
   exact .inr (.inr (.inr ⟨rfl,nameT_inv hx,rfl,(numT_inv hn).1,(numT_inv hn).2,rfl,rfl,hU _ _ _ _ ht⟩))
  rw [if_neg k5] at h
  by_cases k6 : kindOf k = 6
  ·rw [if_pos k6] at h
   obtain ⟨a,_,ha,h⟩ := andT_inv h
   obtain ⟨_,_,_,h⟩ := andT_inv h
   simp only [Except.ok.injEq,Prod.mk.injEq] at h
   rw [← h.1]
   exact .inl ⟨.inr (.inr ⟨rfl,rfl,rfl⟩),rfl,rfl,rfl,a,rfl,exprT_wf m _ _ _ ha⟩
  rw [if_neg k6] at h
  cases h
def wfP (v : Vr) : Prop := isName v.name = true ∧ v.size = 0
def wfA (v : Vr) : Prop := isName v.name = true ∧ 1 ≤ v.size ∧ v.size ≤ 8
def wfF (f : Fn) : Prop := (∀ v ∈ f.params,wfP v) ∧ (∀ v ∈ f.arrays,wfA v) ∧ ∀ t ∈ f.body,wfS 9 t
theorem varT_wf (l : List (List UInt8)) (v : Vr) (r : List (List UInt8)) (h : varT l = .ok (v,r)) : wfP v := by
 unfold varT at h
 obtain ⟨_,_,_,h⟩ := andT_inv h
 obtain ⟨s,_,_,h⟩ := andT_inv h
 obtain ⟨x,_,hx,h⟩ := andT_inv h
 obtain ⟨_,_,_,h⟩ := andT_inv h
 simp only [Except.ok.injEq,Prod.mk.injEq] at h
 rw [← h.1]
 exact ⟨nameT_inv hx,rfl⟩
theorem arrT_wf (l : List (List UInt8)) (v : Vr) (r : List (List UInt8)) (h : arrT l = .ok (v,r)) : wfA v := by
 unfold arrT at h
 obtain ⟨_,_,_,h⟩ := andT_inv h
 obtain ⟨s,_,_,h⟩ := andT_inv h
 obtain ⟨x,_,hx,h⟩ := andT_inv h
 obtain ⟨n,_,hn,h⟩ := andT_inv h
 obtain ⟨_,_,_,h⟩ := andT_inv h
 simp only [Except.ok.injEq,Prod.mk.injEq] at h
 rw [← h.1]
 exact ⟨nameT_inv hx,numT_inv hn⟩
theorem fnT_wf {l : List (List UInt8)} {f : Fn} {r : List (List UInt8)} (h : fnT l = .ok (f,r)) : wfF f := by
 unfold fnT at h
 obtain ⟨_,_,_,h⟩ := andT_inv h
 obtain ⟨_,_,_,h⟩ := andT_inv h
 obtain ⟨_,_,_,h⟩ := andT_inv h
 obtain ⟨ps,_,hp,h⟩ := andT_inv h
 obtain ⟨_,_,_,h⟩ := andT_inv h
 obtain ⟨rs,_,hr,h⟩ := andT_inv h
 obtain ⟨b,q,hb,h⟩ := andT_inv h
 by_cases hq : q = []
 ·rw [if_pos hq] at h
  simp only [Except.ok.injEq,Prod.mk.injEq] at h
  rw [← h.1]
  exact ⟨uptoT_inv varT_wf _ _ _ _ hp,uptoT_inv arrT_wf _ _ _ _ hr,uptoT_inv (fun l a r hh => stmtT_wf 9 l a r hh) _ _ _ _ hb⟩
 ·rw [if_neg hq] at h; cases h
end Go.Proofs.YtemdnmfldihalaaGreatDoor.Lg
