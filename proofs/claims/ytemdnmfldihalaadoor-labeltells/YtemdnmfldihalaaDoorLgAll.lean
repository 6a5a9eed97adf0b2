/- Which texts are words in tens. No Go in it. A text is a word in tens just if it is what the number that it spells is written as. No Go in it. Programs as trees and as lists of words: a text's words; what a list of words is read as; how a program is written; there and back; blanks are no matter. No Go in it. Programs as trees; what a list of words is read as; how a tree is written as words; a tree that was read comes back from its words. No Go in it. Statements and programs: their words; one that was read comes back from its words. No Go in it. How a program is written, sign by sign, and that the words of what is written are its words. No Go in it. What a list of words is read as by the program: a list's parts stand behind their brackets; so much fuel. One that was read comes back from its words. No Go in it. Words laid behind each other, as the program lays them, are what is written; what is read is of its words. No Go in it. What was read is of its words, and these are no more than the text. No Go in it. A fault has a number, and that is never 0. What was read is gone: what is left is shorter. No Go in it. What is wrong with a program, in plain words: names, labels, how much is done. Where all is public nothing is hidden. No Go in it. -/
import Derived.Lib.Strings
import Derived.WalkKit
import Derived.Lib.AtoiAll
import Derived.Lib.ItoaNum
import Derived.Lib.ItoaMem
namespace Go.Proofs.YtemdnmfldihalaaDoor.Wd
set_option linter.unusedVariables false

/-- The number that digits write, in tens. -/
def val (l : List UInt8) : Nat := l.foldl (fun n c => n * 10 + (c.toNat - 48)) 0
def dig (c : UInt8) : Bool := decide (48 ≤ c.toNat ∧ c.toNat ≤ 57)
/-- A word in tens, without a needless 0 or a sign. -/
def isNum (l : List UInt8) : Bool :=
  decide (1 ≤ l.length ∧ l.length ≤ 10 ∧ ¬ (1 < l.length ∧ l[0]? = some 48) ∧ (∀ c ∈ l, dig c = true) ∧ val l ≤ 4294967295)

theorem isNum_mk {l : List UInt8} (h : 1 ≤ l.length ∧ l.length ≤ 10 ∧ ¬ (1 < l.length ∧ l[0]? = some 48) ∧ (∀ c ∈ l, dig c = true) ∧ val l ≤ 4294967295) : isNum l = true := decide_eq_true h
theorem isNum_no {l : List UInt8} (h : ¬ (1 ≤ l.length ∧ l.length ≤ 10 ∧ ¬ (1 < l.length ∧ l[0]? = some 48) ∧ (∀ c ∈ l, dig c = true) ∧ val l ≤ 4294967295)) : isNum l = false := decide_eq_false h

theorem val_snoc (l : List UInt8) (c : UInt8) : val (l ++ [c]) = val l * 10 + (c.toNat - 48) := by
  unfold val; rw [List.foldl_append]; rfl

theorem val_lt : ∀ (n : Nat) (l : List UInt8), l.length = n → (∀ c ∈ l, dig c = true) → val l < 10 ^ n := by
  intro n
  induction n with
  | zero => intro l hl _; have : l = [] := List.eq_nil_of_length_eq_zero hl
            subst this; decide
  | succ n ih =>
    intro l hl hd
    have hne : l ≠ [] := by intro h; subst h; simp at hl
    have e := List.dropLast_concat_getLast hne
    have h1 := ih l.dropLast (by simp; omega) (fun c hc => hd c (List.dropLast_subset l hc))
    have h2 := hd (l.getLast hne) (List.getLast_mem hne)
    unfold dig at h2
    have h3 := of_decide_eq_true h2
    rw [← e, val_snoc, Nat.pow_succ]
    omega

theorem take_snoc (s : ByteArray) (k : Nat) (h : k < s.size) : s.data.toList.take (k + 1) = s.data.toList.take k ++ [s[k]] := by
  rw [List.take_succ_eq_append_getElem (by simpa using h)]; rfl

theorem size_len (s : ByteArray) : s.data.toList.length = s.size := by simp
theorem first_of (s : ByteArray) (h : 0 < s.size) : s.data.toList[0]? = some s[0] := by
  rw [List.getElem?_eq_getElem (by simpa using h)]; rfl
theorem u8_48 (c : UInt8) : c = 48 ↔ c.toNat = 48 := by
  constructor
  · intro h; subst h; rfl
  · intro h; exact UInt8.toNat_inj.1 h

/-- What Number answers. -/
def numV (l : List UInt8) : Int := if isNum l then (val l : Int) else 0
theorem numV_yes {l : List UInt8} (h : isNum l = true) : numV l = val l := by unfold numV; rw [if_pos h]
theorem numV_no {l : List UInt8} (h : isNum l = false) : numV l = 0 := by unfold numV; rw [h]; rfl
end Go.Proofs.YtemdnmfldihalaaDoor.Wd
namespace Go.Proofs.YtemdnmfldihalaaDoor.Rf
set_option linter.unusedVariables false
open Wd

theorem u8_of (u : Nat) (h : u < 10) : (UInt8.ofNat (48 + u)).toNat = 48 + u := by
  show (48 + u) % 256 = 48 + u
  omega
theorem dig_of (u : Nat) (h : u < 10) : dig (UInt8.ofNat (48 + u)) = true := decide_eq_true (by rw [u8_of u h]; omega)

theorem val_one (c : UInt8) : val [c] = c.toNat - 48 := by simp [val]

theorem digits_snoc {l : List UInt8} {c : UInt8} (h : ∀ x ∈ l ++ [c], dig x = true) : (∀ x ∈ l, dig x = true) ∧ 48 ≤ c.toNat ∧ c.toNat ≤ 57 := by
  refine ⟨fun x hx => h x (by simp [hx]), ?_⟩
  have := h c (by simp)
  unfold dig at this
  exact of_decide_eq_true this

/-- What opens with no 0 is not 0. -/
theorem val_pos : ∀ (n : Nat) (l : List UInt8), l.length = n + 1 → (∀ c ∈ l, dig c = true) → ¬ l[0]? = some 48 → 1 ≤ val l := by
  intro n
  induction n with
  | zero =>
    intro l hl hd h0
    match l, hl with
    | [c], _ =>
      have := hd c (by simp)
      unfold dig at this
      have hc := of_decide_eq_true this
      have hne : ¬ c.toNat = 48 := fun e => h0 (by rw [(u8_48 c).2 e]; rfl)
      rw [val_one]; omega
  | succ n ih =>
    intro l hl hd h0
    have hne : l ≠ [] := by intro h; subst h; simp at hl
    have e := List.dropLast_concat_getLast hne
    have hlen : l.dropLast.length = n + 1 := by simp; omega
    rw [← e] at hd
    obtain ⟨h1, _, _⟩ := digits_snoc hd
    have h2 := ih l.dropLast hlen h1 (by
      intro h; refine h0 ?_
      rw [← e, List.getElem?_append_left (by omega)]; exact h)
    rw [← e, val_snoc]
    omega

/-- What is spelt without a needless 0 is written as it was. -/
theorem dec_val : ∀ (n : Nat) (l : List UInt8), l.length = n + 1 → (∀ c ∈ l, dig c = true) → ¬ (1 < l.length ∧ l[0]? = some 48) → Lib.decDigits (val l) = l := by
  intro n
  induction n with
  | zero =>
    intro l hl hd _
    match l, hl with
    | [c], _ =>
      have := hd c (by simp)
      unfold dig at this
      have hc := of_decide_eq_true this
      rw [val_one, Lib.decDigits_one (by omega)]
      have : UInt8.ofNat (48 + (c.toNat - 48)) = c := UInt8.toNat_inj.1 (by rw [u8_of _ (by omega)]; omega)
      rw [this]
  | succ n ih =>
    intro l hl hd h0
    have hne : l ≠ [] := by intro h; subst h; simp at hl
    have e := List.dropLast_concat_getLast hne
    have hlen : l.dropLast.length = n + 1 := by simp; omega
    have hd' := hd
    rw [← e] at hd'
    obtain ⟨h1, c0, c1⟩ := digits_snoc hd'
    have h48 : ¬ l.dropLast[0]? = some 48 := by
      intro h; refine h0 ⟨by omega, ?_⟩
      rw [← e, List.getElem?_append_left (by omega)]; exact h
    have h2 := ih l.dropLast hlen h1 (fun h => h48 h.2)
    have h3 := val_pos n l.dropLast hlen h1 h48
    have ev : val l = val l.dropLast * 10 + ((l.getLast hne).toNat - 48) := by rw [← val_snoc, e]
    rw [Lib.decDigits, dif_neg (by omega)]
    have e1 : val l / 10 = val l.dropLast := by omega
    have e2 : val l % 10 = (l.getLast hne).toNat - 48 := by omega
    rw [e1, e2, h2]
    have : UInt8.ofNat (48 + ((l.getLast hne).toNat - 48)) = l.getLast hne := UInt8.toNat_inj.1 (by rw [u8_of _ (by omega)]; omega)
    rw [this, e]

/-- What a number is written as: digits, without a needless 0, that spell it. -/
theorem dec_facts (n : Nat) : ∀ u : Nat, u < n → (∀ c ∈ Lib.decDigits u, dig c = true) ∧ val (Lib.decDigits u) = u ∧ 1 ≤ (Lib.decDigits u).length ∧ ((Lib.decDigits u)[0]? = some 48 → u = 0) := by
  induction n with
  | zero => intro u h; omega
  | succ n ih =>
    intro u hu
    by_cases h : u < 10
    · rw [Lib.decDigits_one h]
      refine ⟨fun c hc => ?_, ?_, by simp, fun h0 => ?_⟩
      · have : c = UInt8.ofNat (48 + u) := by simpa using hc
        rw [this]; exact dig_of u h
      · rw [val_one, u8_of u h]; omega
      · have h1 : UInt8.ofNat (48 + u) = 48 := by simpa using h0
        have h2 := (u8_48 _).1 h1
        rw [u8_of u h] at h2; omega
    · rw [Lib.decDigits, dif_neg h]
      obtain ⟨a1, a2, a3, a4⟩ := ih (u / 10) (by omega)
      refine ⟨fun c hc => ?_, ?_, by simp, fun h0 => ?_⟩
      · rcases List.mem_append.1 hc with hc | hc
        · exact a1 c hc
        · have : c = UInt8.ofNat (48 + u % 10) := by simpa using hc
          rw [this]; exact dig_of _ (by omega)
      · rw [val_snoc, a2, u8_of _ (by omega)]; omega
      · rw [List.getElem?_append_left (by omega)] at h0
        have := a4 h0
        omega

theorem isNum_dec (u : Nat) (h : u ≤ 4294967295) : isNum (Lib.decDigits u) = true := by
  obtain ⟨a1, a2, a3, a4⟩ := dec_facts (u + 1) u (by omega)
  refine isNum_mk ⟨a3, ?_, fun hh => ?_, a1, by omega⟩
  · rw [Lib.decDigits_length]
    have hp := Lib.nDigits_pos u
    by_cases hlt : Lib.nDigits u ≤ 10
    · exact hlt
    · exfalso
      have hl := val_lt
      -- ten to the tenth is more than a word
      have hge : ∀ k u : Nat, Lib.nDigits u = k + 1 → 1 ≤ k → 10 ^ k ≤ u := by
        intro k
        induction k with
        | zero => intro u _ h; omega
        | succ k ihk =>
          intro u hk _
          by_cases hu : u < 10
          · rw [Lib.nDigits_small hu] at hk; omega
          · rw [Lib.nDigits_big hu] at hk
            by_cases hk0 : k = 0
            · subst hk0; simp; omega
            · have := ihk (u / 10) (by omega) (by omega)
              rw [Nat.pow_succ]
              omega
      have h1 := hge (Lib.nDigits u - 1) u (by omega) (by omega)
      have h2 : 10 ^ 10 ≤ 10 ^ (Lib.nDigits u - 1) := Nat.pow_le_pow_right (by decide) (by omega)
      have h3 : (10 : Nat) ^ 10 = 10000000000 := by decide
      omega
  · have := a4 hh.2
    subst this
    have : (Lib.decDigits 0).length = 1 := by rw [Lib.decDigits_length]; exact Lib.nDigits_small (by decide)
    omega

theorem num_parts {l : List UInt8} (h : isNum l = true) : 1 ≤ l.length ∧ l.length ≤ 10 ∧ ¬ (1 < l.length ∧ l[0]? = some 48) ∧ (∀ c ∈ l, dig c = true) ∧ val l ≤ 4294967295 := of_decide_eq_true h

theorem dec_of_num {l : List UInt8} (h : isNum l = true) : Lib.decDigits (val l) = l := by
  obtain ⟨h1, h2, h3, h4, h5⟩ := num_parts h
  exact dec_val (l.length - 1) l (by omega) h4 h3

/-- Digits are parsed to what they spell, while that stays small. -/
theorem parse_digits : ∀ (l : List UInt8) (acc : Nat), (∀ c ∈ l, dig c = true) → (acc + 1) * 10 ^ l.length ≤ 10000000000 → Lib.parseUint10 acc l = .ok (l.foldl (fun n c => n * 10 + (c.toNat - 48)) acc) := by
  intro l
  induction l with
  | nil => intro acc _ _; rfl
  | cons c r ih =>
    intro acc hd hb
    have hc := hd c (by simp)
    unfold dig at hc
    have hc' := of_decide_eq_true hc
    have e : (acc + 1) * 10 ^ (r.length + 1) = (acc + 1) * 10 * 10 ^ r.length := by rw [Nat.pow_succ, Nat.mul_assoc, Nat.mul_comm (10 ^ r.length)]
    have hp : 1 ≤ 10 ^ r.length := Nat.one_le_pow _ _ (by decide)
    have hb2 : (acc * 10 + (c.toNat - 48) + 1) * 10 ^ r.length ≤ 10000000000 := by
      refine Nat.le_trans (Nat.mul_le_mul_right _ (show acc * 10 + (c.toNat - 48) + 1 ≤ (acc + 1) * 10 by omega)) ?_
      rw [← e]; simpa using hb
    have hsmall : acc * 10 + (c.toNat - 48) + 1 ≤ 10000000000 := Nat.le_trans (Nat.le_mul_of_pos_right _ hp) hb2
    rw [Lib.parseUint10, if_pos hc', if_neg (by omega), if_neg (by omega), ih _ (fun x hx => hd x (by simp [hx])) hb2]
    rfl

theorem atoi_of_num {l : List UInt8} (h : isNum l = true) : Lib.atoiAll l = .ok (val l : Int) := by
  obtain ⟨h1, h2, h3, h4, h5⟩ := num_parts h
  match l, h1, h2, h4, h5 with
  | c :: r, h1, h2, h4, h5 =>
    have hc := h4 c (by simp)
    unfold dig at hc
    have hc' := of_decide_eq_true hc
    have hb : (0 + 1) * 10 ^ (c :: r).length ≤ 10000000000 := by
      rw [Nat.zero_add, Nat.one_mul]
      exact Nat.le_trans (Nat.pow_le_pow_right (by decide) h2) (by decide)
    have hp := parse_digits (c :: r) 0 h4 hb
    unfold Lib.atoiAll
    have e43 : (if c.toNat = 43 ∨ c.toNat = 45 then r else c :: r) = c :: r := if_neg (by omega)
    have em : Lib.parseMag (c :: r) = Lib.parseUint10 0 (c :: r) := by unfold Lib.parseMag; rw [if_neg (by simp)]
    simp only [e43, em, hp]
    show (if ¬ c.toNat = 45 ∧ 9223372036854775808 ≤ val (c :: r) then _ else if c.toNat = 45 ∧ 9223372036854775808 < val (c :: r) then _ else Lib.NumEnd.ok (if c.toNat = 45 then -(val (c :: r) : Int) else (val (c :: r) : Int))) = _
    rw [if_neg (by omega), if_neg (by omega), if_neg (by omega)]

/-- THE TIE: a text whose number is v is a word just if v is one and is written so. -/
theorem num_iff {l : List UInt8} {v : Int} (h : Lib.atoiAll l = .ok v) (v0 : 0 ≤ v) (v1 : v < 4294967296) (hw : Lib.itoa v = l) : isNum l = true ∧ v = val l := by
  obtain ⟨u, rfl⟩ := Int.eq_ofNat_of_zero_le v0
  rw [Lib.itoa_nonneg] at hw
  obtain ⟨_, a2, _, _⟩ := dec_facts (u + 1) u (by omega)
  subst hw
  exact ⟨isNum_dec u (by omega), by rw [a2]⟩

theorem num_back {l : List UInt8} (h : isNum l = true) : Lib.itoa (val l : Int) = l := by
  rw [Lib.itoa_nonneg]; exact dec_of_num h
end Go.Proofs.YtemdnmfldihalaaDoor.Rf
namespace Go.Proofs.YtemdnmfldihalaaDoor.Lg
set_option linter.unusedVariables false
open Wd Rf

/-- A blank, or a line feed; what ends a word. -/
def blank (c : UInt8) : Bool := c == 32 || c == 10
def brack (c : UInt8) : Bool := c == 40 || c == 41
def stop (c : UInt8) : Bool := blank c || brack c
/-- A text's words, behind the signs of one that has begun. -/
def flush (cur : List UInt8) (r : List (List UInt8)) : List (List UInt8) := if cur = [] then r else cur :: r
def lex : List UInt8 → List UInt8 → List (List UInt8)
  | [], cur => flush cur []
  | c :: r, cur => if blank c then flush cur (lex r []) else if brack c then flush cur ([c] :: lex r []) else lex r (cur ++ [c])
def words (l : List UInt8) : List (List UInt8) := lex l []

theorem lex_run : ∀ (p r cur : List UInt8), (∀ c ∈ p, stop c = false) → lex (p ++ r) cur = lex r (cur ++ p)
  | [], r, cur, _ => by simp
  | c :: p, r, cur, h => by
    have hc := h c (by simp)
    unfold stop at hc
    rw [Bool.or_eq_false_iff] at hc
    rw [List.cons_append, lex, if_neg (by simp [hc.1]), if_neg (by simp [hc.2]), lex_run p r (cur ++ [c]) (fun x hx => h x (by simp [hx]))]
    simp
/-- The next word, blanks passed by; and what is behind it. -/
def skip (l : List UInt8) : List UInt8 := l.dropWhile blank
def word (l : List UInt8) : List UInt8 := if l.takeWhile (fun c => !stop c) = [] then l.take 1 else l.takeWhile (fun c => !stop c)
def wd (l : List UInt8) : List UInt8 := word (skip l)
def rs (l : List UInt8) : List UInt8 := (skip l).drop (wd l).length

theorem words_blank {c : UInt8} (h : blank c = true) (r : List UInt8) : words (c :: r) = words r := by
  unfold words
  rw [lex, if_pos h]
  rfl
theorem words_skip : ∀ l : List UInt8, words (skip l) = words l
  | [] => rfl
  | c :: r => by
    unfold skip
    rw [List.dropWhile_cons]
    by_cases h : blank c = true
    · rw [if_pos h, words_blank h]; exact words_skip r
    · rw [if_neg h]
theorem skip_head (l : List UInt8) {c : UInt8} {r : List UInt8} (h : skip l = c :: r) : blank c = false := by
  have := List.head?_dropWhile_not blank l
  unfold skip at h
  rw [h] at this
  simpa using this
theorem tw_all (p : UInt8 → Bool) : ∀ (l : List UInt8) (x : UInt8), x ∈ l.takeWhile p → p x = true
  | [], x, h => by simp at h
  | a :: l, x, h => by
    rw [List.takeWhile_cons] at h
    by_cases ha : p a = true
    · rw [if_pos ha] at h
      rcases List.mem_cons.1 h with e | e
      · rw [e]; exact ha
      · exact tw_all p l x e
    · rw [if_neg ha] at h; simp at h
/-- A text's words, one by one. -/
theorem words_step (l : List UInt8) : words l = if skip l = [] then [] else wd l :: words (rs l) := by
  rw [← words_skip l]
  unfold wd rs
  unfold wd
  cases hs : skip l with
  | nil => rw [if_pos rfl]; rfl
  | cons c r =>
    rw [if_neg (by simp)]
    have hb := skip_head l hs
    by_cases hk : brack c = true
    · have hw : word (c :: r) = [c] := by
        have hst : stop c = true := by unfold stop; rw [hk]; simp
        have ht : (c :: r).takeWhile (fun c => !stop c) = [] := by rw [List.takeWhile_cons, if_neg (by simp [hst])]
        unfold word
        rw [if_pos ht]
        rfl
      rw [hw]
      unfold words
      rw [lex, if_neg (by simp [hb]), if_pos hk]
      simp [flush]
    · have hc : stop c = false := by unfold stop; rw [hb]; simpa using hk
      have hne : ¬ (c :: r).takeWhile (fun c => !stop c) = [] := by
        rw [List.takeWhile_cons, if_pos (by simp [hc])]; simp
      have hw : word (c :: r) = (c :: r).takeWhile (fun c => !stop c) := by unfold word; rw [if_neg hne]
      rw [hw]
      have hsplit := List.takeWhile_append_dropWhile (p := fun c => !stop c) (l := c :: r)
      have hdrop : (c :: r).drop ((c :: r).takeWhile (fun c => !stop c)).length = (c :: r).dropWhile (fun c => !stop c) := by
        have := congrArg (List.drop ((c :: r).takeWhile (fun c => !stop c)).length) hsplit
        rw [List.drop_left] at this
        exact this.symm
      rw [hdrop]
      generalize hp : (c :: r).takeWhile (fun c => !stop c) = p at *
      generalize hq : (c :: r).dropWhile (fun c => !stop c) = q at *
      have hps : ∀ x ∈ p, stop x = false := fun x hx => by
        have := tw_all (fun c => !stop c) (c :: r) x (hp ▸ hx)
        simpa using this
      rw [← hsplit]
      unfold words
      rw [lex_run p q [] hps, List.nil_append]
      cases q with
      | nil => simp [lex, flush, hne]
      | cons d q =>
        have hd : stop d = true := by
          have := List.head?_dropWhile_not (fun c => !stop c) (c :: r)
          rw [hq] at this
          simpa using this
        unfold stop at hd
        by_cases hbd : blank d = true
        · rw [lex, if_pos hbd, lex, if_pos hbd]
          simp [flush, hne]
        · have hkd : brack d = true := by simpa [hbd] using hd
          rw [lex, if_neg hbd, if_pos hkd, lex, if_neg hbd, if_pos hkd]
          simp [flush, hne]
theorem wd_none (l : List UInt8) : wd l = [] ↔ skip l = [] := by
  unfold wd word
  cases h : skip l with
  | nil => simp
  | cons c r =>
    simp only [List.takeWhile_cons]
    by_cases hc : stop c = true
    · simp [hc]
    · simp [hc]

/-- Line feeds and blanks around each bracket. -/
def spread : List UInt8 → List UInt8
  | [] => []
  | c :: r => if brack c then 10 :: c :: 32 :: spread r else c :: spread r
theorem lex_spread : ∀ (l cur : List UInt8), lex (spread l) cur = lex l cur
  | [], cur => rfl
  | c :: r, cur => by
    rw [spread]
    by_cases hk : brack c = true
    · have hb : blank c = false := by
        unfold brack at hk
        unfold blank
        rcases Bool.or_eq_true _ _ ▸ hk with h | h
        · rw [beq_iff_eq.1 h]; rfl
        · rw [beq_iff_eq.1 h]; rfl
      rw [if_pos hk, lex, if_pos (by decide), lex, if_neg (by simp [hb]), if_pos hk, lex, if_pos (by decide), lex_spread r [], lex, if_neg (by simp [hb]), if_pos hk]
      simp [flush]
    · rw [if_neg hk, lex]
      by_cases hb : blank c = true
      · rw [if_pos hb, lex_spread r [], lex, if_pos hb]
      · rw [if_neg hb, if_neg hk, lex_spread r (cur ++ [c]), lex, if_neg hb, if_neg hk]
/-- BLANKS ARE NO MATTER: the words are the same. -/
theorem words_spread (l : List UInt8) : words (spread l) = words l := lex_spread l []
end Go.Proofs.YtemdnmfldihalaaDoor.Lg
namespace Go.Proofs.YtemdnmfldihalaaDoor.Lg
set_option linter.unusedVariables false
open Wd Rf

/-- An expression, a statement, a variable, a program. -/
structure Ex where
  kind : Int
  n : Int
  name : List UInt8
  args : List Ex
structure St where
  kind : Int
  n : Int
  name : List UInt8
  secret : Bool
  args : List Ex
  thn : List St
  els : List St
structure Vr where
  name : List UInt8
  secret : Bool
  size : Int
structure Fn where
  params : List Vr
  arrays : List Vr
  body : List St

/-- The words that are no names. -/
def kept : List (List UInt8) := [[102, 110], [112, 117, 98], [115, 101, 99], [108, 101, 116], [115, 101, 116], [112, 117, 116], [105, 102], [102, 111, 114], [114, 101, 116], [115, 101, 108], [97, 116]]
def isName (w : List UInt8) : Bool := decide (1 ≤ w.length ∧ w.length ≤ 6 ∧ (∀ c ∈ w, 97 ≤ c.toNat ∧ c.toNat ≤ 122) ∧ w ∉ kept)
/-- The signs of ops, from the first one on. -/
def signs : List (List UInt8) := [[43], [45], [38], [124], [94], [60, 60], [62, 62], [42], [47], [37], [60], [61]]
def signOf (w : List UInt8) : Nat := if w ∈ signs then signs.idxOf w + 1 else 0
def sign (k : Nat) : List UInt8 := signs.getD (k - 1) []

/-- What comes of reading: what is wrong, or something, and the words behind it. -/
abbrev Res (α : Type) := Except Int (α × List (List UInt8))
def andT {α β : Type} (x : Res α) (f : α → List (List UInt8) → Res β) : Res β := match x with
  | .error e => .error e
  | .ok (a, r) => f a r
theorem andT_ok {α β : Type} (a : α) (r : List (List UInt8)) (f : α → List (List UInt8) → Res β) : andT (.ok (a, r)) f = f a r := rfl
theorem andT_inv {α β : Type} {x : Res α} {f : α → List (List UInt8) → Res β} {b : β} {q : List (List UInt8)} (h : andT x f = .ok (b, q)) : ∃ a r, x = .ok (a, r) ∧ f a r = .ok (b, q) := by
  cases x with
  | error e => cases h
  | ok p => exact ⟨p.1, p.2, rfl, h⟩

def next : List (List UInt8) → Res (List UInt8)
  | [] => .error 8
  | w :: r => .ok (w, r)
def want (x : List UInt8) (l : List (List UInt8)) : Res Unit := andT (next l) fun w r => if w = x then .ok ((), r) else .error 2
def nameT (l : List (List UInt8)) : Res (List UInt8) := andT (next l) fun w r => if isName w = true then .ok (w, r) else .error 7
def numT (low high : Int) (l : List (List UInt8)) : Res Int := andT (next l) fun w r =>
  if isNum w = true then (if (val w : Int) < low ∨ high < (val w : Int) then .error 3 else .ok ((val w : Int), r)) else .error 2
def labT (l : List (List UInt8)) : Res Bool := andT (next l) fun w r =>
  if w = [115, 101, 99] then .ok (true, r) else if w = [112, 117, 98] then .ok (false, r) else .error 2
/-- So many, one behind the other. -/
def manyT {α : Type} (f : List (List UInt8) → Res α) : Nat → List (List UInt8) → Res (List α)
  | 0, l => .ok ([], l)
  | n + 1, l => andT (f l) fun a r => andT (manyT f n r) fun as q => .ok (a :: as, q)
/-- All up to a bracket, which goes. -/
def uptoT {α : Type} (f : List (List UInt8) → Res α) : Nat → List (List UInt8) → Res (List α)
  | 0, l => .error 8
  | n + 1, l => if l.head? = some [41] then .ok ([], l.tail) else andT (f l) fun a r => andT (uptoT f n r) fun as q => .ok (a :: as, q)

/-- An expression's head: its kind, its op, its name. -/
def headT (k : List UInt8) (q : List (List UInt8)) : Res (Int × Int × List UInt8) :=
  if k = [115, 101, 108] then .ok ((4, 0, []), q) else if k = [97, 116] then andT (nameT q) fun x r => .ok ((5, 0, x), r) else if signOf k = 0 then .error 1 else .ok ((3, (signOf k : Nat), []), q)
def arity (k : Int) : Nat := if k = 4 then 3 else if k = 5 then 1 else 2
/-- An expression: m may stand within one another. -/
def exprT : Nat → List (List UInt8) → Res Ex
  | 0, _ => .error 9
  | m + 1, l => andT (next l) fun w r =>
    if w = [40] then andT (next r) fun k q => andT (headT k q) fun h q => andT (manyT (exprT m) (arity h.1) q) fun as q => andT (want [41] q) fun _ q => .ok (⟨h.1, h.2.1, h.2.2, as⟩, q)
    else if isNum w = true then .ok (⟨1, (val w : Int), [], []⟩, r) else if isName w = true then .ok (⟨2, 0, w, []⟩, r) else .error 7

/-- A statement's kind. -/
def kindOf (k : List UInt8) : Int := if k = [108, 101, 116] then 1 else if k = [115, 101, 116] then 2 else if k = [112, 117, 116] then 3 else if k = [105, 102] then 4 else if k = [102, 111, 114] then 5 else if k = [114, 101, 116] then 6 else 0
/-- A statement: m may stand within one another. -/
def stmtT : Nat → List (List UInt8) → Res St
  | 0, _ => .error 9
  | m + 1, l => andT (want [40] l) fun _ l => andT (next l) fun k l =>
    if kindOf k = 1 then andT (labT l) fun s l => andT (nameT l) fun x l => andT (exprT m l) fun a l => andT (want [41] l) fun _ l => .ok (⟨1, 0, x, s, [a], [], []⟩, l)
    else if kindOf k = 2 then andT (nameT l) fun x l => andT (exprT m l) fun a l => andT (want [41] l) fun _ l => .ok (⟨2, 0, x, false, [a], [], []⟩, l)
    else if kindOf k = 3 then andT (nameT l) fun x l => andT (exprT m l) fun a l => andT (exprT m l) fun b l => andT (want [41] l) fun _ l => .ok (⟨3, 0, x, false, [a, b], [], []⟩, l)
    else if kindOf k = 4 then andT (exprT m l) fun a l => andT (want [40] l) fun _ l => andT (uptoT (stmtT m) (l.length + 1) l) fun t l => andT (want [40] l) fun _ l =>
      andT (uptoT (stmtT m) (l.length + 1) l) fun e l => andT (want [41] l) fun _ l => .ok (⟨4, 0, [], false, [a], t, e⟩, l)
    else if kindOf k = 5 then andT (nameT l) fun x l => andT (numT 0 8 l) fun n l => andT (uptoT (stmtT m) (l.length + 1) l) fun t l => .ok (⟨5, n, x, false, [], t, []⟩, l)
    else if kindOf k = 6 then andT (exprT m l) fun a l => andT (want [41] l) fun _ l => .ok (⟨6, 0, [], false, [a], [], []⟩, l)
    else .error 1
def varT (l : List (List UInt8)) : Res Vr := andT (want [40] l) fun _ l => andT (labT l) fun s l => andT (nameT l) fun x l => andT (want [41] l) fun _ l => .ok (⟨x, s, 0⟩, l)
def arrT (l : List (List UInt8)) : Res Vr := andT (want [40] l) fun _ l => andT (labT l) fun s l => andT (nameT l) fun x l => andT (numT 1 8 l) fun n l => andT (want [41] l) fun _ l => .ok (⟨x, s, n⟩, l)
/-- A program. -/
def fnT (l : List (List UInt8)) : Res Fn := andT (want [40] l) fun _ l => andT (want [102, 110] l) fun _ l => andT (want [40] l) fun _ l => andT (uptoT varT (l.length + 1) l) fun ps l =>
  andT (want [40] l) fun _ l => andT (uptoT arrT (l.length + 1) l) fun rs l => andT (uptoT (stmtT 9) (l.length + 1) l) fun b l => if l = [] then .ok (⟨ps, rs, b⟩, l) else .error 2

/-- A tree's words. -/
def toksE : Nat → Ex → List (List UInt8)
  | 0, _ => []
  | m + 1, e => if e.kind = 1 then [Lib.decDigits e.n.toNat] else if e.kind = 2 then [e.name] else
    if e.kind = 3 then [40] :: sign e.n.toNat :: (e.args.flatMap (toksE m) ++ [[41]]) else
    if e.kind = 4 then [40] :: [115, 101, 108] :: (e.args.flatMap (toksE m) ++ [[41]]) else [40] :: [97, 116] :: e.name :: (e.args.flatMap (toksE m) ++ [[41]])
/-- A tree that can be read. -/
def wfE : Nat → Ex → Prop
  | 0, _ => False
  | m + 1, e => (e.kind = 1 ∧ 0 ≤ e.n ∧ e.n ≤ 4294967295 ∧ e.name = [] ∧ e.args = []) ∨ (e.kind = 2 ∧ e.n = 0 ∧ isName e.name = true ∧ e.args = []) ∨
    (e.kind = 3 ∧ 1 ≤ e.n ∧ e.n ≤ 12 ∧ e.name = [] ∧ e.args.length = 2 ∧ ∀ a ∈ e.args, wfE m a) ∨ (e.kind = 4 ∧ e.n = 0 ∧ e.name = [] ∧ e.args.length = 3 ∧ ∀ a ∈ e.args, wfE m a) ∨
    (e.kind = 5 ∧ e.n = 0 ∧ isName e.name = true ∧ e.args.length = 1 ∧ ∀ a ∈ e.args, wfE m a)

theorem manyT_toks {α : Type} {f : List (List UInt8) → Res α} {toks : α → List (List UInt8)} : ∀ (as : List α), (∀ a ∈ as, ∀ r, f (toks a ++ r) = .ok (a, r)) → ∀ r, manyT f as.length (as.flatMap toks ++ r) = .ok (as, r)
  | [], _, r => rfl
  | a :: as, h, r => by
    rw [List.flatMap_cons, List.append_assoc, List.length_cons, manyT, h a (by simp), andT_ok, manyT_toks as (fun b hb => h b (by simp [hb])) r, andT_ok]
theorem manyT_inv {α : Type} {f : List (List UInt8) → Res α} {P : α → Prop} (hf : ∀ l a r, f l = .ok (a, r) → P a) : ∀ (n : Nat) (l : List (List UInt8)) (as : List α) (r : List (List UInt8)), manyT f n l = .ok (as, r) → as.length = n ∧ ∀ a ∈ as, P a
  | 0, l, as, r, h => by
    simp only [manyT, Except.ok.injEq, Prod.mk.injEq] at h
    rw [← h.1]; simp
  | n + 1, l, as, r, h => by
    rw [manyT] at h
    obtain ⟨a, r1, h1, h2⟩ := andT_inv h
    obtain ⟨bs, r2, h3, h4⟩ := andT_inv h2
    simp only [Except.ok.injEq, Prod.mk.injEq] at h4
    obtain ⟨e1, e2⟩ := manyT_inv hf n r1 bs r2 h3
    rw [← h4.1]
    refine ⟨by simp [e1], fun x hx => ?_⟩
    rcases List.mem_cons.1 hx with e | e
    · rw [e]; exact hf _ _ _ h1
    · exact e2 x e

theorem sign_of : ∀ k : Nat, 1 ≤ k → k ≤ 12 → signOf (sign k) = k ∧ sign k ≠ [115, 101, 108] ∧ sign k ≠ [97, 116] := by
  intro k h1 h2
  have : ∀ j : Fin 12, signOf (sign (j.val + 1)) = j.val + 1 ∧ sign (j.val + 1) ≠ [115, 101, 108] ∧ sign (j.val + 1) ≠ [97, 116] := by decide
  have := this ⟨k - 1, by omega⟩
  rwa [show (⟨k - 1, by omega⟩ : Fin 12).val + 1 = k by simp; omega] at this
theorem signOf_le (k : List UInt8) : signOf k ≤ 12 := by
  unfold signOf
  split
  · rename_i h
    have := List.idxOf_lt_length_of_mem h
    have hl : signs.length = 12 := by decide
    omega
  · omega
theorem num_not_brack {w : List UInt8} (h : isNum w = true) : ¬ w = [40] := by
  intro e
  obtain ⟨_, _, _, h4, _⟩ := num_parts h
  have := h4 40 (by rw [e]; simp)
  exact absurd this (by decide)
theorem name_parts {w : List UInt8} (h : isName w = true) : 1 ≤ w.length ∧ w.length ≤ 6 ∧ (∀ c ∈ w, 97 ≤ c.toNat ∧ c.toNat ≤ 122) ∧ w ∉ kept := of_decide_eq_true h
theorem name_not_brack {w : List UInt8} (h : isName w = true) : ¬ w = [40] := by
  intro e
  have := (name_parts h).2.2.1 40 (by rw [e]; simp)
  exact absurd this (by decide)
theorem name_not_num {w : List UInt8} (h : isName w = true) : ¬ isNum w = true := by
  intro hn
  obtain ⟨h1, _, h3, _⟩ := name_parts h
  obtain ⟨_, _, _, h4, _⟩ := num_parts hn
  cases w with
  | nil => simp at h1
  | cons c r =>
    have a := h3 c (by simp)
    have b := h4 c (by simp)
    unfold dig at b
    have := of_decide_eq_true b
    omega

/-- What is read is a tree that can be read. -/
theorem exprT_wf : ∀ (m : Nat) (l : List (List UInt8)) (e : Ex) (r : List (List UInt8)), exprT m l = .ok (e, r) → wfE m e
  | 0, l, e, r, h => by cases h
  | m + 1, l, e, r, h => by
    rw [exprT] at h
    obtain ⟨w, r1, h1, h2⟩ := andT_inv h
    clear h h1
    by_cases hw : w = [40]
    · rw [if_pos hw] at h2
      obtain ⟨k, q1, h3, h4⟩ := andT_inv h2
      obtain ⟨hd, q2, h5, h6⟩ := andT_inv h4
      obtain ⟨as, q3, h7, h8⟩ := andT_inv h6
      obtain ⟨_, q4, h9, h10⟩ := andT_inv h8
      simp only [Except.ok.injEq, Prod.mk.injEq] at h10
      obtain ⟨e1, e2⟩ := manyT_inv (fun l a r hh => exprT_wf m l a r hh) _ _ _ _ h7
      clear h2 h4 h6 h8 h7 h9 h3
      rw [← h10.1]
      unfold headT at h5
      by_cases k1 : k = [115, 101, 108]
      · rw [if_pos k1] at h5
        simp only [Except.ok.injEq, Prod.mk.injEq] at h5
        rw [← h5.1] at e1 ⊢
        exact .inr (.inr (.inr (.inl ⟨rfl, rfl, rfl, e1, e2⟩)))
      · rw [if_neg k1] at h5
        by_cases k2 : k = [97, 116]
        · rw [if_pos k2] at h5
          obtain ⟨x, q5, h11, h12⟩ := andT_inv h5
          simp only [Except.ok.injEq, Prod.mk.injEq] at h12
          obtain ⟨y, q6, h13, h14⟩ := andT_inv h11
          by_cases hn : isName y = true
          · rw [if_pos hn] at h14
            simp only [Except.ok.injEq, Prod.mk.injEq] at h14
            rw [← h12.1] at e1 ⊢
            exact .inr (.inr (.inr (.inr ⟨rfl, rfl, by rw [← h14.1]; exact hn, e1, e2⟩)))
          · rw [if_neg hn] at h14; cases h14
        · rw [if_neg k2] at h5
          by_cases k3 : signOf k = 0
          · rw [if_pos k3] at h5; cases h5
          · rw [if_neg k3] at h5
            simp only [Except.ok.injEq, Prod.mk.injEq] at h5
            have := signOf_le k
            rw [← h5.1] at e1 ⊢
            exact .inr (.inr (.inl ⟨rfl, by show (1 : Int) ≤ ((signOf k : Nat) : Int); omega, by show ((signOf k : Nat) : Int) ≤ 12; omega, rfl, e1, e2⟩))
    · rw [if_neg hw] at h2
      by_cases hn : isNum w = true
      · rw [if_pos hn] at h2
        simp only [Except.ok.injEq, Prod.mk.injEq] at h2
        obtain ⟨_, _, _, _, h5⟩ := num_parts hn
        rw [← h2.1]
        exact .inl ⟨rfl, by show (0 : Int) ≤ ((val w : Nat) : Int); omega, by show ((val w : Nat) : Int) ≤ 4294967295; omega, rfl, rfl⟩
      · rw [if_neg hn] at h2
        by_cases hx : isName w = true
        · rw [if_pos hx] at h2
          simp only [Except.ok.injEq, Prod.mk.injEq] at h2
          rw [← h2.1]
          exact .inr (.inl ⟨rfl, rfl, hx, rfl⟩)
        · rw [if_neg hx] at h2; cases h2

/-- A tree that can be read comes back from its words. -/
theorem exprT_toks : ∀ (m : Nat) (e : Ex), wfE m e → ∀ r, exprT m (toksE m e ++ r) = .ok (e, r)
  | 0, e, h, r => h.elim
  | m + 1, ⟨kind, n, name, args⟩, h, r => by
    have hsub : ∀ as : List Ex, (∀ a ∈ as, wfE m a) → ∀ k, arity k = as.length → ∀ q, manyT (exprT m) (arity k) (as.flatMap (toksE m) ++ q) = .ok (as, q) := fun as hw k hk q => by
      rw [hk]
      exact manyT_toks as (fun a ha r => exprT_toks m a (hw a ha) r) q
    rcases h with ⟨k, h1, h2, h3, h4⟩ | ⟨k, h1, h2, h3⟩ | ⟨k, h1, h2, h3, h4, h5⟩ | ⟨k, h1, h2, h3, h4⟩ | ⟨k, h1, h2, h3, h4⟩
    all_goals simp only at k h1 h2 h3
    · simp only at h4
      subst k h3 h4
      have hn := isNum_dec n.toNat (by omega)
      have hv := (dec_facts (n.toNat + 1) n.toNat (by omega)).2.1
      rw [toksE, if_pos rfl, exprT, List.singleton_append, next, andT_ok, if_neg (num_not_brack hn), if_pos hn, hv, Int.toNat_of_nonneg h1]
    · subst k h1 h3
      rw [toksE, if_neg (by simp), if_pos rfl, exprT, List.singleton_append, next, andT_ok, if_neg (name_not_brack h2), if_neg (name_not_num h2), if_pos h2]
    · simp only at h4 h5
      subst k h3
      obtain ⟨s1, s2, s3⟩ := sign_of n.toNat (by omega) (by omega)
      rw [toksE, if_neg (by simp), if_neg (by simp), if_pos rfl, exprT, List.cons_append, next, andT_ok, if_pos rfl, List.cons_append, next, andT_ok]
      unfold headT
      rw [if_neg s2, if_neg s3, s1, if_neg (by omega), andT_ok, List.append_assoc, hsub args h5 3 (by rw [h4]; rfl), andT_ok]
      unfold want
      rw [List.singleton_append, next, andT_ok, if_pos rfl, andT_ok, Int.toNat_of_nonneg (by omega)]
    · simp only at h4
      subst k h1 h2
      rw [toksE, if_neg (by simp), if_neg (by simp), if_neg (by simp), if_pos rfl, exprT, List.cons_append, next, andT_ok, if_pos rfl, List.cons_append, next, andT_ok]
      unfold headT
      rw [if_pos rfl, andT_ok, List.append_assoc, hsub args h4 4 (by rw [h3]; rfl), andT_ok]
      unfold want
      rw [List.singleton_append, next, andT_ok, if_pos rfl, andT_ok]
    · simp only at h4
      subst k h1
      rw [toksE, if_neg (by simp), if_neg (by simp), if_neg (by simp), if_neg (by simp), exprT, List.cons_append, next, andT_ok, if_pos rfl, List.cons_append, next, andT_ok]
      unfold headT
      rw [if_neg (by decide), if_pos rfl]
      unfold nameT
      rw [List.cons_append, next, andT_ok, if_pos h2, andT_ok, andT_ok, List.append_assoc, hsub args h4 5 (by rw [h3]; rfl), andT_ok]
      unfold want
      rw [List.singleton_append, next, andT_ok, if_pos rfl, andT_ok]
end Go.Proofs.YtemdnmfldihalaaDoor.Lg
namespace Go.Proofs.YtemdnmfldihalaaDoor.Lg
set_option linter.unusedVariables false
set_option linter.unusedSimpArgs false
open Wd Rf

theorem uptoT_inv {α : Type} {f : List (List UInt8) → Res α} {P : α → Prop} (hf : ∀ l a r, f l = .ok (a, r) → P a) : ∀ (n : Nat) (l : List (List UInt8)) (as : List α) (r : List (List UInt8)), uptoT f n l = .ok (as, r) → ∀ a ∈ as, P a
  | 0, l, as, r, h => by cases h
  | n + 1, l, as, r, h => by
    rw [uptoT] at h
    by_cases hb : l.head? = some [41]
    · rw [if_pos hb] at h
      simp only [Except.ok.injEq, Prod.mk.injEq] at h
      rw [← h.1]; simp
    · rw [if_neg hb] at h
      obtain ⟨a, r1, h1, h2⟩ := andT_inv h
      obtain ⟨bs, r2, h3, h4⟩ := andT_inv h2
      simp only [Except.ok.injEq, Prod.mk.injEq] at h4
      rw [← h4.1]
      intro x hx
      rcases List.mem_cons.1 hx with e | e
      · rw [e]; exact hf _ _ _ h1
      · exact uptoT_inv hf n r1 bs r2 h3 x e
/-- What comes back from its words, one by one, comes back up to a bracket. -/
theorem uptoT_toks {α : Type} {f : List (List UInt8) → Res α} {toks : α → List (List UInt8)} : ∀ (as : List α), (∀ a ∈ as, (∀ r, f (toks a ++ r) = .ok (a, r)) ∧ (toks a).head? = some [40]) → ∀ (n : Nat) r, as.length < n → uptoT f n (as.flatMap toks ++ [41] :: r) = .ok (as, r)
  | [], _, 0, r, hn => by simp at hn
  | [], _, n + 1, r, hn => by rw [List.flatMap_nil, List.nil_append, uptoT, if_pos (show ([41] :: r : List (List UInt8)).head? = some [41] from rfl)]; rfl
  | a :: as, h, 0, r, hn => by simp at hn
  | a :: as, h, n + 1, r, hn => by
    obtain ⟨h1, h2⟩ := h a (by simp)
    have hh : ((a :: as).flatMap toks ++ [41] :: r).head? = some [40] := by
      rw [List.flatMap_cons, List.append_assoc, List.head?_append, h2]; rfl
    rw [uptoT, if_neg (by rw [hh]; decide), List.flatMap_cons, List.append_assoc, h1, andT_ok, uptoT_toks as (fun b hb => h b (by simp [hb])) n r (by simp at hn; omega), andT_ok]
/-- There are at least as many words as things that have one. -/
theorem flat_len {α : Type} {toks : α → List (List UInt8)} : ∀ (as : List α), (∀ a ∈ as, (toks a).head? = some [40]) → as.length ≤ (as.flatMap toks).length
  | [], _ => by simp
  | a :: as, h => by
    have h1 := h a (by simp)
    have h2 := flat_len as (fun b hb => h b (by simp [hb]))
    rw [List.flatMap_cons, List.length_append, List.length_cons]
    cases ht : toks a with
    | nil => rw [ht] at h1; cases h1
    | cons x y => rw [List.length_cons]; omega
theorem uptoT_len {α : Type} {f : List (List UInt8) → Res α} {toks : α → List (List UInt8)} (as : List α) (h : ∀ a ∈ as, (∀ r, f (toks a ++ r) = .ok (a, r)) ∧ (toks a).head? = some [40]) (r : List (List UInt8)) :
    uptoT f ((as.flatMap toks ++ [41] :: r).length + 1) (as.flatMap toks ++ [41] :: r) = .ok (as, r) := by
  have := flat_len as (fun a ha => (h a ha).2)
  exact uptoT_toks as h _ r (by rw [List.length_append, List.length_cons]; omega)

def lab (s : Bool) : List UInt8 := if s then [115, 101, 99] else [112, 117, 98]
theorem labT_toks (s : Bool) (r : List (List UInt8)) : labT (lab s :: r) = .ok (s, r) := by
  unfold labT
  rw [next, andT_ok]
  cases s <;> rfl
theorem nameT_toks {x : List UInt8} (h : isName x = true) (r : List (List UInt8)) : nameT (x :: r) = .ok (x, r) := by
  unfold nameT
  rw [next, andT_ok, if_pos h]
theorem wantT_toks (x : List UInt8) (r : List (List UInt8)) : want x (x :: r) = .ok ((), r) := by
  unfold want
  rw [next, andT_ok, if_pos rfl]
theorem numT_toks {low high n : Int} (h0 : 0 ≤ low) (h1 : low ≤ n) (h2 : n ≤ high) (h3 : high ≤ 8) (r : List (List UInt8)) : numT low high (Lib.decDigits n.toNat :: r) = .ok (n, r) := by
  unfold numT
  have hv := (dec_facts (n.toNat + 1) n.toNat (by omega)).2.1
  rw [next, andT_ok, if_pos (isNum_dec n.toNat (by omega)), hv, Int.toNat_of_nonneg (by omega), if_neg (by omega)]
theorem nameT_inv {l r : List (List UInt8)} {x : List UInt8} (h : nameT l = .ok (x, r)) : isName x = true := by
  obtain ⟨y, q, h1, h2⟩ := andT_inv h
  by_cases hn : isName y = true
  · rw [if_pos hn] at h2
    simp only [Except.ok.injEq, Prod.mk.injEq] at h2
    rw [← h2.1]; exact hn
  · rw [if_neg hn] at h2; cases h2
theorem numT_inv {low high n : Int} {l r : List (List UInt8)} (h : numT low high l = .ok (n, r)) : low ≤ n ∧ n ≤ high := by
  obtain ⟨y, q, h1, h2⟩ := andT_inv h
  by_cases hn : isNum y = true
  · rw [if_pos hn] at h2
    by_cases hr : (val y : Int) < low ∨ high < (val y : Int)
    · rw [if_pos hr] at h2; cases h2
    · rw [if_neg hr] at h2
      simp only [Except.ok.injEq, Prod.mk.injEq] at h2
      rw [← h2.1]; omega
  · rw [if_neg hn] at h2; cases h2

/-- A statement's words. -/
def toksS : Nat → St → List (List UInt8)
  | 0, _ => []
  | m + 1, t =>
    if t.kind = 1 then [40] :: [108, 101, 116] :: lab t.secret :: t.name :: (t.args.flatMap (toksE m) ++ [[41]])
    else if t.kind = 2 then [40] :: [115, 101, 116] :: t.name :: (t.args.flatMap (toksE m) ++ [[41]])
    else if t.kind = 3 then [40] :: [112, 117, 116] :: t.name :: (t.args.flatMap (toksE m) ++ [[41]])
    else if t.kind = 4 then [40] :: [105, 102] :: (t.args.flatMap (toksE m) ++ [40] :: (t.thn.flatMap (toksS m) ++ [41] :: [40] :: (t.els.flatMap (toksS m) ++ [[41], [41]])))
    else if t.kind = 5 then [40] :: [102, 111, 114] :: t.name :: Lib.decDigits t.n.toNat :: (t.thn.flatMap (toksS m) ++ [[41]])
    else [40] :: [114, 101, 116] :: (t.args.flatMap (toksE m) ++ [[41]])
def wfS : Nat → St → Prop
  | 0, _ => False
  | m + 1, t => ((t.kind = 1 ∧ isName t.name = true) ∨ (t.kind = 2 ∧ isName t.name = true ∧ t.secret = false) ∨ (t.kind = 6 ∧ t.name = [] ∧ t.secret = false)) ∧ t.n = 0 ∧ t.thn = [] ∧ t.els = [] ∧ (∃ a, t.args = [a] ∧ wfE m a) ∨
    (t.kind = 3 ∧ isName t.name = true ∧ t.secret = false ∧ t.n = 0 ∧ t.thn = [] ∧ t.els = [] ∧ ∃ a b, t.args = [a, b] ∧ wfE m a ∧ wfE m b) ∨
    (t.kind = 4 ∧ t.name = [] ∧ t.secret = false ∧ t.n = 0 ∧ (∃ a, t.args = [a] ∧ wfE m a) ∧ (∀ u ∈ t.thn, wfS m u) ∧ ∀ u ∈ t.els, wfS m u) ∨
    (t.kind = 5 ∧ isName t.name = true ∧ t.secret = false ∧ 0 ≤ t.n ∧ t.n ≤ 8 ∧ t.args = [] ∧ t.els = [] ∧ ∀ u ∈ t.thn, wfS m u)
theorem toksS_head : ∀ (m : Nat) (t : St), wfS m t → (toksS m t).head? = some [40]
  | 0, t, h => h.elim
  | m + 1, t, h => by
    rw [toksS]
    repeat (first | (split) | rfl)

theorem stmtT_toks : ∀ (m : Nat) (t : St), wfS m t → ∀ r, stmtT m (toksS m t ++ r) = .ok (t, r)
  | 0, t, h, r => h.elim
  | m + 1, ⟨kind, n, name, secret, args, thn, els⟩, h, r => by
    have hE := fun a (ha : wfE m a) q => exprT_toks m a ha q
    have hU : ∀ us : List St, (∀ u ∈ us, wfS m u) → ∀ q, uptoT (stmtT m) ((us.flatMap (toksS m) ++ [41] :: q).length + 1) (us.flatMap (toksS m) ++ [41] :: q) = .ok (us, q) := fun us hu q =>
      uptoT_len us (fun u hx => ⟨fun q => stmtT_toks m u (hu u hx) q, toksS_head m u (hu u hx)⟩) q
    rcases h with ⟨hk, h1, h2, h3, a, h4, h5⟩ | ⟨k, h1, h2, h3, h4, h5, a, b, h6, h7, h8⟩ | ⟨k, h1, h2, h3, ⟨a, h4, h5⟩, h6, h7⟩ | ⟨k, h1, h2, h3, h4, h5, h6, h7⟩
    · simp only at hk h1 h2 h3 h4
      subst h1 h2 h3 h4
      rcases hk with ⟨k, g⟩ | ⟨k, g, g2⟩ | ⟨k, g, g2⟩
      · subst k
        rw [toksS, if_pos rfl]
        simp only [List.cons_append, List.flatMap_cons, List.flatMap_nil, List.append_nil, List.append_assoc, List.singleton_append, List.nil_append]
        rw [stmtT, wantT_toks, andT_ok, next, andT_ok, if_pos (by decide), labT_toks, andT_ok, nameT_toks g, andT_ok, hE a h5, andT_ok, wantT_toks, andT_ok]
      · subst k g2
        rw [toksS, if_neg (by simp), if_pos rfl]
        simp only [List.cons_append, List.flatMap_cons, List.flatMap_nil, List.append_nil, List.append_assoc, List.singleton_append, List.nil_append]
        rw [stmtT, wantT_toks, andT_ok, next, andT_ok, if_neg (by decide), if_pos (by decide), nameT_toks g, andT_ok, hE a h5, andT_ok, wantT_toks, andT_ok]
      · subst k g g2
        rw [toksS, if_neg (by simp), if_neg (by simp), if_neg (by simp), if_neg (by simp), if_neg (by simp)]
        simp only [List.cons_append, List.flatMap_cons, List.flatMap_nil, List.append_nil, List.append_assoc, List.singleton_append, List.nil_append]
        rw [stmtT, wantT_toks, andT_ok, next, andT_ok, if_neg (by decide), if_neg (by decide), if_neg (by decide), if_neg (by decide), if_neg (by decide), if_pos (by decide), hE a h5, andT_ok, wantT_toks, andT_ok]
    · simp only at k h1 h2 h3 h4 h5 h6
      subst k h2 h3 h4 h5 h6
      rw [toksS, if_neg (by simp), if_neg (by simp), if_pos rfl]
      simp only [List.cons_append, List.flatMap_cons, List.flatMap_nil, List.append_nil, List.append_assoc, List.singleton_append, List.nil_append]
      rw [stmtT, wantT_toks, andT_ok, next, andT_ok, if_neg (by decide), if_neg (by decide), if_pos (by decide), nameT_toks h1, andT_ok, hE a h7, andT_ok, hE b h8, andT_ok, wantT_toks, andT_ok]
    · simp only at k h1 h2 h3 h4 h6 h7
      subst k h1 h2 h3 h4
      rw [toksS, if_neg (by simp), if_neg (by simp), if_neg (by simp), if_pos rfl]
      simp only [List.cons_append, List.flatMap_cons, List.flatMap_nil, List.append_nil, List.append_assoc, List.singleton_append, List.nil_append]
      rw [stmtT, wantT_toks, andT_ok, next, andT_ok, if_neg (by decide), if_neg (by decide), if_neg (by decide), if_pos (by decide), hE a h5, andT_ok, wantT_toks, andT_ok, hU thn h6, andT_ok, wantT_toks, andT_ok, hU els h7, andT_ok, wantT_toks, andT_ok]
    · simp only at k h1 h2 h3 h4 h5 h6 h7
      subst k h2 h5 h6
      rw [toksS, if_neg (by simp), if_neg (by simp), if_neg (by simp), if_neg (by simp), if_pos rfl]
      simp only [List.cons_append, List.flatMap_cons, List.flatMap_nil, List.append_nil, List.append_assoc, List.singleton_append, List.nil_append]
      rw [stmtT, wantT_toks, andT_ok, next, andT_ok, if_neg (by decide), if_neg (by decide), if_neg (by decide), if_neg (by decide), if_pos (by decide), nameT_toks h1, andT_ok, numT_toks (by omega) h3 h4 (by omega), andT_ok, hU thn h7, andT_ok]

theorem stmtT_wf : ∀ (m : Nat) (l : List (List UInt8)) (t : St) (r : List (List UInt8)), stmtT m l = .ok (t, r) → wfS m t
  | 0, l, t, r, h => by cases h
  | m + 1, l, t, r, h => by
    rw [stmtT] at h
    obtain ⟨_, l1, _, h⟩ := andT_inv h
    obtain ⟨k, l2, _, h⟩ := andT_inv h
    have hU := fun n l us r hh => uptoT_inv (fun l a r hh => stmtT_wf m l a r hh) n l us r hh
    by_cases k1 : kindOf k = 1
    · rw [if_pos k1] at h
      obtain ⟨s, _, _, h⟩ := andT_inv h
      obtain ⟨x, _, hx, h⟩ := andT_inv h
      obtain ⟨a, _, ha, h⟩ := andT_inv h
      obtain ⟨_, _, _, h⟩ := andT_inv h
      simp only [Except.ok.injEq, Prod.mk.injEq] at h
      rw [← h.1]
      exact .inl ⟨.inl ⟨rfl, nameT_inv hx⟩, rfl, rfl, rfl, a, rfl, exprT_wf m _ _ _ ha⟩
    rw [if_neg k1] at h
    by_cases k2 : kindOf k = 2
    · rw [if_pos k2] at h
      obtain ⟨x, _, hx, h⟩ := andT_inv h
      obtain ⟨a, _, ha, h⟩ := andT_inv h
      obtain ⟨_, _, _, h⟩ := andT_inv h
      simp only [Except.ok.injEq, Prod.mk.injEq] at h
      rw [← h.1]
      exact .inl ⟨.inr (.inl ⟨rfl, nameT_inv hx, rfl⟩), rfl, rfl, rfl, a, rfl, exprT_wf m _ _ _ ha⟩
    rw [if_neg k2] at h
    by_cases k3 : kindOf k = 3
    · rw [if_pos k3] at h
      obtain ⟨x, _, hx, h⟩ := andT_inv h
      obtain ⟨a, _, ha, h⟩ := andT_inv h
      obtain ⟨b, _, hb, h⟩ := andT_inv h
      obtain ⟨_, _, _, h⟩ := andT_inv h
      simp only [Except.ok.injEq, Prod.mk.injEq] at h
      rw [← h.1]
      exact .inr (.inl ⟨rfl, nameT_inv hx, rfl, rfl, rfl, rfl, a, b, rfl, exprT_wf m _ _ _ ha, exprT_wf m _ _ _ hb⟩)
    rw [if_neg k3] at h
    by_cases k4 : kindOf k = 4
    · rw [if_pos k4] at h
      obtain ⟨a, _, ha, h⟩ := andT_inv h
      obtain ⟨_, _, _, h⟩ := andT_inv h
      obtain ⟨t1, _, ht, h⟩ := andT_inv h
      obtain ⟨_, _, _, h⟩ := andT_inv h
      obtain ⟨t2, _, he, h⟩ := andT_inv h
      obtain ⟨_, _, _, h⟩ := andT_inv h
      simp only [Except.ok.injEq, Prod.mk.injEq] at h
      rw [← h.1]
      exact .inr (.inr (.inl ⟨rfl, rfl, rfl, rfl, ⟨a, rfl, exprT_wf m _ _ _ ha⟩, hU _ _ _ _ ht, hU _ _ _ _ he⟩))
    rw [if_neg k4] at h
    by_cases k5 : kindOf k = 5
    · rw [if_pos k5] at h
      obtain ⟨x, _, hx, h⟩ := andT_inv h
      obtain ⟨n, _, hn, h⟩ := andT_inv h
      obtain ⟨t1, _, ht, h⟩ := andT_inv h
      simp only [Except.ok.injEq, Prod.mk.injEq] at h
      rw [← h.1]
      exact .inr (.inr (.inr ⟨rfl, nameT_inv hx, rfl, (numT_inv hn).1, (numT_inv hn).2, rfl, rfl, hU _ _ _ _ ht⟩))
    rw [if_neg k5] at h
    by_cases k6 : kindOf k = 6
    · rw [if_pos k6] at h
      obtain ⟨a, _, ha, h⟩ := andT_inv h
      obtain ⟨_, _, _, h⟩ := andT_inv h
      simp only [Except.ok.injEq, Prod.mk.injEq] at h
      rw [← h.1]
      exact .inl ⟨.inr (.inr ⟨rfl, rfl, rfl⟩), rfl, rfl, rfl, a, rfl, exprT_wf m _ _ _ ha⟩
    rw [if_neg k6] at h
    cases h

/-- Parameters, arrays, programs. -/
def toksP (v : Vr) : List (List UInt8) := [[40], lab v.secret, v.name, [41]]
def toksA (v : Vr) : List (List UInt8) := [[40], lab v.secret, v.name, Lib.decDigits v.size.toNat, [41]]
def toksF (f : Fn) : List (List UInt8) := [40] :: [102, 110] :: [40] :: (f.params.flatMap toksP ++ [41] :: [40] :: (f.arrays.flatMap toksA ++ [41] :: (f.body.flatMap (toksS 9) ++ [[41]])))
def wfP (v : Vr) : Prop := isName v.name = true ∧ v.size = 0
def wfA (v : Vr) : Prop := isName v.name = true ∧ 1 ≤ v.size ∧ v.size ≤ 8
def wfF (f : Fn) : Prop := (∀ v ∈ f.params, wfP v) ∧ (∀ v ∈ f.arrays, wfA v) ∧ ∀ t ∈ f.body, wfS 9 t
theorem varT_toks (v : Vr) (h : wfP v) (r : List (List UInt8)) : varT (toksP v ++ r) = .ok (v, r) := by
  obtain ⟨x, s, n⟩ := v
  obtain ⟨h1, h2⟩ := h
  simp only at h1 h2
  subst h2
  unfold varT toksP
  simp only [List.cons_append, List.nil_append]
  rw [wantT_toks, andT_ok, labT_toks, andT_ok, nameT_toks h1, andT_ok, wantT_toks, andT_ok]
theorem arrT_toks (v : Vr) (h : wfA v) (r : List (List UInt8)) : arrT (toksA v ++ r) = .ok (v, r) := by
  obtain ⟨x, s, n⟩ := v
  obtain ⟨h1, h2, h3⟩ := h
  simp only at h1 h2 h3
  unfold arrT toksA
  simp only [List.cons_append, List.nil_append]
  rw [wantT_toks, andT_ok, labT_toks, andT_ok, nameT_toks h1, andT_ok, numT_toks (by omega) h2 h3 (by omega), andT_ok, wantT_toks, andT_ok]
theorem varT_wf (l : List (List UInt8)) (v : Vr) (r : List (List UInt8)) (h : varT l = .ok (v, r)) : wfP v := by
  unfold varT at h
  obtain ⟨_, _, _, h⟩ := andT_inv h
  obtain ⟨s, _, _, h⟩ := andT_inv h
  obtain ⟨x, _, hx, h⟩ := andT_inv h
  obtain ⟨_, _, _, h⟩ := andT_inv h
  simp only [Except.ok.injEq, Prod.mk.injEq] at h
  rw [← h.1]
  exact ⟨nameT_inv hx, rfl⟩
theorem arrT_wf (l : List (List UInt8)) (v : Vr) (r : List (List UInt8)) (h : arrT l = .ok (v, r)) : wfA v := by
  unfold arrT at h
  obtain ⟨_, _, _, h⟩ := andT_inv h
  obtain ⟨s, _, _, h⟩ := andT_inv h
  obtain ⟨x, _, hx, h⟩ := andT_inv h
  obtain ⟨n, _, hn, h⟩ := andT_inv h
  obtain ⟨_, _, _, h⟩ := andT_inv h
  simp only [Except.ok.injEq, Prod.mk.injEq] at h
  rw [← h.1]
  exact ⟨nameT_inv hx, numT_inv hn⟩
/-- A program that can be read comes back from its words. -/
theorem fnT_toks (f : Fn) (h : wfF f) : fnT (toksF f) = .ok (f, []) := by
  obtain ⟨ps, rs, b⟩ := f
  obtain ⟨h1, h2, h3⟩ := h
  simp only at h1 h2 h3
  unfold fnT toksF
  simp only
  rw [wantT_toks, andT_ok, wantT_toks, andT_ok, wantT_toks, andT_ok, uptoT_len ps (fun v hv => ⟨varT_toks v (h1 v hv), rfl⟩), andT_ok, wantT_toks, andT_ok, uptoT_len rs (fun v hv => ⟨arrT_toks v (h2 v hv), rfl⟩), andT_ok,
    uptoT_len b (fun t ht => ⟨stmtT_toks 9 t (h3 t ht), toksS_head 9 t (h3 t ht)⟩), andT_ok, if_pos rfl]
/-- What is read is a program that can be read. -/
theorem fnT_wf {l : List (List UInt8)} {f : Fn} {r : List (List UInt8)} (h : fnT l = .ok (f, r)) : wfF f := by
  unfold fnT at h
  obtain ⟨_, _, _, h⟩ := andT_inv h
  obtain ⟨_, _, _, h⟩ := andT_inv h
  obtain ⟨_, _, _, h⟩ := andT_inv h
  obtain ⟨ps, _, hp, h⟩ := andT_inv h
  obtain ⟨_, _, _, h⟩ := andT_inv h
  obtain ⟨rs, _, hr, h⟩ := andT_inv h
  obtain ⟨b, q, hb, h⟩ := andT_inv h
  by_cases hq : q = []
  · rw [if_pos hq] at h
    simp only [Except.ok.injEq, Prod.mk.injEq] at h
    rw [← h.1]
    exact ⟨uptoT_inv varT_wf _ _ _ _ hp, uptoT_inv arrT_wf _ _ _ _ hr, uptoT_inv (fun l a r hh => stmtT_wf 9 l a r hh) _ _ _ _ hb⟩
  · rw [if_neg hq] at h; cases h
end Go.Proofs.YtemdnmfldihalaaDoor.Lg
namespace Go.Proofs.YtemdnmfldihalaaDoor.Lg
set_option linter.unusedVariables false
set_option linter.unusedSimpArgs false
open Wd Rf

/-- Each with a blank ahead; joined by blanks. -/
def flatB {α : Type} (f : α → List UInt8) (as : List α) : List UInt8 := as.flatMap fun a => 32 :: f a
def joinB {α : Type} (f : α → List UInt8) : List α → List UInt8
  | [] => []
  | a :: as => f a ++ flatB f as
/-- An expression, as it is written; m: how deep it is at most. -/
def showE : Nat → Ex → List UInt8
  | 0, _ => []
  | m + 1, e => if e.kind = 1 then Lib.itoa e.n else if e.kind = 2 then e.name else
    if e.kind = 4 then [40, 115, 101, 108] ++ flatB (showE m) e.args ++ [41] else
    if e.kind = 5 then [40, 97, 116, 32] ++ e.name ++ flatB (showE m) e.args ++ [41] else
    if e.kind = 3 ∧ 0 < e.n ∧ e.n < 13 then 40 :: sign e.n.toNat ++ flatB (showE m) e.args ++ [41] else [63]
def showS : Nat → St → List UInt8
  | 0, _ => []
  | m + 1, t =>
    if t.kind = 1 then [40, 108, 101, 116, 32] ++ lab t.secret ++ 32 :: t.name ++ flatB (showE m) t.args ++ [41]
    else if t.kind = 2 then [40, 115, 101, 116, 32] ++ t.name ++ flatB (showE m) t.args ++ [41]
    else if t.kind = 3 then [40, 112, 117, 116, 32] ++ t.name ++ flatB (showE m) t.args ++ [41]
    else if t.kind = 4 then [40, 105, 102] ++ flatB (showE m) t.args ++ [32, 40] ++ joinB (showS m) t.thn ++ [41, 32, 40] ++ joinB (showS m) t.els ++ [41, 41]
    else if t.kind = 5 then [40, 102, 111, 114, 32] ++ t.name ++ 32 :: Lib.itoa t.n ++ flatB (showS m) t.thn ++ [41]
    else if t.kind = 6 then [40, 114, 101, 116] ++ flatB (showE m) t.args ++ [41]
    else [63]
def showP (v : Vr) : List UInt8 := 40 :: lab v.secret ++ 32 :: v.name ++ [41]
def showA (v : Vr) : List UInt8 := 40 :: lab v.secret ++ 32 :: v.name ++ 32 :: Lib.itoa v.size ++ [41]
def showF (m : Nat) (f : Fn) : List UInt8 := [40, 102, 110, 32, 40] ++ joinB showP f.params ++ [41, 32, 40] ++ joinB showA f.arrays ++ [41] ++ flatB (showS m) f.body ++ [41]

/-- What ends a word stands ahead, or nothing does. -/
def Sp (q : List UInt8) : Prop := ∀ c, q.head? = some c → stop c = true
/-- The words of a piece, whatever ends it. -/
def Tk (p : List UInt8) (ts : List (List UInt8)) : Prop := ∀ rest, Sp rest → lex (p ++ rest) [] = ts ++ lex rest []
theorem sp_nil : Sp [] := fun c h => by cases h
theorem sp_blank (q : List UInt8) : Sp (32 :: q) := fun c h => by
  rw [List.head?_cons, Option.some.injEq] at h; rw [← h]; rfl
theorem sp_close (q : List UInt8) : Sp (41 :: q) := fun c h => by
  rw [List.head?_cons, Option.some.injEq] at h; rw [← h]; rfl
theorem sp_app {p q : List UInt8} (hp : Sp p) (hq : Sp q) : Sp (p ++ q) := fun c h => by
  cases p with
  | nil => exact hq c h
  | cons a p => exact hp c h
theorem tk_nil : Tk [] [] := fun rest _ => rfl
theorem tk_blank {p : List UInt8} {ts : List (List UInt8)} (h : Tk p ts) : Tk (32 :: p) ts := fun rest hr => by
  rw [List.cons_append, lex, if_pos (by decide)]
  exact h rest hr
theorem tk_open {p : List UInt8} {ts : List (List UInt8)} (h : Tk p ts) : Tk (40 :: p) ([40] :: ts) := fun rest hr => by
  rw [List.cons_append, lex, if_neg (by decide), if_pos (by decide), h rest hr]; rfl
theorem tk_close {p : List UInt8} {ts : List (List UInt8)} (h : Tk p ts) : Tk (41 :: p) ([41] :: ts) := fun rest hr => by
  rw [List.cons_append, lex, if_neg (by decide), if_pos (by decide), h rest hr]; rfl
theorem tk_word {w : List UInt8} (h0 : w ≠ []) (h : ∀ c ∈ w, stop c = false) : Tk w [w] := fun rest hr => by
  rw [lex_run w rest [] h, List.nil_append]
  cases rest with
  | nil => simp [lex, flush, h0]
  | cons c r =>
    have hc := hr c rfl
    by_cases hb : blank c = true
    · rw [lex, if_pos hb, lex, if_pos hb]; simp [flush, h0]
    · have hk : brack c = true := by unfold stop at hc; simpa [hb] using hc
      rw [lex, if_neg hb, if_pos hk, lex, if_neg hb, if_pos hk]; simp [flush, h0]
theorem tk_app {p q : List UInt8} {ts us : List (List UInt8)} (hp : Tk p ts) (hq : Tk q us) (hs : Sp q) : Tk (p ++ q) (ts ++ us) := fun rest hr => by
  rw [List.append_assoc, hp (q ++ rest) (sp_app hs hr), hq rest hr, List.append_assoc]
theorem tk_flat {α : Type} {f : α → List UInt8} {g : α → List (List UInt8)} : ∀ (as : List α), (∀ a ∈ as, Tk (f a) (g a)) → Tk (flatB f as) (as.flatMap g) ∧ Sp (flatB f as)
  | [], _ => ⟨tk_nil, sp_nil⟩
  | a :: as, h => by
    obtain ⟨h1, h2⟩ := tk_flat as (fun b hb => h b (by simp [hb]))
    unfold flatB at h1 h2 ⊢
    rw [List.flatMap_cons, List.flatMap_cons]
    exact ⟨tk_app (tk_blank (h a (by simp))) h1 h2, sp_app (sp_blank _) h2⟩
theorem tk_join {α : Type} {f : α → List UInt8} {g : α → List (List UInt8)} (as : List α) (h : ∀ a ∈ as, Tk (f a) (g a)) : Tk (joinB f as) (as.flatMap g) := by
  cases as with
  | nil => exact tk_nil
  | cons a as =>
    obtain ⟨h1, h2⟩ := tk_flat as (fun b hb => h b (by simp [hb]))
    rw [joinB, List.flatMap_cons]
    exact tk_app (h a (by simp)) h1 h2

theorem name_tk {x : List UInt8} (h : isName x = true) : Tk x [x] := by
  obtain ⟨h1, _, h3, _⟩ := name_parts h
  refine tk_word (by intro e; rw [e] at h1; simp at h1) (fun c hc => ?_)
  have := h3 c hc
  cases hs : stop c with
  | false => rfl
  | true =>
    exfalso
    unfold stop blank brack at hs
    simp only [Bool.or_eq_true, beq_iff_eq] at hs
    rcases hs with (e | e) | (e | e) <;> (rw [e] at this; exact absurd this (by decide))
theorem dig_tk (u : Nat) : Tk (Lib.decDigits u) [Lib.decDigits u] := by
  obtain ⟨h1, _, h3, _⟩ := dec_facts (u + 1) u (by omega)
  refine tk_word (by intro e; rw [e] at h3; simp at h3) (fun c hc => ?_)
  have := h1 c hc
  cases hs : stop c with
  | false => rfl
  | true =>
    exfalso
    unfold stop blank brack at hs
    simp only [Bool.or_eq_true, beq_iff_eq] at hs
    rcases hs with (e | e) | (e | e) <;> (rw [e] at this; exact absurd this (by decide))
theorem lab_tk (s : Bool) : Tk (lab s) [lab s] := by
  cases s
  · exact tk_word (by decide) (by decide)
  · exact tk_word (by decide) (by decide)
theorem sign_tk (k : Nat) (h1 : 1 ≤ k) (h2 : k ≤ 12) : Tk (sign k) [sign k] := by
  have : ∀ j : Fin 12, sign (j.val + 1) ≠ [] ∧ ∀ c ∈ sign (j.val + 1), stop c = false := by decide
  have := this ⟨k - 1, by omega⟩
  rw [show (⟨k - 1, by omega⟩ : Fin 12).val + 1 = k by simp; omega] at this
  exact tk_word this.1 this.2
theorem itoa_dec {n : Int} (h : 0 ≤ n) : Lib.itoa n = Lib.decDigits n.toNat := by
  unfold Lib.itoa; rw [if_neg (by omega)]

theorem showE_tk : ∀ (m : Nat) (e : Ex), wfE m e → Tk (showE m e) (toksE m e)
  | 0, e, h => h.elim
  | m + 1, ⟨kind, n, name, args⟩, h => by
    have hA : ∀ as : List Ex, (∀ a ∈ as, wfE m a) → Tk (flatB (showE m) as ++ [41]) (as.flatMap (toksE m) ++ [[41]]) ∧ Sp (flatB (showE m) as ++ [41]) := fun as hw => by
      obtain ⟨h1, h2⟩ := tk_flat as (fun a ha => showE_tk m a (hw a ha))
      exact ⟨tk_app h1 (tk_close tk_nil) (sp_close _), sp_app h2 (sp_close _)⟩
    rcases h with ⟨k, h1, h2, h3, h4⟩ | ⟨k, h1, h2, h3⟩ | ⟨k, h1, h2, h3, h4, h5⟩ | ⟨k, h1, h2, h3, h4⟩ | ⟨k, h1, h2, h3, h4⟩
    all_goals simp only at k h1 h2 h3
    · subst k
      rw [showE, if_pos rfl, toksE, if_pos rfl, itoa_dec h1]
      exact dig_tk _
    · subst k
      rw [showE, if_neg (by simp), if_pos rfl, toksE, if_neg (by simp), if_pos rfl]
      exact name_tk h2
    · simp only at h5
      subst k
      obtain ⟨a1, a2⟩ := hA args h5
      rw [showE, if_neg (by simp), if_neg (by simp), if_neg (by simp), if_neg (by simp), if_pos (by simp; omega), toksE, if_neg (by simp), if_neg (by simp), if_pos rfl]
      simp only [List.cons_append, List.append_assoc]
      exact tk_open (tk_app (ts := [sign n.toNat]) (sign_tk n.toNat (by omega) (by omega)) a1 a2)
    · simp only at h4
      subst k
      obtain ⟨a1, a2⟩ := hA args h4
      rw [showE, if_neg (by simp), if_neg (by simp), if_pos rfl, toksE, if_neg (by simp), if_neg (by simp), if_neg (by simp), if_pos rfl]
      simp only [List.cons_append, List.append_assoc, List.nil_append]
      exact tk_open (tk_app (p := [115, 101, 108]) (ts := [[115, 101, 108]]) (tk_word (by decide) (by decide)) a1 a2)
    · simp only at h4
      subst k
      obtain ⟨a1, a2⟩ := hA args h4
      rw [showE, if_neg (by simp), if_neg (by simp), if_neg (by simp), if_pos rfl, toksE, if_neg (by simp), if_neg (by simp), if_neg (by simp), if_neg (by simp)]
      simp only [List.cons_append, List.append_assoc, List.nil_append]
      exact tk_open (tk_app (p := [97, 116]) (ts := [[97, 116]]) (tk_word (by decide) (by decide)) (tk_blank (tk_app (ts := [name]) (name_tk h2) a1 a2)) (sp_blank _))

theorem showS_tk : ∀ (m : Nat) (t : St), wfS m t → Tk (showS m t) (toksS m t)
  | 0, t, h => h.elim
  | m + 1, ⟨kind, n, name, secret, args, thn, els⟩, h => by
    have hA : ∀ as : List Ex, (∀ a ∈ as, wfE m a) → Tk (flatB (showE m) as ++ [41]) (as.flatMap (toksE m) ++ [[41]]) ∧ Sp (flatB (showE m) as ++ [41]) := fun as hw => by
      obtain ⟨h1, h2⟩ := tk_flat as (fun a ha => showE_tk m a (hw a ha))
      exact ⟨tk_app h1 (tk_close tk_nil) (sp_close _), sp_app h2 (sp_close _)⟩
    have hJ : ∀ us : List St, (∀ u ∈ us, wfS m u) → Tk (joinB (showS m) us) (us.flatMap (toksS m)) := fun us hu => tk_join us (fun u hx => showS_tk m u (hu u hx))
    have hF : ∀ us : List St, (∀ u ∈ us, wfS m u) → Tk (flatB (showS m) us ++ [41]) (us.flatMap (toksS m) ++ [[41]]) ∧ Sp (flatB (showS m) us ++ [41]) := fun us hu => by
      obtain ⟨h1, h2⟩ := tk_flat us (fun u hx => showS_tk m u (hu u hx))
      exact ⟨tk_app h1 (tk_close tk_nil) (sp_close _), sp_app h2 (sp_close _)⟩
    rcases h with ⟨hk, h1, h2, h3, a, h4, h5⟩ | ⟨k, h1, h2, h3, h4, h5, a, b, h6, h7, h8⟩ | ⟨k, h1, h2, h3, ⟨a, h4, h5⟩, h6, h7⟩ | ⟨k, h1, h2, h3, h4, h5, h6, h7⟩
    · simp only at hk h4
      obtain ⟨a1, a2⟩ := hA args (by rw [h4]; simpa using h5)
      rcases hk with ⟨k, g⟩ | ⟨k, g, g2⟩ | ⟨k, g, g2⟩
      · subst k
        rw [showS, if_pos rfl, toksS, if_pos rfl]
        simp only [List.cons_append, List.append_assoc, List.nil_append]
        exact tk_open (tk_app (p := [108, 101, 116]) (ts := [[108, 101, 116]]) (tk_word (by decide) (by decide)) (tk_blank (tk_app (ts := [lab secret]) (lab_tk secret) (tk_blank (tk_app (ts := [name]) (name_tk g) a1 a2)) (sp_blank _))) (sp_blank _))
      · subst k
        rw [showS, if_neg (by simp), if_pos rfl, toksS, if_neg (by simp), if_pos rfl]
        simp only [List.cons_append, List.append_assoc, List.nil_append]
        exact tk_open (tk_app (p := [115, 101, 116]) (ts := [[115, 101, 116]]) (tk_word (by decide) (by decide)) (tk_blank (tk_app (ts := [name]) (name_tk g) a1 a2)) (sp_blank _))
      · subst k
        rw [showS, if_neg (by simp), if_neg (by simp), if_neg (by simp), if_neg (by simp), if_neg (by simp), if_pos rfl, toksS, if_neg (by simp), if_neg (by simp), if_neg (by simp), if_neg (by simp), if_neg (by simp)]
        simp only [List.cons_append, List.append_assoc, List.nil_append]
        exact tk_open (tk_app (p := [114, 101, 116]) (ts := [[114, 101, 116]]) (tk_word (by decide) (by decide)) a1 a2)
    · simp only at k h1 h6
      obtain ⟨a1, a2⟩ := hA args (by rw [h6]; simpa using ⟨h7, h8⟩)
      subst k
      rw [showS, if_neg (by simp), if_neg (by simp), if_pos rfl, toksS, if_neg (by simp), if_neg (by simp), if_pos rfl]
      simp only [List.cons_append, List.append_assoc, List.nil_append]
      exact tk_open (tk_app (p := [112, 117, 116]) (ts := [[112, 117, 116]]) (tk_word (by decide) (by decide)) (tk_blank (tk_app (ts := [name]) (name_tk h1) a1 a2)) (sp_blank _))
    · simp only at k h4 h6 h7
      obtain ⟨a1, a2⟩ := tk_flat args (fun x hx => showE_tk m x (by rw [h4] at hx; rw [List.mem_singleton.1 hx]; exact h5))
      subst k
      rw [showS, if_neg (by simp), if_neg (by simp), if_neg (by simp), if_pos rfl, toksS, if_neg (by simp), if_neg (by simp), if_neg (by simp), if_pos rfl]
      simp only [List.cons_append, List.append_assoc, List.nil_append]
      have e1 : Tk (joinB (showS m) els ++ [41, 41]) (els.flatMap (toksS m) ++ [[41], [41]]) := tk_app (hJ els h7) (tk_close (tk_close tk_nil)) (sp_close _)
      have e2 : Tk (joinB (showS m) thn ++ 41 :: 32 :: 40 :: (joinB (showS m) els ++ [41, 41])) (thn.flatMap (toksS m) ++ [41] :: [40] :: (els.flatMap (toksS m) ++ [[41], [41]])) := tk_app (hJ thn h6) (tk_close (tk_blank (tk_open e1))) (sp_close _)
      have e3 := tk_app a1 (tk_blank (tk_open e2)) (sp_blank _)
      exact tk_open (tk_app (p := [105, 102]) (ts := [[105, 102]]) (tk_word (by decide) (by decide)) e3 (sp_app a2 (sp_blank _)))
    · simp only at k h1 h3 h7
      obtain ⟨a1, a2⟩ := hF thn h7
      subst k
      rw [showS, if_neg (by simp), if_neg (by simp), if_neg (by simp), if_neg (by simp), if_pos rfl, toksS, if_neg (by simp), if_neg (by simp), if_neg (by simp), if_neg (by simp), if_pos rfl]
      simp only [List.cons_append, List.append_assoc, List.nil_append]
      rw [itoa_dec h3]
      exact tk_open (tk_app (p := [102, 111, 114]) (ts := [[102, 111, 114]]) (tk_word (by decide) (by decide)) (tk_blank (tk_app (ts := [name]) (name_tk h1) (tk_blank (tk_app (ts := [Lib.decDigits n.toNat]) (dig_tk _) a1 a2)) (sp_blank _))) (sp_blank _))
theorem showP_tk (v : Vr) (h : wfP v) : Tk (showP v) (toksP v) := by
  unfold showP toksP
  simp only [List.cons_append, List.append_assoc, List.nil_append]
  exact tk_open (tk_app (ts := [lab v.secret]) (lab_tk _) (tk_blank (tk_app (ts := [v.name]) (name_tk h.1) (tk_close tk_nil) (sp_close _))) (sp_blank _))
theorem showA_tk (v : Vr) (h : wfA v) : Tk (showA v) (toksA v) := by
  unfold showA toksA
  simp only [List.cons_append, List.append_assoc, List.nil_append]
  rw [itoa_dec (by have := h.2.1; omega)]
  exact tk_open (tk_app (ts := [lab v.secret]) (lab_tk _) (tk_blank (tk_app (ts := [v.name]) (name_tk h.1) (tk_blank (tk_app (ts := [Lib.decDigits v.size.toNat]) (dig_tk _) (tk_close tk_nil) (sp_close _))) (sp_blank _))) (sp_blank _))
/-- The words of what is written are the program's. -/
theorem showF_words (f : Fn) (h : wfF f) : words (showF 9 f) = toksF f := by
  obtain ⟨h1, h2, h3⟩ := h
  have e1 := tk_join f.params (fun v hv => showP_tk v (h1 v hv))
  have e2 := tk_join f.arrays (fun v hv => showA_tk v (h2 v hv))
  obtain ⟨e3, e4⟩ := tk_flat f.body (fun t ht => showS_tk 9 t (h3 t ht))
  have e5 : Tk (flatB (showS 9) f.body ++ [41]) (f.body.flatMap (toksS 9) ++ [[41]]) := tk_app e3 (tk_close tk_nil) (sp_close _)
  have e6 : Tk (joinB showA f.arrays ++ 41 :: (flatB (showS 9) f.body ++ [41])) (f.arrays.flatMap toksA ++ [41] :: (f.body.flatMap (toksS 9) ++ [[41]])) := tk_app e2 (tk_close e5) (sp_close _)
  have e7 : Tk (joinB showP f.params ++ 41 :: 32 :: 40 :: (joinB showA f.arrays ++ 41 :: (flatB (showS 9) f.body ++ [41]))) (f.params.flatMap toksP ++ [41] :: [40] :: (f.arrays.flatMap toksA ++ [41] :: (f.body.flatMap (toksS 9) ++ [[41]]))) :=
    tk_app e1 (tk_close (tk_blank (tk_open e6))) (sp_close _)
  have e8 : Tk (showF 9 f) (toksF f) := by
    unfold showF toksF
    simp only [List.cons_append, List.append_assoc, List.nil_append]
    exact tk_open (tk_app (p := [102, 110]) (ts := [[102, 110]]) (tk_word (by decide) (by decide)) (tk_blank (tk_open e7)) (sp_blank _))
  have := e8 [] sp_nil
  rw [List.append_nil] at this
  unfold words
  rw [this]
  show toksF f ++ [] = _
  rw [List.append_nil]
/-- WRITTEN, AND READ AGAIN. -/
theorem there_back {l r : List (List UInt8)} {f : Fn} (h : fnT l = .ok (f, r)) : fnT (words (showF 9 f)) = .ok (f, []) := by
  have hw := fnT_wf h
  rw [showF_words f hw]
  exact fnT_toks f hw
end Go.Proofs.YtemdnmfldihalaaDoor.Lg
namespace Go.Proofs.YtemdnmfldihalaaDoor.Lg
set_option linter.unusedVariables false
set_option linter.unusedSimpArgs false
open Wd Rf

/-- Parts, each behind its bracket, up to the list's own, which goes. -/
def uptoG {α : Type} (f : List (List UInt8) → Res α) : Nat → List (List UInt8) → Res (List α)
  | 0, l => .error 8
  | n + 1, l => andT (next l) fun w r => if w = [40] then andT (f r) fun a q => andT (uptoG f n q) fun as q => .ok (a :: as, q) else if w = [41] then .ok ([], r) else .error 2
/-- A statement, behind its bracket: m may stand within one another. -/
def stmtG (N : Nat) : Nat → List (List UInt8) → Res St
  | 0, _ => .error 9
  | m + 1, l => andT (next l) fun k l =>
    if kindOf k = 1 then andT (labT l) fun s l => andT (nameT l) fun x l => andT (manyT (exprT m) 1 l) fun a l => andT (want [41] l) fun _ l => .ok (⟨1, 0, x, s, a, [], []⟩, l)
    else if kindOf k = 2 then andT (nameT l) fun x l => andT (manyT (exprT m) 1 l) fun a l => andT (want [41] l) fun _ l => .ok (⟨2, 0, x, false, a, [], []⟩, l)
    else if kindOf k = 3 then andT (nameT l) fun x l => andT (manyT (exprT m) 2 l) fun a l => andT (want [41] l) fun _ l => .ok (⟨3, 0, x, false, a, [], []⟩, l)
    else if kindOf k = 4 then andT (manyT (exprT m) 1 l) fun a l => andT (want [40] l) fun _ l => andT (uptoG (stmtG N m) N l) fun t l => andT (want [40] l) fun _ l =>
      andT (uptoG (stmtG N m) N l) fun e l => andT (want [41] l) fun _ l => .ok (⟨4, 0, [], false, a, t, e⟩, l)
    else if kindOf k = 5 then andT (nameT l) fun x l => andT (numT 0 8 l) fun n l => andT (uptoG (stmtG N m) N l) fun t l => .ok (⟨5, n, x, false, [], t, []⟩, l)
    else if kindOf k = 6 then andT (manyT (exprT m) 1 l) fun a l => andT (want [41] l) fun _ l => .ok (⟨6, 0, [], false, a, [], []⟩, l)
    else .error 1
def varG (l : List (List UInt8)) : Res Vr := andT (labT l) fun s l => andT (nameT l) fun x l => andT (want [41] l) fun _ l => .ok (⟨x, s, 0⟩, l)
def arrG (l : List (List UInt8)) : Res Vr := andT (labT l) fun s l => andT (nameT l) fun x l => andT (numT 1 8 l) fun n l => andT (want [41] l) fun _ l => .ok (⟨x, s, n⟩, l)
/-- A program. -/
def fnG (N : Nat) (l : List (List UInt8)) : Res Fn := andT (want [40] l) fun _ l => andT (want [102, 110] l) fun _ l => andT (want [40] l) fun _ l => andT (uptoG varG N l) fun ps l =>
  andT (want [40] l) fun _ l => andT (uptoG arrG N l) fun rs l => andT (uptoG (stmtG N 9) N l) fun b l => if l = [] then .ok (⟨ps, rs, b⟩, l) else .error 2

theorem uptoG_inv {α : Type} {f : List (List UInt8) → Res α} {P : α → Prop} (hf : ∀ l a r, f l = .ok (a, r) → P a) : ∀ (n : Nat) (l : List (List UInt8)) (as : List α) (r : List (List UInt8)), uptoG f n l = .ok (as, r) → ∀ a ∈ as, P a
  | 0, l, as, r, h => by cases h
  | n + 1, l, as, r, h => by
    rw [uptoG] at h
    obtain ⟨w, r0, h0, h⟩ := andT_inv h
    by_cases hb : w = [40]
    · rw [if_pos hb] at h
      obtain ⟨a, r1, h1, h2⟩ := andT_inv h
      obtain ⟨bs, r2, h3, h4⟩ := andT_inv h2
      simp only [Except.ok.injEq, Prod.mk.injEq] at h4
      rw [← h4.1]
      intro x hx
      rcases List.mem_cons.1 hx with e | e
      · rw [e]; exact hf _ _ _ h1
      · exact uptoG_inv hf n r1 bs r2 h3 x e
    · rw [if_neg hb] at h
      by_cases hc : w = [41]
      · rw [if_pos hc] at h
        simp only [Except.ok.injEq, Prod.mk.injEq] at h
        rw [← h.1]; simp
      · rw [if_neg hc] at h; cases h
/-- What comes back from its words behind the bracket, one by one, comes back up to a bracket. -/
theorem uptoG_toks {α : Type} {f : List (List UInt8) → Res α} {toks : α → List (List UInt8)} : ∀ (as : List α), (∀ a ∈ as, (∀ r, f ((toks a).tail ++ r) = .ok (a, r)) ∧ (toks a).head? = some [40]) → ∀ (n : Nat) r, as.length < n → uptoG f n (as.flatMap toks ++ [41] :: r) = .ok (as, r)
  | [], _, 0, r, hn => by simp at hn
  | [], _, n + 1, r, hn => by
    rw [List.flatMap_nil, List.nil_append, uptoG, next, andT_ok, if_neg (by decide), if_pos rfl]
  | a :: as, h, 0, r, hn => by simp at hn
  | a :: as, h, n + 1, r, hn => by
    obtain ⟨h1, h2⟩ := h a (by simp)
    have hc : toks a = [40] :: (toks a).tail := by
      cases ht : toks a with
      | nil => rw [ht] at h2; cases h2
      | cons x y => rw [ht] at h2; simp at h2; rw [h2]; rfl
    rw [List.flatMap_cons, List.append_assoc, uptoG]
    rw [hc, List.cons_append, next, andT_ok, if_pos rfl, h1, andT_ok, uptoG_toks as (fun b hb => h b (by simp [hb])) n r (by simp at hn; omega), andT_ok]

theorem many_one {m : Nat} {a : Ex} (h : wfE m a) (r : List (List UInt8)) : manyT (exprT m) 1 (toksE m a ++ r) = .ok ([a], r) := by
  have := manyT_toks [a] (fun b hb r => exprT_toks m b (by simp at hb; rw [hb]; exact h) r) r
  simpa using this
theorem many_two {m : Nat} {a b : Ex} (h : wfE m a) (k : wfE m b) (r : List (List UInt8)) : manyT (exprT m) 2 (toksE m a ++ (toksE m b ++ r)) = .ok ([a, b], r) := by
  have := manyT_toks [a, b] (fun x hx r => exprT_toks m x (by simp at hx; rcases hx with e | e <;> (rw [e]; assumption)) r) r
  simpa using this
/-- So many statements at most stand in each list. -/
def smallS (N : Nat) : Nat → St → Prop
  | 0, _ => True
  | m + 1, t => t.thn.length < N ∧ t.els.length < N ∧ (∀ u ∈ t.thn, smallS N m u) ∧ ∀ u ∈ t.els, smallS N m u
theorem toksS_tail (m : Nat) (t : St) (h : wfS m t) : toksS m t = [40] :: (toksS m t).tail := by
  have h2 := toksS_head m t h
  cases ht : toksS m t with
  | nil => rw [ht] at h2; cases h2
  | cons x y => rw [ht] at h2; simp at h2; rw [h2]; rfl

theorem stmtG_toks (N : Nat) : ∀ (m : Nat) (t : St), wfS m t → smallS N m t → ∀ r, stmtG N m ((toksS m t).tail ++ r) = .ok (t, r)
  | 0, t, h, _, r => h.elim
  | m + 1, ⟨kind, n, name, secret, args, thn, els⟩, h, hsm, r => by
    obtain ⟨hs1, hs2, hs3, hs4⟩ := hsm
    simp only at hs1 hs2 hs3 hs4
    have hU : ∀ us : List St, us.length < N → (∀ u ∈ us, smallS N m u) → (∀ u ∈ us, wfS m u) → ∀ q, uptoG (stmtG N m) N (us.flatMap (toksS m) ++ [41] :: q) = .ok (us, q) := fun us hl hsu hu q =>
      uptoG_toks us (fun u hx => ⟨fun q => stmtG_toks N m u (hu u hx) (hsu u hx) q, toksS_head m u (hu u hx)⟩) N q hl
    rcases h with ⟨hk, h1, h2, h3, a, h4, h5⟩ | ⟨k, h1, h2, h3, h4, h5, a, b, h6, h7, h8⟩ | ⟨k, h1, h2, h3, ⟨a, h4, h5⟩, h6, h7⟩ | ⟨k, h1, h2, h3, h4, h5, h6, h7⟩
    · simp only at hk h1 h2 h3 h4
      subst h1 h2 h3 h4
      rcases hk with ⟨k, g⟩ | ⟨k, g, g2⟩ | ⟨k, g, g2⟩
      · subst k
        rw [toksS, if_pos rfl]
        simp only [List.tail_cons, List.cons_append, List.flatMap_cons, List.flatMap_nil, List.append_nil, List.append_assoc, List.singleton_append, List.nil_append]
        rw [stmtG, next, andT_ok, if_pos (by decide), labT_toks, andT_ok, nameT_toks g, andT_ok, many_one h5, andT_ok, wantT_toks, andT_ok]
      · subst k g2
        rw [toksS, if_neg (by simp), if_pos rfl]
        simp only [List.tail_cons, List.cons_append, List.flatMap_cons, List.flatMap_nil, List.append_nil, List.append_assoc, List.singleton_append, List.nil_append]
        rw [stmtG, next, andT_ok, if_neg (by decide), if_pos (by decide), nameT_toks g, andT_ok, many_one h5, andT_ok, wantT_toks, andT_ok]
      · subst k g g2
        rw [toksS, if_neg (by simp), if_neg (by simp), if_neg (by simp), if_neg (by simp), if_neg (by simp)]
        simp only [List.tail_cons, List.cons_append, List.flatMap_cons, List.flatMap_nil, List.append_nil, List.append_assoc, List.singleton_append, List.nil_append]
        rw [stmtG, next, andT_ok, if_neg (by decide), if_neg (by decide), if_neg (by decide), if_neg (by decide), if_neg (by decide), if_pos (by decide), many_one h5, andT_ok, wantT_toks, andT_ok]
    · simp only at k h1 h2 h3 h4 h5 h6
      subst k h2 h3 h4 h5 h6
      rw [toksS, if_neg (by simp), if_neg (by simp), if_pos rfl]
      simp only [List.tail_cons, List.cons_append, List.flatMap_cons, List.flatMap_nil, List.append_nil, List.append_assoc, List.singleton_append, List.nil_append]
      rw [stmtG, next, andT_ok, if_neg (by decide), if_neg (by decide), if_pos (by decide), nameT_toks h1, andT_ok, many_two h7 h8, andT_ok, wantT_toks, andT_ok]
    · simp only at k h1 h2 h3 h4 h6 h7
      subst k h1 h2 h3 h4
      rw [toksS, if_neg (by simp), if_neg (by simp), if_neg (by simp), if_pos rfl]
      simp only [List.tail_cons, List.cons_append, List.flatMap_cons, List.flatMap_nil, List.append_nil, List.append_assoc, List.singleton_append, List.nil_append]
      rw [stmtG, next, andT_ok, if_neg (by decide), if_neg (by decide), if_neg (by decide), if_pos (by decide), many_one h5, andT_ok, wantT_toks, andT_ok, hU thn hs1 hs3 h6, andT_ok, wantT_toks, andT_ok, hU els hs2 hs4 h7, andT_ok, wantT_toks, andT_ok]
    · simp only at k h1 h2 h3 h4 h5 h6 h7
      subst k h2 h5 h6
      rw [toksS, if_neg (by simp), if_neg (by simp), if_neg (by simp), if_neg (by simp), if_pos rfl]
      simp only [List.tail_cons, List.cons_append, List.flatMap_cons, List.flatMap_nil, List.append_nil, List.append_assoc, List.singleton_append, List.nil_append]
      rw [stmtG, next, andT_ok, if_neg (by decide), if_neg (by decide), if_neg (by decide), if_neg (by decide), if_pos (by decide), nameT_toks h1, andT_ok, numT_toks (by omega) h3 h4 (by omega), andT_ok, hU thn hs1 hs3 h7, andT_ok]

theorem many_one_inv {m : Nat} {l r : List (List UInt8)} {as : List Ex} (h : manyT (exprT m) 1 l = .ok (as, r)) : ∃ a, as = [a] ∧ wfE m a := by
  obtain ⟨h1, h2⟩ := manyT_inv (fun l a r hh => exprT_wf m l a r hh) 1 l as r h
  match as, h1 with
  | [a], _ => exact ⟨a, rfl, h2 a (by simp)⟩
theorem many_two_inv {m : Nat} {l r : List (List UInt8)} {as : List Ex} (h : manyT (exprT m) 2 l = .ok (as, r)) : ∃ a b, as = [a, b] ∧ wfE m a ∧ wfE m b := by
  obtain ⟨h1, h2⟩ := manyT_inv (fun l a r hh => exprT_wf m l a r hh) 2 l as r h
  match as, h1 with
  | [a, b], _ => exact ⟨a, b, rfl, h2 a (by simp), h2 b (by simp)⟩
theorem stmtG_wf (N : Nat) : ∀ (m : Nat) (l : List (List UInt8)) (t : St) (r : List (List UInt8)), stmtG N m l = .ok (t, r) → wfS m t
  | 0, l, t, r, h => by cases h
  | m + 1, l, t, r, h => by
    rw [stmtG] at h
    obtain ⟨k, l2, _, h⟩ := andT_inv h
    have hU := fun n l us r hh => uptoG_inv (fun l a r hh => stmtG_wf N m l a r hh) n l us r hh
    by_cases k1 : kindOf k = 1
    · rw [if_pos k1] at h
      obtain ⟨s, _, _, h⟩ := andT_inv h
      obtain ⟨x, _, hx, h⟩ := andT_inv h
      obtain ⟨a, _, ha, h⟩ := andT_inv h
      obtain ⟨_, _, _, h⟩ := andT_inv h
      simp only [Except.ok.injEq, Prod.mk.injEq] at h
      rw [← h.1]
      obtain ⟨a0, e0, w0⟩ := many_one_inv ha
      exact .inl ⟨.inl ⟨rfl, nameT_inv hx⟩, rfl, rfl, rfl, a0, e0, w0⟩
    rw [if_neg k1] at h
    by_cases k2 : kindOf k = 2
    · rw [if_pos k2] at h
      obtain ⟨x, _, hx, h⟩ := andT_inv h
      obtain ⟨a, _, ha, h⟩ := andT_inv h
      obtain ⟨_, _, _, h⟩ := andT_inv h
      simp only [Except.ok.injEq, Prod.mk.injEq] at h
      rw [← h.1]
      obtain ⟨a0, e0, w0⟩ := many_one_inv ha
      exact .inl ⟨.inr (.inl ⟨rfl, nameT_inv hx, rfl⟩), rfl, rfl, rfl, a0, e0, w0⟩
    rw [if_neg k2] at h
    by_cases k3 : kindOf k = 3
    · rw [if_pos k3] at h
      obtain ⟨x, _, hx, h⟩ := andT_inv h
      obtain ⟨a, _, ha, h⟩ := andT_inv h
      obtain ⟨_, _, _, h⟩ := andT_inv h
      simp only [Except.ok.injEq, Prod.mk.injEq] at h
      rw [← h.1]
      obtain ⟨a0, b0, e0, w0, w1⟩ := many_two_inv ha
      exact .inr (.inl ⟨rfl, nameT_inv hx, rfl, rfl, rfl, rfl, a0, b0, e0, w0, w1⟩)
    rw [if_neg k3] at h
    by_cases k4 : kindOf k = 4
    · rw [if_pos k4] at h
      obtain ⟨a, _, ha, h⟩ := andT_inv h
      obtain ⟨_, _, _, h⟩ := andT_inv h
      obtain ⟨t1, _, ht, h⟩ := andT_inv h
      obtain ⟨_, _, _, h⟩ := andT_inv h
      obtain ⟨t2, _, he, h⟩ := andT_inv h
      obtain ⟨_, _, _, h⟩ := andT_inv h
      simp only [Except.ok.injEq, Prod.mk.injEq] at h
      rw [← h.1]
      obtain ⟨a0, e0, w0⟩ := many_one_inv ha
      exact .inr (.inr (.inl ⟨rfl, rfl, rfl, rfl, ⟨a0, e0, w0⟩, hU _ _ _ _ ht, hU _ _ _ _ he⟩))
    rw [if_neg k4] at h
    by_cases k5 : kindOf k = 5
    · rw [if_pos k5] at h
      obtain ⟨x, _, hx, h⟩ := andT_inv h
      obtain ⟨n, _, hn, h⟩ := andT_inv h
      obtain ⟨t1, _, ht, h⟩ := andT_inv h
      simp only [Except.ok.injEq, Prod.mk.injEq] at h
      rw [← h.1]
      exact .inr (.inr (.inr ⟨rfl, nameT_inv hx, rfl, (numT_inv hn).1, (numT_inv hn).2, rfl, rfl, hU _ _ _ _ ht⟩))
    rw [if_neg k5] at h
    by_cases k6 : kindOf k = 6
    · rw [if_pos k6] at h
      obtain ⟨a, _, ha, h⟩ := andT_inv h
      obtain ⟨_, _, _, h⟩ := andT_inv h
      simp only [Except.ok.injEq, Prod.mk.injEq] at h
      rw [← h.1]
      obtain ⟨a0, e0, w0⟩ := many_one_inv ha
      exact .inl ⟨.inr (.inr ⟨rfl, rfl, rfl⟩), rfl, rfl, rfl, a0, e0, w0⟩
    rw [if_neg k6] at h
    cases h

theorem varG_toks (v : Vr) (h : wfP v) (r : List (List UInt8)) : varG ((toksP v).tail ++ r) = .ok (v, r) := by
  obtain ⟨x, s, n⟩ := v
  obtain ⟨h1, h2⟩ := h
  simp only at h1 h2
  subst h2
  unfold varG toksP
  simp only [List.tail_cons, List.cons_append, List.nil_append]
  rw [labT_toks, andT_ok, nameT_toks h1, andT_ok, wantT_toks, andT_ok]
theorem arrG_toks (v : Vr) (h : wfA v) (r : List (List UInt8)) : arrG ((toksA v).tail ++ r) = .ok (v, r) := by
  obtain ⟨x, s, n⟩ := v
  obtain ⟨h1, h2, h3⟩ := h
  simp only at h1 h2 h3
  unfold arrG toksA
  simp only [List.tail_cons, List.cons_append, List.nil_append]
  rw [labT_toks, andT_ok, nameT_toks h1, andT_ok, numT_toks (by omega) h2 h3 (by omega), andT_ok, wantT_toks, andT_ok]
theorem varG_wf (l : List (List UInt8)) (v : Vr) (r : List (List UInt8)) (h : varG l = .ok (v, r)) : wfP v := by
  unfold varG at h
  obtain ⟨s, _, _, h⟩ := andT_inv h
  obtain ⟨x, _, hx, h⟩ := andT_inv h
  obtain ⟨_, _, _, h⟩ := andT_inv h
  simp only [Except.ok.injEq, Prod.mk.injEq] at h
  rw [← h.1]
  exact ⟨nameT_inv hx, rfl⟩
theorem arrG_wf (l : List (List UInt8)) (v : Vr) (r : List (List UInt8)) (h : arrG l = .ok (v, r)) : wfA v := by
  unfold arrG at h
  obtain ⟨s, _, _, h⟩ := andT_inv h
  obtain ⟨x, _, hx, h⟩ := andT_inv h
  obtain ⟨n, _, hn, h⟩ := andT_inv h
  obtain ⟨_, _, _, h⟩ := andT_inv h
  simp only [Except.ok.injEq, Prod.mk.injEq] at h
  rw [← h.1]
  exact ⟨nameT_inv hx, numT_inv hn⟩
/-- So many parts at most stand in each list of a program. -/
def smallF (N : Nat) (f : Fn) : Prop := f.params.length < N ∧ f.arrays.length < N ∧ f.body.length < N ∧ ∀ t ∈ f.body, smallS N 9 t
/-- A program that can be read comes back from its words. -/
theorem fnG_toks (N : Nat) (f : Fn) (h : wfF f) (hs : smallF N f) : fnG N (toksF f) = .ok (f, []) := by
  obtain ⟨ps, rs, b⟩ := f
  obtain ⟨h1, h2, h3⟩ := h
  obtain ⟨s1, s2, s3, s4⟩ := hs
  simp only at h1 h2 h3 s1 s2 s3 s4
  unfold fnG toksF
  simp only
  rw [wantT_toks, andT_ok, wantT_toks, andT_ok, wantT_toks, andT_ok, uptoG_toks ps (fun v hv => ⟨varG_toks v (h1 v hv), rfl⟩) N _ s1, andT_ok, wantT_toks, andT_ok, uptoG_toks rs (fun v hv => ⟨arrG_toks v (h2 v hv), rfl⟩) N _ s2, andT_ok,
    uptoG_toks b (fun t ht => ⟨stmtG_toks N 9 t (h3 t ht) (s4 t ht), toksS_head 9 t (h3 t ht)⟩) N _ s3, andT_ok, if_pos rfl]
/-- What is read is a program that can be read. -/
theorem fnG_wf {N : Nat} {l : List (List UInt8)} {f : Fn} {r : List (List UInt8)} (h : fnG N l = .ok (f, r)) : wfF f := by
  unfold fnG at h
  obtain ⟨_, _, _, h⟩ := andT_inv h
  obtain ⟨_, _, _, h⟩ := andT_inv h
  obtain ⟨_, _, _, h⟩ := andT_inv h
  obtain ⟨ps, _, hp, h⟩ := andT_inv h
  obtain ⟨_, _, _, h⟩ := andT_inv h
  obtain ⟨rs, _, hr, h⟩ := andT_inv h
  obtain ⟨b, q, hb, h⟩ := andT_inv h
  by_cases hq : q = []
  · rw [if_pos hq] at h
    simp only [Except.ok.injEq, Prod.mk.injEq] at h
    rw [← h.1]
    exact ⟨uptoG_inv varG_wf _ _ _ _ hp, uptoG_inv arrG_wf _ _ _ _ hr, uptoG_inv (fun l a r hh => stmtG_wf N 9 l a r hh) _ _ _ _ hb⟩
  · rw [if_neg hq] at h; cases h

/-- No list has more parts than its text has words, nor these more than it has signs. -/
theorem uptoG_len {α : Type} {f : List (List UInt8) → Res α} : ∀ (n : Nat) (l : List (List UInt8)) (as : List α) (r : List (List UInt8)), uptoG f n l = .ok (as, r) → as.length < n
  | 0, l, as, r, h => by cases h
  | n + 1, l, as, r, h => by
    rw [uptoG] at h
    obtain ⟨w, r0, h0, h⟩ := andT_inv h
    by_cases hb : w = [40]
    · rw [if_pos hb] at h
      obtain ⟨a, r1, h1, h2⟩ := andT_inv h
      obtain ⟨bs, r2, h3, h4⟩ := andT_inv h2
      simp only [Except.ok.injEq, Prod.mk.injEq] at h4
      rw [← h4.1]
      have := uptoG_len n r1 bs r2 h3
      simp; omega
    · rw [if_neg hb] at h
      by_cases hc : w = [41]
      · rw [if_pos hc] at h
        simp only [Except.ok.injEq, Prod.mk.injEq] at h
        rw [← h.1]; simp
      · rw [if_neg hc] at h; cases h
theorem stmtG_small (N : Nat) (hN : 0 < N) : ∀ (m : Nat) (l : List (List UInt8)) (t : St) (r : List (List UInt8)), stmtG N m l = .ok (t, r) → smallS N m t
  | 0, l, t, r, h => by cases h
  | m + 1, l, t, r, h => by
    rw [stmtG] at h
    obtain ⟨k, l2, _, h⟩ := andT_inv h
    have hU := fun n l us r hh => uptoG_inv (fun l a r hh => stmtG_small N hN m l a r hh) n l us r hh
    have nil : ∀ x y z s e, smallS N (m + 1) ⟨x, y, z, s, e, [], []⟩ := fun x y z s e => ⟨hN, hN, by simp, by simp⟩
    by_cases k1 : kindOf k = 1
    · rw [if_pos k1] at h
      obtain ⟨_, _, _, h⟩ := andT_inv h
      obtain ⟨_, _, _, h⟩ := andT_inv h
      obtain ⟨_, _, _, h⟩ := andT_inv h
      obtain ⟨_, _, _, h⟩ := andT_inv h
      simp only [Except.ok.injEq, Prod.mk.injEq] at h
      rw [← h.1]; exact nil _ _ _ _ _
    rw [if_neg k1] at h
    by_cases k2 : kindOf k = 2
    · rw [if_pos k2] at h
      obtain ⟨_, _, _, h⟩ := andT_inv h
      obtain ⟨_, _, _, h⟩ := andT_inv h
      obtain ⟨_, _, _, h⟩ := andT_inv h
      simp only [Except.ok.injEq, Prod.mk.injEq] at h
      rw [← h.1]; exact nil _ _ _ _ _
    rw [if_neg k2] at h
    by_cases k3 : kindOf k = 3
    · rw [if_pos k3] at h
      obtain ⟨_, _, _, h⟩ := andT_inv h
      obtain ⟨_, _, _, h⟩ := andT_inv h
      obtain ⟨_, _, _, h⟩ := andT_inv h
      simp only [Except.ok.injEq, Prod.mk.injEq] at h
      rw [← h.1]; exact nil _ _ _ _ _
    rw [if_neg k3] at h
    by_cases k4 : kindOf k = 4
    · rw [if_pos k4] at h
      obtain ⟨a, _, ha, h⟩ := andT_inv h
      obtain ⟨_, _, _, h⟩ := andT_inv h
      obtain ⟨t1, _, ht, h⟩ := andT_inv h
      obtain ⟨_, _, _, h⟩ := andT_inv h
      obtain ⟨t2, _, he, h⟩ := andT_inv h
      obtain ⟨_, _, _, h⟩ := andT_inv h
      simp only [Except.ok.injEq, Prod.mk.injEq] at h
      rw [← h.1]
      exact ⟨uptoG_len _ _ _ _ ht, uptoG_len _ _ _ _ he, hU _ _ _ _ ht, hU _ _ _ _ he⟩
    rw [if_neg k4] at h
    by_cases k5 : kindOf k = 5
    · rw [if_pos k5] at h
      obtain ⟨x, _, hx, h⟩ := andT_inv h
      obtain ⟨n, _, hn, h⟩ := andT_inv h
      obtain ⟨t1, _, ht, h⟩ := andT_inv h
      simp only [Except.ok.injEq, Prod.mk.injEq] at h
      rw [← h.1]
      exact ⟨uptoG_len _ _ _ _ ht, hN, hU _ _ _ _ ht, by simp⟩
    rw [if_neg k5] at h
    by_cases k6 : kindOf k = 6
    · rw [if_pos k6] at h
      obtain ⟨_, _, _, h⟩ := andT_inv h
      obtain ⟨_, _, _, h⟩ := andT_inv h
      simp only [Except.ok.injEq, Prod.mk.injEq] at h
      rw [← h.1]; exact nil _ _ _ _ _
    rw [if_neg k6] at h
    cases h
/-- WRITTEN, AND READ AGAIN: a program that was read comes back from its text. -/
theorem back_again {N : Nat} (hN : 0 < N) {l r : List (List UInt8)} {f : Fn} (h : fnG N l = .ok (f, r)) : fnG N (words (showF 9 f)) = .ok (f, []) := by
  rw [showF_words f (fnG_wf h)]
  refine fnG_toks N f (fnG_wf h) ?_
  unfold fnG at h
  obtain ⟨_, _, _, h⟩ := andT_inv h
  obtain ⟨_, _, _, h⟩ := andT_inv h
  obtain ⟨_, _, _, h⟩ := andT_inv h
  obtain ⟨ps, _, hp, h⟩ := andT_inv h
  obtain ⟨_, _, _, h⟩ := andT_inv h
  obtain ⟨rs, _, hr, h⟩ := andT_inv h
  obtain ⟨b, q, hb, h⟩ := andT_inv h
  by_cases hq : q = []
  · rw [if_pos hq] at h
    simp only [Except.ok.injEq, Prod.mk.injEq] at h
    rw [← h.1]
    exact ⟨uptoG_len _ _ _ _ hp, uptoG_len _ _ _ _ hr, uptoG_len _ _ _ _ hb, uptoG_inv (fun l a r hh => stmtG_small N hN 9 l a r hh) _ _ _ _ hb⟩
  · rw [if_neg hq] at h; cases h
end Go.Proofs.YtemdnmfldihalaaDoor.Lg
namespace Go.Proofs.YtemdnmfldihalaaDoor.Lg
set_option linter.unusedVariables false
set_option linter.unusedSimpArgs false
open Wd Rf

/-- Where a blank is laid ahead of the next word. -/
def gap (out : List UInt8) : List UInt8 := if out = [] ∨ out.getLast? = some 40 then [] else [32]
/-- One word more. -/
def addW (out s : List UInt8) : List UInt8 := if s = [41] then out ++ s else out ++ gap out ++ s
def addsW (out : List UInt8) (ts : List (List UInt8)) : List UInt8 := ts.foldl addW out
theorem adds_cons (out t : List UInt8) (ts : List (List UInt8)) : addsW out (t :: ts) = addsW (addW out t) ts := rfl
theorem adds_app (out : List UInt8) (ts us : List (List UInt8)) : addsW out (ts ++ us) = addsW (addsW out ts) us := List.foldl_append
theorem adds_nil (out : List UInt8) : addsW out [] = out := rfl
theorem add_le (out t : List UInt8) : out.length ≤ (addW out t).length := by
  unfold addW
  split
  · rw [List.length_append]; omega
  · rw [List.length_append, List.length_append]; omega
theorem adds_le : ∀ (ts : List (List UInt8)) (out : List UInt8), out.length ≤ (addsW out ts).length
  | [], out => Nat.le_refl _
  | t :: ts, out => Nat.le_trans (add_le out t) (adds_le ts (addW out t))
theorem add_up (out t : List UInt8) : (addW out t).length ≤ out.length + t.length + 1 := by
  unfold addW gap
  split
  · rw [List.length_append]; omega
  · split
    · rw [List.append_nil, List.length_append]; omega
    · rw [List.length_append, List.length_append, List.length_singleton]; omega
theorem adds_up : ∀ (ts : List (List UInt8)) (out : List UInt8), (addsW out ts).length ≤ out.length + (ts.map fun t => t.length + 1).sum
  | [], out => by simp [addsW]
  | t :: ts, out => by
    have h1 := add_up out t
    have h2 := adds_up ts (addW out t)
    rw [adds_cons]
    simp only [List.map_cons, List.sum_cons]
    omega

/-- A piece: it is laid as it is written, behind a gap; it does not end with an opening bracket. -/
def Lays (ts : List (List UInt8)) (p : List UInt8) : Prop := (∀ out, addsW out ts = out ++ gap out ++ p) ∧ ¬ p = [] ∧ ¬ p.getLast? = some 40
theorem gap_app (out p : List UInt8) (h0 : ¬ p = []) (h : ¬ p.getLast? = some 40) : gap (out ++ p) = [32] := by
  unfold gap
  rw [if_neg]
  intro hh
  rcases hh with e | e
  · exact h0 (List.append_eq_nil_iff.1 e).2
  · rw [List.getLast?_append] at e
    cases hp : p.getLast? with
    | none => exact h0 (List.getLast?_eq_none_iff.1 hp)
    | some x => rw [hp] at e; simp at e; rw [e] at hp; exact h hp
theorem gap_open (out : List UInt8) : gap (out ++ [40]) = [] := by
  unfold gap
  rw [if_pos]
  right
  simp
theorem lays_word {w : List UInt8} (h0 : ¬ w = []) (h1 : ¬ w = [41]) (h2 : ¬ w.getLast? = some 40) : Lays [w] w :=
  ⟨fun out => by rw [adds_cons, adds_nil]; unfold addW; rw [if_neg h1], h0, h2⟩
/-- Pieces behind each other. -/
theorem lays_flat {α : Type} {f : α → List UInt8} {g : α → List (List UInt8)} : ∀ (us : List α), (∀ a ∈ us, Lays (g a) (f a)) → ∀ out, gap out = [32] → addsW out (us.flatMap g) = out ++ flatB f us ∧ gap (out ++ flatB f us) = [32]
  | [], _, out, h => by simp [addsW, flatB, h]
  | a :: us, h, out, ho => by
    obtain ⟨h1, h2, h3⟩ := h a (by simp)
    have hg : gap (out ++ 32 :: f a) = [32] := by
      have := gap_app (out ++ [32]) (f a) h2 h3
      simpa using this
    obtain ⟨k1, k2⟩ := lays_flat us (fun b hb => h b (by simp [hb])) (out ++ 32 :: f a) hg
    have hb : flatB f (a :: us) = 32 :: f a ++ flatB f us := by unfold flatB; rw [List.flatMap_cons]
    rw [List.flatMap_cons, adds_app, h1 out, ho, hb]
    refine ⟨?_, ?_⟩
    · rw [show out ++ [32] ++ f a = out ++ 32 :: f a by simp, k1]; simp
    · rw [← List.append_assoc]; exact k2
theorem lays_join {α : Type} {f : α → List UInt8} {g : α → List (List UInt8)} (us : List α) (h : ∀ a ∈ us, Lays (g a) (f a)) (out : List UInt8) (ho : gap out = []) : addsW out (us.flatMap g) = out ++ joinB f us := by
  cases us with
  | nil => simp [addsW, joinB]
  | cons a us =>
    obtain ⟨h1, h2, h3⟩ := h a (by simp)
    have k := (lays_flat us (fun b hb => h b (by simp [hb])) (out ++ f a) (gap_app out (f a) h2 h3)).1
    rw [List.flatMap_cons, adds_app, h1 out, ho, List.append_nil, k, joinB, List.append_assoc]
theorem add_close (out : List UInt8) : addW out [41] = out ++ [41] := by unfold addW; rw [if_pos rfl]
theorem add_open (out : List UInt8) : addW out [40] = out ++ gap out ++ [40] := by unfold addW; rw [if_neg (by decide)]
theorem last_close (p : List UInt8) : ¬ (p ++ [41]).getLast? = some 40 := by simp
theorem lays_plain {w : List UInt8} (h0 : ¬ w = []) (h : ∀ c ∈ w, stop c = false) : Lays [w] w := by
  refine lays_word h0 (fun e => ?_) (fun e => ?_)
  · have := h 41 (by rw [e]; simp); exact absurd this (by decide)
  · have := h 40 (List.mem_of_getLast? e); exact absurd this (by decide)
/-- Behind an opening bracket; behind a word. -/
def Inn (ts : List (List UInt8)) (p : List UInt8) : Prop := ∀ out, gap out = [] → addsW out ts = out ++ p
def Seq (ts : List (List UInt8)) (p : List UInt8) : Prop := ∀ out, gap out = [32] → addsW out ts = out ++ p ∧ gap (out ++ p) = [32]
theorem seq_nil : Seq [] [] := fun out h => ⟨by simp [addsW], by simpa using h⟩
theorem seq_piece {ts : List (List UInt8)} {p : List UInt8} (h : Lays ts p) : Seq ts (32 :: p) := fun out ho => by
  obtain ⟨h1, h2, h3⟩ := h
  refine ⟨by rw [h1, ho]; simp, ?_⟩
  have := gap_app (out ++ [32]) p h2 h3
  simpa using this
theorem seq_app {ts us : List (List UInt8)} {p q : List UInt8} (h : Seq ts p) (k : Seq us q) : Seq (ts ++ us) (p ++ q) := fun out ho => by
  obtain ⟨h1, h2⟩ := h out ho
  obtain ⟨k1, k2⟩ := k (out ++ p) h2
  exact ⟨by rw [adds_app, h1, k1, List.append_assoc], by rw [← List.append_assoc]; exact k2⟩
theorem seq_flat {α : Type} {f : α → List UInt8} {g : α → List (List UInt8)} (us : List α) (h : ∀ a ∈ us, Lays (g a) (f a)) : Seq (us.flatMap g) (flatB f us) := fun out ho => lays_flat us h out ho
theorem inn_word {w : List UInt8} {ts : List (List UInt8)} {q : List UInt8} (hw : Lays [w] w) (h : Seq ts q) : Inn (w :: ts) (w ++ q) := fun out ho => by
  obtain ⟨h1, h2, h3⟩ := hw
  have e := h1 out
  rw [ho, List.append_nil] at e
  have := (h (out ++ w) (gap_app out w h2 h3)).1
  rw [adds_cons, show addW out w = out ++ w from e, this, List.append_assoc]
theorem inn_join {α : Type} {f : α → List UInt8} {g : α → List (List UInt8)} (us : List α) (h : ∀ a ∈ us, Lays (g a) (f a)) : Inn (us.flatMap g) (joinB f us) := fun out ho => lays_join us h out ho
theorem lays_br {ts : List (List UInt8)} {p : List UInt8} (h : Inn ts p) : Lays ([40] :: (ts ++ [[41]])) (40 :: p ++ [41]) := by
  refine ⟨fun out => ?_, by simp, last_close _⟩
  rw [adds_cons, add_open, adds_app, h (out ++ gap out ++ [40]) (gap_open _), adds_cons, adds_nil, add_close]
  simp
theorem dig_lays (u : Nat) : Lays [Lib.decDigits u] (Lib.decDigits u) := by
  obtain ⟨h1, _, h3, _⟩ := dec_facts (u + 1) u (by omega)
  refine lays_plain (by intro e; rw [e] at h3; simp at h3) (fun c hc => ?_)
  have := h1 c hc
  cases hs : stop c with
  | false => rfl
  | true =>
    exfalso
    unfold stop blank brack at hs
    simp only [Bool.or_eq_true, beq_iff_eq] at hs
    rcases hs with (e | e) | (e | e) <;> (rw [e] at this; exact absurd this (by decide))
theorem name_lays {x : List UInt8} (h : isName x = true) : Lays [x] x := by
  obtain ⟨h1, _, h3, _⟩ := name_parts h
  refine lays_plain (by intro e; rw [e] at h1; simp at h1) (fun c hc => ?_)
  have := h3 c hc
  cases hs : stop c with
  | false => rfl
  | true =>
    exfalso
    unfold stop blank brack at hs
    simp only [Bool.or_eq_true, beq_iff_eq] at hs
    rcases hs with (e | e) | (e | e) <;> (rw [e] at this; exact absurd this (by decide))
theorem lab_lays (s : Bool) : Lays [lab s] (lab s) := by
  cases s
  · exact lays_plain (by decide) (by decide)
  · exact lays_plain (by decide) (by decide)
theorem sign_lays (k : Nat) (h1 : 1 ≤ k) (h2 : k ≤ 12) : Lays [sign k] (sign k) := by
  have : ∀ j : Fin 12, sign (j.val + 1) ≠ [] ∧ ∀ c ∈ sign (j.val + 1), stop c = false := by decide
  have := this ⟨k - 1, by omega⟩
  rw [show (⟨k - 1, by omega⟩ : Fin 12).val + 1 = k by simp; omega] at this
  exact lays_plain this.1 this.2

theorem showE_lays : ∀ (m : Nat) (e : Ex), wfE m e → Lays (toksE m e) (showE m e)
  | 0, e, h => h.elim
  | m + 1, ⟨kind, n, name, args⟩, h => by
    have hA := fun (hw : ∀ a ∈ args, wfE m a) => seq_flat (f := showE m) (g := toksE m) args (fun a ha => showE_lays m a (hw a ha))
    rcases h with ⟨k, h1, h2, h3, h4⟩ | ⟨k, h1, h2, h3⟩ | ⟨k, h1, h2, h3, h4, h5⟩ | ⟨k, h1, h2, h3, h4⟩ | ⟨k, h1, h2, h3, h4⟩
    all_goals simp only at k h1 h2 h3
    · subst k
      rw [toksE, if_pos rfl, showE, if_pos rfl, itoa_dec h1]
      exact dig_lays _
    · subst k
      rw [toksE, if_neg (by simp), if_pos rfl, showE, if_neg (by simp), if_pos rfl]
      exact name_lays h2
    · simp only at h4 h5
      subst k
      rw [toksE, if_neg (by simp), if_neg (by simp), if_pos rfl, showE, if_neg (by simp), if_neg (by simp), if_neg (by simp), if_neg (by simp), if_pos ⟨rfl, by show 0 < n; omega, by show n < 13; omega⟩]
      have := lays_br (inn_word (sign_lays n.toNat (by omega) (by omega)) (hA h5))
      simpa using this
    · simp only at h4
      subst k
      rw [toksE, if_neg (by simp), if_neg (by simp), if_neg (by simp), if_pos rfl, showE, if_neg (by simp), if_neg (by simp), if_pos rfl]
      have := lays_br (inn_word (lays_plain (w := [115, 101, 108]) (by decide) (by decide)) (hA h4))
      simpa using this
    · simp only at h4
      subst k
      rw [toksE, if_neg (by simp), if_neg (by simp), if_neg (by simp), if_neg (by simp), showE, if_neg (by simp), if_neg (by simp), if_neg (by simp), if_pos rfl]
      have := lays_br (inn_word (lays_plain (w := [97, 116]) (by decide) (by decide)) (seq_app (seq_piece (name_lays h2)) (hA h4)))
      simpa using this
theorem showS_lays : ∀ (m : Nat) (t : St), wfS m t → Lays (toksS m t) (showS m t)
  | 0, t, h => h.elim
  | m + 1, ⟨kind, n, name, secret, args, thn, els⟩, h => by
    have hE := fun (hw : ∀ a ∈ args, wfE m a) => seq_flat (f := showE m) (g := toksE m) args (fun a ha => showE_lays m a (hw a ha))
    have hB := fun (us : List St) (hw : ∀ u ∈ us, wfS m u) => lays_br (inn_join (f := showS m) (g := toksS m) us (fun u hu => showS_lays m u (hw u hu)))
    have hF := fun (us : List St) (hw : ∀ u ∈ us, wfS m u) => seq_flat (f := showS m) (g := toksS m) us (fun u hu => showS_lays m u (hw u hu))
    rcases h with ⟨hk, h1, h2, h3, a, h4, h5⟩ | ⟨k, h1, h2, h3, h4, h5, a, b, h6, h7, h8⟩ | ⟨k, h1, h2, h3, ⟨a, h4, h5⟩, h6, h7⟩ | ⟨k, h1, h2, h3, h4, h5, h6, h7⟩
    · simp only at hk h1 h2 h3 h4
      have hw : ∀ x ∈ args, wfE m x := by rw [h4]; intro x hx; simp at hx; rw [hx]; exact h5
      rcases hk with ⟨k, g⟩ | ⟨k, g, g2⟩ | ⟨k, g, g2⟩
      · subst k
        rw [toksS, if_pos rfl, showS, if_pos rfl]
        have := lays_br (inn_word (lays_plain (w := [108, 101, 116]) (by decide) (by decide)) (seq_app (seq_app (seq_piece (lab_lays secret)) (seq_piece (name_lays g))) (hE hw)))
        simpa using this
      · subst k
        rw [toksS, if_neg (by simp), if_pos rfl, showS, if_neg (by simp), if_pos rfl]
        have := lays_br (inn_word (lays_plain (w := [115, 101, 116]) (by decide) (by decide)) (seq_app (seq_piece (name_lays g)) (hE hw)))
        simpa using this
      · subst k
        rw [toksS, if_neg (by simp), if_neg (by simp), if_neg (by simp), if_neg (by simp), if_neg (by simp), showS, if_neg (by simp), if_neg (by simp), if_neg (by simp), if_neg (by simp), if_neg (by simp), if_pos rfl]
        have := lays_br (inn_word (lays_plain (w := [114, 101, 116]) (by decide) (by decide)) (hE hw))
        simpa using this
    · simp only at k h1 h2 h3 h4 h5 h6
      subst k
      have hw : ∀ x ∈ args, wfE m x := by rw [h6]; intro x hx; simp at hx; rcases hx with e | e <;> (rw [e]; assumption)
      rw [toksS, if_neg (by simp), if_neg (by simp), if_pos rfl, showS, if_neg (by simp), if_neg (by simp), if_pos rfl]
      have := lays_br (inn_word (lays_plain (w := [112, 117, 116]) (by decide) (by decide)) (seq_app (seq_piece (name_lays h1)) (hE hw)))
      simpa using this
    · simp only at k h1 h2 h3 h4 h6 h7
      subst k
      have hw : ∀ x ∈ args, wfE m x := by rw [h4]; intro x hx; simp at hx; rw [hx]; exact h5
      rw [toksS, if_neg (by simp), if_neg (by simp), if_neg (by simp), if_pos rfl, showS, if_neg (by simp), if_neg (by simp), if_neg (by simp), if_pos rfl]
      have := lays_br (inn_word (lays_plain (w := [105, 102]) (by decide) (by decide)) (seq_app (hE hw) (seq_app (seq_piece (hB thn h6)) (seq_piece (hB els h7)))))
      simpa using this
    · simp only at k h1 h2 h3 h4 h5 h6 h7
      subst k
      rw [toksS, if_neg (by simp), if_neg (by simp), if_neg (by simp), if_neg (by simp), if_pos rfl, showS, if_neg (by simp), if_neg (by simp), if_neg (by simp), if_neg (by simp), if_pos rfl, itoa_dec h3]
      have := lays_br (inn_word (lays_plain (w := [102, 111, 114]) (by decide) (by decide)) (seq_app (seq_app (seq_piece (name_lays h1)) (seq_piece (dig_lays n.toNat))) (hF thn h7)))
      simpa using this
theorem showP_lays (v : Vr) (h : wfP v) : Lays (toksP v) (showP v) := by
  have := lays_br (inn_word (lab_lays v.secret) (seq_piece (name_lays h.1)))
  unfold toksP showP
  simpa using this
theorem showA_lays (v : Vr) (h : wfA v) : Lays (toksA v) (showA v) := by
  have := lays_br (inn_word (lab_lays v.secret) (seq_app (seq_piece (name_lays h.1)) (seq_piece (dig_lays v.size.toNat))))
  unfold toksA showA
  rw [itoa_dec (by have := h.2.1; omega)]
  simpa using this
/-- A program's words, laid behind each other, are what is written. -/
theorem showF_lays (f : Fn) (h : wfF f) : addsW [] (toksF f) = showF 9 f := by
  obtain ⟨h1, h2, h3⟩ := h
  have hP := lays_br (inn_join (f := showP) (g := toksP) f.params (fun v hv => showP_lays v (h1 v hv)))
  have hA := lays_br (inn_join (f := showA) (g := toksA) f.arrays (fun v hv => showA_lays v (h2 v hv)))
  have hB := seq_flat (f := showS 9) (g := toksS 9) f.body (fun t ht => showS_lays 9 t (h3 t ht))
  have := (lays_br (inn_word (lays_plain (w := [102, 110]) (by decide) (by decide)) (seq_app (seq_app (seq_piece hP) (seq_piece hA)) hB))).1 []
  unfold toksF showF
  simpa [gap] using this
end Go.Proofs.YtemdnmfldihalaaDoor.Lg
namespace Go.Proofs.YtemdnmfldihalaaDoor.Lg
set_option linter.unusedVariables false
set_option linter.unusedSimpArgs false
open Wd Rf

theorem next_sound {l r : List (List UInt8)} {w : List UInt8} (h : next l = .ok (w, r)) : l = w :: r := by
  cases l with
  | nil => cases h
  | cons a l => cases h; rfl
theorem want_sound {x : List UInt8} {l r : List (List UInt8)} {u : Unit} (h : want x l = .ok (u, r)) : l = x :: r := by
  obtain ⟨w, q, h1, h2⟩ := andT_inv h
  by_cases hw : w = x
  · rw [if_pos hw] at h2; cases h2; rw [next_sound h1, hw]
  · rw [if_neg hw] at h2; cases h2
theorem nameT_sound {l r : List (List UInt8)} {x : List UInt8} (h : nameT l = .ok (x, r)) : l = x :: r := by
  obtain ⟨w, q, h1, h2⟩ := andT_inv h
  by_cases hw : isName w = true
  · rw [if_pos hw] at h2; cases h2; exact next_sound h1
  · rw [if_neg hw] at h2; cases h2
theorem numT_sound {lo hi n : Int} {l r : List (List UInt8)} (h : numT lo hi l = .ok (n, r)) : l = Lib.decDigits n.toNat :: r := by
  obtain ⟨w, q, h1, h2⟩ := andT_inv h
  by_cases hw : isNum w = true
  · rw [if_pos hw] at h2
    by_cases hr : (val w : Int) < lo ∨ hi < (val w : Int)
    · rw [if_pos hr] at h2; cases h2
    · rw [if_neg hr] at h2; cases h2
      rw [next_sound h1, Int.toNat_natCast, dec_of_num hw]
  · rw [if_neg hw] at h2; cases h2
theorem labT_sound {l r : List (List UInt8)} {s : Bool} (h : labT l = .ok (s, r)) : l = lab s :: r := by
  obtain ⟨w, q, h1, h2⟩ := andT_inv h
  by_cases hw : w = [115, 101, 99]
  · rw [if_pos hw] at h2; cases h2; rw [next_sound h1, hw]; rfl
  · rw [if_neg hw] at h2
    by_cases hp : w = [112, 117, 98]
    · rw [if_pos hp] at h2; cases h2; rw [next_sound h1, hp]; rfl
    · rw [if_neg hp] at h2; cases h2
theorem manyT_sound {α : Type} {f : List (List UInt8) → Res α} {g : α → List (List UInt8)} (hf : ∀ l a r, f l = .ok (a, r) → l = g a ++ r) : ∀ (n : Nat) (l : List (List UInt8)) (us : List α) (r : List (List UInt8)), manyT f n l = .ok (us, r) → l = us.flatMap g ++ r
  | 0, l, us, r, h => by cases h; simp
  | n + 1, l, us, r, h => by
    rw [manyT] at h
    obtain ⟨a, q, h1, h2⟩ := andT_inv h
    obtain ⟨as_, q', h3, h4⟩ := andT_inv h2
    cases h4
    rw [hf _ _ _ h1, manyT_sound hf n _ _ _ h3, List.flatMap_cons, List.append_assoc]
theorem uptoG_sound {α : Type} {f : List (List UInt8) → Res α} {g : α → List (List UInt8)} (hf : ∀ l a r, f l = .ok (a, r) → [40] :: l = g a ++ r) : ∀ (n : Nat) (l : List (List UInt8)) (us : List α) (r : List (List UInt8)), uptoG f n l = .ok (us, r) → l = us.flatMap g ++ [41] :: r
  | 0, l, us, r, h => by cases h
  | n + 1, l, us, r, h => by
    rw [uptoG] at h
    obtain ⟨w, q0, h0, h⟩ := andT_inv h
    by_cases hb : w = [40]
    · rw [if_pos hb] at h
      obtain ⟨a, q, h1, h2⟩ := andT_inv h
      obtain ⟨as_, q', h3, h4⟩ := andT_inv h2
      cases h4
      rw [next_sound h0, hb, hf _ _ _ h1, uptoG_sound hf n _ _ _ h3, List.flatMap_cons, List.append_assoc]
    · rw [if_neg hb] at h
      by_cases hc : w = [41]
      · rw [if_pos hc] at h; cases h
        rw [next_sound h0, hc]; simp
      · rw [if_neg hc] at h; cases h
theorem sign_sound {k : List UInt8} (h : ¬ signOf k = 0) : sign (signOf k) = k := by
  unfold signOf at h ⊢
  by_cases hk : k ∈ signs
  · simp only [signs, List.mem_cons, List.not_mem_nil, or_false] at hk
    rcases hk with rfl | rfl | rfl | rfl | rfl | rfl | rfl | rfl | rfl | rfl | rfl | rfl <;> rfl
  · rw [if_neg hk] at h; exact absurd rfl h
theorem exprT_sound : ∀ (m : Nat) (l : List (List UInt8)) (e : Ex) (r : List (List UInt8)), exprT m l = .ok (e, r) → l = toksE m e ++ r
  | 0, l, e, r, h => by cases h
  | m + 1, l, e, r, h => by
    rw [exprT] at h
    obtain ⟨w, r1, h1, h2⟩ := andT_inv h
    rw [next_sound h1]
    clear h h1
    by_cases hw : w = [40]
    · rw [if_pos hw] at h2
      obtain ⟨k, q1, h3, h4⟩ := andT_inv h2
      obtain ⟨hd, q2, h5, h6⟩ := andT_inv h4
      obtain ⟨as_, q3, h7, h8⟩ := andT_inv h6
      obtain ⟨_, q4, h9, h10⟩ := andT_inv h8
      cases h10
      have e1 := manyT_sound (fun l a r hh => exprT_sound m l a r hh) _ _ _ _ h7
      rw [want_sound h9] at e1
      rw [next_sound h3, hw]
      unfold headT at h5
      by_cases k1 : k = [115, 101, 108]
      · rw [if_pos k1] at h5
        cases h5
        rw [toksE, if_neg (by simp), if_neg (by simp), if_neg (by simp), if_pos rfl, e1, k1]; simp
      · rw [if_neg k1] at h5
        by_cases k2 : k = [97, 116]
        · rw [if_pos k2] at h5
          obtain ⟨x, q5, h11, h12⟩ := andT_inv h5
          cases h12
          rw [toksE, if_neg (by simp), if_neg (by simp), if_neg (by simp), if_neg (by simp), nameT_sound h11, e1, k2]; simp
        · rw [if_neg k2] at h5
          by_cases k3 : signOf k = 0
          · rw [if_pos k3] at h5; cases h5
          · rw [if_neg k3] at h5
            cases h5
            rw [toksE, if_neg (by simp), if_neg (by simp), if_pos rfl, e1]
            simp only [Int.toNat_natCast, sign_sound k3]; simp
    · rw [if_neg hw] at h2
      by_cases hn : isNum w = true
      · rw [if_pos hn] at h2
        cases h2
        rw [toksE, if_pos rfl]
        simp only [Int.toNat_natCast, dec_of_num hn]; rfl
      · rw [if_neg hn] at h2
        by_cases hx : isName w = true
        · rw [if_pos hx] at h2
          cases h2
          rw [toksE, if_neg (by simp), if_pos rfl]; rfl
        · rw [if_neg hx] at h2; cases h2
theorem kind_sound {k : List UInt8} : (kindOf k = 1 → k = [108, 101, 116]) ∧ (kindOf k = 2 → k = [115, 101, 116]) ∧ (kindOf k = 3 → k = [112, 117, 116]) ∧ (kindOf k = 4 → k = [105, 102]) ∧ (kindOf k = 5 → k = [102, 111, 114]) ∧ (kindOf k = 6 → k = [114, 101, 116]) := by
  unfold kindOf
  refine ⟨fun h => ?_, fun h => ?_, fun h => ?_, fun h => ?_, fun h => ?_, fun h => ?_⟩
  all_goals
    repeat' split at h
    all_goals first | assumption | omega
theorem stmtG_sound (N : Nat) : ∀ (m : Nat) (l : List (List UInt8)) (t : St) (r : List (List UInt8)), stmtG N m l = .ok (t, r) → [40] :: l = toksS m t ++ r
  | 0, l, t, r, h => by cases h
  | m + 1, l, t, r, h => by
    rw [stmtG] at h
    obtain ⟨k, l2, h0, h⟩ := andT_inv h
    rw [next_sound h0]
    obtain ⟨s1, s2, s3, s4, s5, s6⟩ := @kind_sound k
    have hU := fun n l us r hh => uptoG_sound (fun l a r hh => stmtG_sound N m l a r hh) n l us r hh
    have hE := fun n l us r hh => manyT_sound (fun l a r hh => exprT_sound m l a r hh) n l us r hh
    by_cases k1 : kindOf k = 1
    · rw [if_pos k1] at h
      obtain ⟨s, _, g1, h⟩ := andT_inv h
      obtain ⟨x, _, g2, h⟩ := andT_inv h
      obtain ⟨a, _, g3, h⟩ := andT_inv h
      obtain ⟨_, _, g4, h⟩ := andT_inv h
      cases h
      rw [toksS, if_pos rfl, s1 k1, labT_sound g1, nameT_sound g2, hE _ _ _ _ g3, want_sound g4]; simp
    rw [if_neg k1] at h
    by_cases k2 : kindOf k = 2
    · rw [if_pos k2] at h
      obtain ⟨x, _, g2, h⟩ := andT_inv h
      obtain ⟨a, _, g3, h⟩ := andT_inv h
      obtain ⟨_, _, g4, h⟩ := andT_inv h
      cases h
      rw [toksS, if_neg (by simp), if_pos rfl, s2 k2, nameT_sound g2, hE _ _ _ _ g3, want_sound g4]; simp
    rw [if_neg k2] at h
    by_cases k3 : kindOf k = 3
    · rw [if_pos k3] at h
      obtain ⟨x, _, g2, h⟩ := andT_inv h
      obtain ⟨a, _, g3, h⟩ := andT_inv h
      obtain ⟨_, _, g4, h⟩ := andT_inv h
      cases h
      rw [toksS, if_neg (by simp), if_neg (by simp), if_pos rfl, s3 k3, nameT_sound g2, hE _ _ _ _ g3, want_sound g4]; simp
    rw [if_neg k3] at h
    by_cases k4 : kindOf k = 4
    · rw [if_pos k4] at h
      obtain ⟨a, _, g1, h⟩ := andT_inv h
      obtain ⟨_, _, g2, h⟩ := andT_inv h
      obtain ⟨t1, _, g3, h⟩ := andT_inv h
      obtain ⟨_, _, g4, h⟩ := andT_inv h
      obtain ⟨t2, _, g5, h⟩ := andT_inv h
      obtain ⟨_, _, g6, h⟩ := andT_inv h
      cases h
      rw [toksS, if_neg (by simp), if_neg (by simp), if_neg (by simp), if_pos rfl, s4 k4, hE _ _ _ _ g1, want_sound g2, hU _ _ _ _ g3, want_sound g4, hU _ _ _ _ g5, want_sound g6]; simp
    rw [if_neg k4] at h
    by_cases k5 : kindOf k = 5
    · rw [if_pos k5] at h
      obtain ⟨x, _, g1, h⟩ := andT_inv h
      obtain ⟨n, _, g2, h⟩ := andT_inv h
      obtain ⟨t1, _, g3, h⟩ := andT_inv h
      cases h
      rw [toksS, if_neg (by simp), if_neg (by simp), if_neg (by simp), if_neg (by simp), if_pos rfl, s5 k5, nameT_sound g1, numT_sound g2, hU _ _ _ _ g3]; simp
    rw [if_neg k5] at h
    by_cases k6 : kindOf k = 6
    · rw [if_pos k6] at h
      obtain ⟨a, _, g3, h⟩ := andT_inv h
      obtain ⟨_, _, g4, h⟩ := andT_inv h
      cases h
      rw [toksS, if_neg (by simp), if_neg (by simp), if_neg (by simp), if_neg (by simp), if_neg (by simp), s6 k6, hE _ _ _ _ g3, want_sound g4]; simp
    rw [if_neg k6] at h
    cases h
theorem varG_sound (l : List (List UInt8)) (v : Vr) (r : List (List UInt8)) (h : varG l = .ok (v, r)) : [40] :: l = toksP v ++ r := by
  unfold varG at h
  obtain ⟨s, _, g1, h⟩ := andT_inv h
  obtain ⟨x, _, g2, h⟩ := andT_inv h
  obtain ⟨_, _, g3, h⟩ := andT_inv h
  cases h
  rw [labT_sound g1, nameT_sound g2, want_sound g3]; rfl
theorem arrG_sound (l : List (List UInt8)) (v : Vr) (r : List (List UInt8)) (h : arrG l = .ok (v, r)) : [40] :: l = toksA v ++ r := by
  unfold arrG at h
  obtain ⟨s, _, g1, h⟩ := andT_inv h
  obtain ⟨x, _, g2, h⟩ := andT_inv h
  obtain ⟨n, _, g3, h⟩ := andT_inv h
  obtain ⟨_, _, g4, h⟩ := andT_inv h
  cases h
  rw [labT_sound g1, nameT_sound g2, numT_sound g3, want_sound g4]; rfl
/-- A program that was read is of its words. -/
theorem fnG_sound {N : Nat} {l r : List (List UInt8)} {f : Fn} (h : fnG N l = .ok (f, r)) : l = toksF f := by
  unfold fnG at h
  obtain ⟨_, _, g1, h⟩ := andT_inv h
  obtain ⟨_, _, g2, h⟩ := andT_inv h
  obtain ⟨_, _, g3, h⟩ := andT_inv h
  obtain ⟨ps, _, g4, h⟩ := andT_inv h
  obtain ⟨_, _, g5, h⟩ := andT_inv h
  obtain ⟨rs, _, g6, h⟩ := andT_inv h
  obtain ⟨b, q, g7, h⟩ := andT_inv h
  by_cases hq : q = []
  · rw [if_pos hq] at h
    cases h
    rw [want_sound g1, want_sound g2, want_sound g3, uptoG_sound varG_sound _ _ _ _ g4, want_sound g5, uptoG_sound arrG_sound _ _ _ _ g6, uptoG_sound (fun l a r hh => stmtG_sound N 9 l a r hh) _ _ _ _ g7, hq]
    rfl
  · rw [if_neg hq] at h; cases h

theorem flush_sum (cur : List UInt8) (r : List (List UInt8)) : ((flush cur r).map fun t => t.length + 1).sum ≤ 2 * cur.length + (r.map fun t => t.length + 1).sum := by
  unfold flush
  split
  · omega
  · rename_i h
    have : 1 ≤ cur.length := by
      cases cur with
      | nil => exact absurd rfl h
      | cons a c => simp
    simp only [List.map_cons, List.sum_cons]
    omega
theorem lex_sum : ∀ (l cur : List UInt8), ((lex l cur).map fun t => t.length + 1).sum ≤ 2 * (l.length + cur.length)
  | [], cur => by
    have := flush_sum cur []
    rw [lex]
    simp at this ⊢
    omega
  | c :: r, cur => by
    rw [lex]
    split
    · have h1 := flush_sum cur (lex r [])
      have h2 := lex_sum r []
      simp at h2 ⊢
      omega
    · split
      · have h1 := flush_sum cur ([c] :: lex r [])
        have h2 := lex_sum r []
        simp at h2 ⊢
        simp at h1
        omega
      · have h2 := lex_sum r (cur ++ [c])
        simp at h2 ⊢
        omega
theorem words_sum (l : List UInt8) : ((words l).map fun t => t.length + 1).sum ≤ 2 * l.length := by
  have := lex_sum l []
  simpa [words] using this
/-- What is written of a program that was read is short. -/
theorem show_short {N : Nat} {l : List UInt8} {r : List (List UInt8)} {f : Fn} (h : fnG N (words l) = .ok (f, r)) : (addsW [] (toksF f)).length ≤ 2 * l.length := by
  have h1 := adds_up (toksF f) []
  rw [← fnG_sound h] at h1
  have h2 := words_sum l
  rw [← fnG_sound h]
  simp at h1
  omega
end Go.Proofs.YtemdnmfldihalaaDoor.Lg
namespace Go.Proofs.YtemdnmfldihalaaDoor.Lg
set_option linter.unusedVariables false

def NZ {α : Type} (r : Res α) : Prop := ∀ x, r = .error x → ¬ x = 0
theorem nz_and {α β : Type} {x : Res α} {f : α → List (List UInt8) → Res β} (h : NZ x) (h2 : ∀ a r, NZ (f a r)) : NZ (andT x f) := by
  intro y hy
  cases x with
  | error e => exact h y (by cases hy; rfl)
  | ok p => exact h2 p.1 p.2 y hy
theorem nz_ok {α : Type} (p : α × List (List UInt8)) : NZ (.ok p : Res α) := fun x h => by cases h
theorem nz_err {α : Type} {k : Int} (h : ¬ k = 0) : NZ (.error k : Res α) := fun x e => by cases e; exact h
theorem nz_if {α : Type} {p : Prop} [Decidable p] {a b : Res α} (ha : NZ a) (hb : NZ b) : NZ (if p then a else b) := by
  by_cases h : p
  · rw [if_pos h]; exact ha
  · rw [if_neg h]; exact hb
theorem nz_next (l : List (List UInt8)) : NZ (next l) := by
  cases l with
  | nil => exact nz_err (by decide)
  | cons a r => exact nz_ok _
theorem nz_want (x : List UInt8) (l : List (List UInt8)) : NZ (want x l) := nz_and (nz_next l) fun _ _ => nz_if (nz_ok _) (nz_err (by decide))
theorem nz_name (l : List (List UInt8)) : NZ (nameT l) := nz_and (nz_next l) fun _ _ => nz_if (nz_ok _) (nz_err (by decide))
theorem nz_num (lo hi : Int) (l : List (List UInt8)) : NZ (numT lo hi l) := by
  refine nz_and (nz_next l) fun _ _ => ?_
  repeat (first | exact nz_ok _ | exact nz_err (by decide) | refine nz_if ?_ ?_)
theorem nz_lab (l : List (List UInt8)) : NZ (labT l) := by
  refine nz_and (nz_next l) fun _ _ => ?_
  repeat (first | exact nz_ok _ | exact nz_err (by decide) | refine nz_if ?_ ?_)
theorem nz_head (k : List UInt8) (q : List (List UInt8)) : NZ (headT k q) := by
  unfold headT
  repeat (first | exact nz_ok _ | exact nz_err (by decide) | refine nz_if ?_ ?_ | refine nz_and (nz_name _) fun _ _ => ?_)
theorem nz_many {α : Type} {f : List (List UInt8) → Res α} (h : ∀ l, NZ (f l)) : ∀ (n : Nat) (l : List (List UInt8)), NZ (manyT f n l)
  | 0, l => nz_ok _
  | n + 1, l => nz_and (h l) fun _ r => nz_and (nz_many h n r) fun _ _ => nz_ok _
theorem nz_expr : ∀ (m : Nat) (l : List (List UInt8)), NZ (exprT m l)
  | 0, l => nz_err (by decide)
  | m + 1, l => by
    refine nz_and (nz_next l) fun _ _ => nz_if ?_ (nz_if (nz_ok _) (nz_if (nz_ok _) (nz_err (by decide))))
    exact nz_and (nz_next _) fun _ _ => nz_and (nz_head _ _) fun _ _ => nz_and (nz_many (nz_expr m) _ _) fun _ _ => nz_and (nz_want _ _) fun _ _ => nz_ok _
theorem nz_upto {α : Type} {f : List (List UInt8) → Res α} (h : ∀ l, NZ (f l)) : ∀ (n : Nat) (l : List (List UInt8)), NZ (uptoG f n l)
  | 0, l => nz_err (by decide)
  | n + 1, l => by
    unfold uptoG
    repeat (first | exact nz_ok _ | exact nz_err (by decide) | refine nz_if ?_ ?_ | refine nz_and (nz_next _) fun _ _ => ?_ | refine nz_and (nz_want _ _) fun _ _ => ?_ | refine nz_and (h _) fun _ _ => ?_ | refine nz_and (nz_upto h n _) fun _ _ => ?_)
theorem nz_stmt (N : Nat) : ∀ (m : Nat) (l : List (List UInt8)), NZ (stmtG N m l)
  | 0, l => nz_err (by decide)
  | m + 1, l => by
    unfold stmtG
    repeat (first | exact nz_ok _ | exact nz_err (by decide) | refine nz_if ?_ ?_ | refine nz_and (nz_next _) fun _ _ => ?_ | refine nz_and (nz_want _ _) fun _ _ => ?_ | refine nz_and (nz_lab _) fun _ _ => ?_ | refine nz_and (nz_name _) fun _ _ => ?_ | refine nz_and (nz_num _ _ _) fun _ _ => ?_ | refine nz_and (nz_expr _ _) fun _ _ => ?_ | refine nz_and (nz_many (nz_expr m) _ _) fun _ _ => ?_ | refine nz_and (nz_upto (nz_stmt N m) _ _) fun _ _ => ?_)
theorem nz_var (l : List (List UInt8)) : NZ (varG l) := nz_and (nz_lab _) fun _ _ => nz_and (nz_name _) fun _ _ => nz_and (nz_want _ _) fun _ _ => nz_ok _
theorem nz_arr (l : List (List UInt8)) : NZ (arrG l) := nz_and (nz_lab _) fun _ _ => nz_and (nz_name _) fun _ _ => nz_and (nz_num _ _ _) fun _ _ => nz_and (nz_want _ _) fun _ _ => nz_ok _
theorem nz_fn (N : Nat) (l : List (List UInt8)) : NZ (fnG N l) := by
  unfold fnG
  repeat (first | exact nz_ok _ | exact nz_err (by decide) | refine nz_if ?_ ?_ | refine nz_and (nz_next _) fun _ _ => ?_ | refine nz_and (nz_want _ _) fun _ _ => ?_ | refine nz_and (nz_upto nz_var _ _) fun _ _ => ?_ | refine nz_and (nz_upto nz_arr _ _) fun _ _ => ?_ | refine nz_and (nz_upto (nz_stmt N 9) _ _) fun _ _ => ?_)
end Go.Proofs.YtemdnmfldihalaaDoor.Lg
namespace Go.Proofs.YtemdnmfldihalaaDoor.Lg
set_option linter.unusedVariables false

/-- No more is left than there was. -/
def Sh {α : Type} (l : List (List UInt8)) (x : Res α) : Prop := ∀ a r, x = .ok (a, r) → r.length ≤ l.length
theorem sh_and {α β : Type} {l : List (List UInt8)} {x : Res α} {f : α → List (List UInt8) → Res β} (h : Sh l x) (h2 : ∀ a r, Sh r (f a r)) : Sh l (andT x f) := by
  intro b q hb
  obtain ⟨a, r, h3, h4⟩ := andT_inv hb
  exact Nat.le_trans (h2 a r b q h4) (h a r h3)
theorem sh_ok {α : Type} (a : α) (l : List (List UInt8)) : Sh l (.ok (a, l) : Res α) := fun _ _ h => by cases h; exact Nat.le_refl _
theorem sh_err {α : Type} (k : Int) (l : List (List UInt8)) : Sh l (.error k : Res α) := fun _ _ h => by cases h
theorem sh_if {α : Type} {l : List (List UInt8)} {p : Prop} [Decidable p] {a b : Res α} (ha : Sh l a) (hb : Sh l b) : Sh l (if p then a else b) := by
  by_cases h : p
  · rw [if_pos h]; exact ha
  · rw [if_neg h]; exact hb
theorem sh_next (l : List (List UInt8)) : Sh l (next l) := fun w r h => by
  rw [next_sound h]; simp
theorem sh_want (x : List UInt8) (l : List (List UInt8)) : Sh l (want x l) := sh_and (sh_next l) fun _ _ => sh_if (sh_ok _ _) (sh_err _ _)
theorem sh_name (l : List (List UInt8)) : Sh l (nameT l) := sh_and (sh_next l) fun _ _ => sh_if (sh_ok _ _) (sh_err _ _)
theorem sh_num (lo hi : Int) (l : List (List UInt8)) : Sh l (numT lo hi l) := sh_and (sh_next l) fun _ _ => sh_if (sh_if (sh_err _ _) (sh_ok _ _)) (sh_err _ _)
theorem sh_lab (l : List (List UInt8)) : Sh l (labT l) := sh_and (sh_next l) fun _ _ => sh_if (sh_ok _ _) (sh_if (sh_ok _ _) (sh_err _ _))
theorem sh_expr (m : Nat) (l : List (List UInt8)) : Sh l (exprT m l) := fun e r h => by
  rw [exprT_sound m l e r h]; simp
theorem sh_upto {α : Type} {f : List (List UInt8) → Res α} (h : ∀ l, Sh l (f l)) : ∀ (n : Nat) (l : List (List UInt8)), Sh l (uptoT f n l)
  | 0, l => sh_err _ _
  | n + 1, l => by
    unfold uptoT
    refine sh_if ?_ (sh_and (h l) fun _ r => sh_and (sh_upto h n r) fun _ _ => sh_ok _ _)
    intro a r hr
    cases hr
    simp
theorem sh_stmt : ∀ (m : Nat) (l : List (List UInt8)), Sh l (stmtT m l)
  | 0, l => sh_err _ _
  | m + 1, l => by
    unfold stmtT
    repeat (first | exact sh_ok _ _ | exact sh_err _ _ | refine sh_if ?_ ?_ | refine sh_and (sh_next _) fun _ _ => ?_ | refine sh_and (sh_want _ _) fun _ _ => ?_ | refine sh_and (sh_lab _) fun _ _ => ?_ | refine sh_and (sh_name _) fun _ _ => ?_ | refine sh_and (sh_num _ _ _) fun _ _ => ?_ | refine sh_and (sh_expr _ _) fun _ _ => ?_ | refine sh_and (sh_upto (sh_stmt m) _ _) fun _ _ => ?_)
/-- Behind a word there is less. -/
theorem lt_want {α : Type} {x : List UInt8} {l : List (List UInt8)} {f : Unit → List (List UInt8) → Res α} (h : ∀ r, Sh r (f () r)) {a : α} {q : List (List UInt8)} (hq : andT (want x l) f = .ok (a, q)) : q.length < l.length := by
  obtain ⟨u, r, h1, h2⟩ := andT_inv hq
  have := h r a q h2
  rw [want_sound h1, List.length_cons]
  omega
theorem stmt_less (m : Nat) (l : List (List UInt8)) (t : St) (r : List (List UInt8)) (h : stmtT m l = .ok (t, r)) : r.length < l.length := by
  cases m with
  | zero => cases h
  | succ m =>
    unfold stmtT at h
    refine lt_want (fun r => ?_) h
    repeat (first | exact sh_ok _ _ | exact sh_err _ _ | refine sh_if ?_ ?_ | refine sh_and (sh_next _) fun _ _ => ?_ | refine sh_and (sh_want _ _) fun _ _ => ?_ | refine sh_and (sh_lab _) fun _ _ => ?_ | refine sh_and (sh_name _) fun _ _ => ?_ | refine sh_and (sh_num _ _ _) fun _ _ => ?_ | refine sh_and (sh_expr _ _) fun _ _ => ?_ | refine sh_and (sh_upto (sh_stmt m) _ _) fun _ _ => ?_)
theorem var_less (l : List (List UInt8)) (t : Vr) (r : List (List UInt8)) (h : varT l = .ok (t, r)) : r.length < l.length := by
  unfold varT at h
  refine lt_want (fun r => ?_) h
  repeat (first | exact sh_ok _ _ | refine sh_and (sh_want _ _) fun _ _ => ?_ | refine sh_and (sh_lab _) fun _ _ => ?_ | refine sh_and (sh_name _) fun _ _ => ?_)
theorem arr_less (l : List (List UInt8)) (t : Vr) (r : List (List UInt8)) (h : arrT l = .ok (t, r)) : r.length < l.length := by
  unfold arrT at h
  refine lt_want (fun r => ?_) h
  repeat (first | exact sh_ok _ _ | refine sh_and (sh_want _ _) fun _ _ => ?_ | refine sh_and (sh_lab _) fun _ _ => ?_ | refine sh_and (sh_name _) fun _ _ => ?_ | refine sh_and (sh_num _ _ _) fun _ _ => ?_)
theorem sum_len : ∀ l : List (List UInt8), l.length ≤ (l.map fun t => t.length + 1).sum
  | [] => by simp
  | a :: r => by have := sum_len r; simp only [List.map_cons, List.sum_cons, List.length_cons]; omega
theorem words_len (l : List UInt8) : (words l).length ≤ 2 * l.length := Nat.le_trans (sum_len _) (words_sum l)
/-- Faults have numbers. -/
theorem ub_nz : True := trivial
end Go.Proofs.YtemdnmfldihalaaDoor.Lg
namespace Go.Proofs.YtemdnmfldihalaaDoor.Lg
set_option linter.unusedVariables false
set_option linter.unusedSimpArgs false

/-- A name that is there. -/
structure Nm where
  name : List UInt8
  secret : Bool
  loop : Bool
def byN (ns : List Nm) (x : List UInt8) : Option Nm := ns.find? fun v => v.name == x
def byV (rs : List Vr) (x : List UInt8) : Option Vr := rs.find? fun v => v.name == x
def thenK {α β : Type} (x : Except Int α) (f : α → Except Int β) : Except Int β := match x with
  | .error e => .error e
  | .ok a => f a
theorem thenK_ok {α β : Type} (a : α) (f : α → Except Int β) : thenK (.ok a) f = f a := rfl
theorem thenK_err {α β : Type} (e : Int) (f : α → Except Int β) : thenK (.error e) f = .error e := rfl
theorem thenK_inv {α β : Type} {x : Except Int α} {f : α → Except Int β} {b : β} (h : thenK x f = .ok b) : ∃ a, x = .ok a ∧ f a = .ok b := by
  cases x with
  | error e => cases h
  | ok a => exact ⟨a, rfl, h⟩
/-- A place of an array: is it secret? -/
def placeK (rs : List Vr) (dark : Bool) (x : List UInt8) (p : Ex) (s : Bool) : Except Int Bool := match byV rs x with
  | none => .error 6
  | some v => if (s || (dark && !(decide (p.kind = 1) && decide (p.n < v.size)))) = true then .error 10 else .ok v.secret
def argsK (f : Ex → Except Int Bool) : List Ex → Bool → Except Int Bool
  | [], s => .ok s
  | a :: l, s => thenK (f a) fun x => argsK f l (x || s)
/-- An expression: is it secret? -/
def exprK (rs : List Vr) (ns : List Nm) (dark : Bool) : Nat → Ex → Except Int Bool
  | 0, _ => .ok false
  | m + 1, e => if e.kind = 1 then .ok false else if e.kind = 2 then (match byN ns e.name with | none => .error 6 | some v => .ok v.secret)
    else if e.kind = 5 then (match e.args with | [] => .ok false | p :: _ => thenK (exprK rs ns dark m p) fun s => placeK rs dark e.name p s)
    else argsK (exprK rs ns dark m) e.args false
/-- How far it has come. -/
structure Ks where
  ns : List Nm
  work : Nat
  lets : Nat
def takenK (rs : List Vr) (ns : List Nm) (x : List UInt8) : Bool := (byN ns x).isSome || (byV rs x).isSome
def letK (rs : List Vr) (t : St) (dark s : Bool) (k : Ks) : Except Int Ks := if takenK rs k.ns t.name = true then .error 7 else if (!t.secret && (s || dark)) = true then .error 10 else if 24 < k.lets + 1 then .error 4 else .ok ⟨k.ns ++ [⟨t.name, t.secret, false⟩], k.work, k.lets + 1⟩
def setK (t : St) (dark s : Bool) (k : Ks) : Except Int Ks := match byN k.ns t.name with
  | none => .error 6
  | some v => if v.loop = true then .error 6 else if (!v.secret && (s || dark)) = true then .error 10 else .ok k
def stmtsK (f : St → Ks → Except Int Ks) : List St → Ks → Except Int Ks
  | [], k => .ok k
  | t :: l, k => thenK (f t k) fun k => stmtsK f l k
/-- A block: its names end with it. -/
def blockK (f : St → Ks → Except Int Ks) (l : List St) (k : Ks) : Except Int Ks := thenK (stmtsK f l k) fun k' => .ok ⟨k.ns, k'.work, k'.lets⟩
def roundsK (f : Ks → Except Int Ks) : Nat → Ks → Except Int Ks
  | 0, k => .ok k
  | n + 1, k => thenK (f k) fun k => roundsK f n k
def head (l : List Ex) : Ex := l.headD ⟨0, 0, [], []⟩
/-- A statement. -/
def stmtK (rs : List Vr) : Nat → Bool → St → Ks → Except Int Ks
  | 0, _, _, k => .ok k
  | m + 1, dark, t, k0 => if 300 < k0.work + 1 then .error 4 else
    let k : Ks := ⟨k0.ns, k0.work + 1, k0.lets⟩
    if t.kind = 1 then thenK (exprK rs k.ns dark m (head t.args)) fun s => letK rs t dark s k
    else if t.kind = 2 then thenK (exprK rs k.ns dark m (head t.args)) fun s => setK t dark s k
    else if t.kind = 3 then thenK (exprK rs k.ns dark m (head t.args)) fun s => thenK (exprK rs k.ns dark m (head t.args.tail)) fun u => thenK (placeK rs dark t.name (head t.args) s) fun to => if (!to && (u || dark)) = true then .error 10 else .ok k
    else if t.kind = 4 then thenK (exprK rs k.ns dark m (head t.args)) fun s => thenK (blockK (stmtK rs m (s || dark)) t.thn k) fun k => blockK (stmtK rs m (s || dark)) t.els k
    else if t.kind = 5 then if takenK rs k.ns t.name = true then .error 7 else thenK (roundsK (blockK (stmtK rs m dark) t.thn) t.n.toNat ⟨k.ns ++ [⟨t.name, false, true⟩], k.work, k.lets⟩) fun k' => .ok ⟨k.ns, k'.work, k'.lets⟩
    else if t.kind = 6 then thenK (exprK rs k.ns dark m (head t.args)) fun s => if dark = true then .error 10 else .ok k
    else .ok k
def twiceA (pre : List Vr) : List Vr → Bool
  | [] => false
  | v :: r => (byV pre v.name).isSome || twiceA (pre ++ [v]) r
def twiceK (l : List Vr) : Bool := twiceA [] l
def nmOf (v : Vr) : Nm := ⟨v.name, v.secret, false⟩
/-- What is wrong with a program; 0, if nothing is. -/
def checkK (f : Fn) : Int := if 4 < f.params.length ∨ 3 < f.arrays.length then 5 else if twiceK (f.params ++ f.arrays) = true then 7 else match blockK (stmtK f.arrays 9 false) f.body ⟨f.params.map nmOf, 0, 0⟩ with
  | .error x => x
  | .ok _ => 0

/-- What is never told. -/
def No (n : Int) {α : Type} (x : Except Int α) (p : α → Prop) : Prop := (∀ e, x = .error e → ¬ e = n) ∧ ∀ a, x = .ok a → p a
theorem No.ok {n : Int} {α : Type} {a : α} {p : α → Prop} (h : p a) : No n (.ok a) p := ⟨fun e he => (by cases he), fun b hb => (by cases hb; exact h)⟩
theorem No.err {n e : Int} {α : Type} {p : α → Prop} (h : ¬ e = n) : No n (.error e : Except Int α) p := ⟨fun x hx => (by cases hx; exact h), fun b hb => (by cases hb)⟩
theorem No.andThen {n : Int} {α β : Type} {x : Except Int α} {f : α → Except Int β} {p : α → Prop} {q : β → Prop} (h : No n x p) (hf : ∀ a, p a → No n (f a) q) : No n (thenK x f) q := by
  cases x with
  | error e => exact .err (h.1 e rfl)
  | ok a => exact hf a (h.2 a rfl)
theorem No.mono {n : Int} {α : Type} {x : Except Int α} {p q : α → Prop} (h : No n x p) (hq : ∀ a, p a → q a) : No n x q := ⟨h.1, fun a ha => hq a (h.2 a ha)⟩
theorem No.ite {n : Int} {α : Type} {c : Prop} [Decidable c] {a b : Except Int α} {p : α → Prop} (ha : c → No n a p) (hb : ¬ c → No n b p) : No n (if c then a else b) p := by
  by_cases h : c
  · rw [if_pos h]; exact ha h
  · rw [if_neg h]; exact hb h
theorem byN_mem {ns : List Nm} {x : List UInt8} {v : Nm} (h : byN ns x = some v) : v ∈ ns := List.mem_of_find?_eq_some h
theorem byV_mem {rs : List Vr} {x : List UInt8} {v : Vr} (h : byV rs x = some v) : v ∈ rs := List.mem_of_find?_eq_some h

def PubN (ns : List Nm) : Prop := ∀ v ∈ ns, v.secret = false
def PubV (rs : List Vr) : Prop := ∀ v ∈ rs, v.secret = false
/-- Nothing in a statement is made secret. -/
def PubS : Nat → St → Prop
  | 0, _ => True
  | m + 1, t => t.secret = false ∧ (∀ u ∈ t.thn, PubS m u) ∧ ∀ u ∈ t.els, PubS m u
theorem place_pub {rs : List Vr} (hr : PubV rs) (x : List UInt8) (p : Ex) : No 10 (placeK rs false x p false) (fun s => s = false) := by
  unfold placeK
  cases h : byV rs x with
  | none => exact .err (by decide)
  | some v => exact .ok (hr v (byV_mem h))
theorem args_pub {f : Ex → Except Int Bool} (hf : ∀ e, No 10 (f e) (fun s => s = false)) : ∀ l, No 10 (argsK f l false) (fun s => s = false)
  | [] => .ok rfl
  | a :: l => by
    rw [argsK]
    exact (hf a).andThen fun s hs => by subst hs; exact args_pub hf l
theorem expr_pub {rs : List Vr} {ns : List Nm} (hr : PubV rs) (hn : PubN ns) : ∀ m e, No 10 (exprK rs ns false m e) (fun s => s = false)
  | 0, e => .ok rfl
  | m + 1, e => by
    rw [exprK]
    refine .ite (fun _ => .ok rfl) fun _ => .ite (fun _ => ?_) fun _ => .ite (fun _ => ?_) fun _ => args_pub (expr_pub hr hn m) _
    · cases h : byN ns e.name with
      | none => exact .err (by decide)
      | some v => exact .ok (hn v (byN_mem h))
    · cases e.args with
      | nil => exact .ok rfl
      | cons p l => exact (expr_pub hr hn m p).andThen fun s hs => by subst hs; exact place_pub hr _ _
theorem stmts_no {n : Int} {f : St → Ks → Except Int Ks} {p : Ks → Prop} : ∀ (l : List St), (∀ t ∈ l, ∀ k, p k → No n (f t k) p) → ∀ k, p k → No n (stmtsK f l k) p
  | [], _, k, hk => .ok hk
  | t :: l, h, k, hk => by
    rw [stmtsK]
    exact (h t (by simp) k hk).andThen fun k' hk' => stmts_no l (fun u hu => h u (by simp [hu])) k' hk'
theorem rounds_no {n : Int} {f : Ks → Except Int Ks} {p : Ks → Prop} (h : ∀ k, p k → No n (f k) p) : ∀ (i : Nat) (k : Ks), p k → No n (roundsK f i k) p
  | 0, k, hk => .ok hk
  | i + 1, k, hk => by
    rw [roundsK]
    exact (h k hk).andThen fun k' hk' => rounds_no h i k' hk'
theorem block_pub {f : St → Ks → Except Int Ks} (l : List St) (h : ∀ t ∈ l, ∀ k, PubN k.ns → No 10 (f t k) (fun k => PubN k.ns)) {k : Ks} (hk : PubN k.ns) : No 10 (blockK f l k) (fun k => PubN k.ns) :=
  (stmts_no l h k hk).andThen fun k' _ => .ok hk
theorem stmt_pub {rs : List Vr} (hr : PubV rs) : ∀ (m : Nat) (t : St), PubS m t → ∀ k : Ks, PubN k.ns → No 10 (stmtK rs m false t k) (fun k => PubN k.ns)
  | 0, t, _, k, hk => .ok hk
  | m + 1, t, ht, k, hk => by
    rw [stmtK]
    refine .ite (fun _ => .err (by decide)) fun _ => ?_
    have hx := fun e => expr_pub hr hk m e
    refine .ite (fun _ => (hx _).andThen fun s hs => ?_) fun _ => .ite (fun _ => (hx _).andThen fun s hs => ?_) fun _ => .ite (fun _ => (hx _).andThen fun s hs => (hx _).andThen fun u hu => ?_) fun _ => .ite (fun _ => (hx _).andThen fun s hs => ?_) fun _ => .ite (fun _ => ?_) fun _ => .ite (fun _ => (hx _).andThen fun s hs => ?_) fun _ => .ok hk
    · subst hs
      unfold letK
      refine .ite (fun _ => .err (by decide)) fun _ => .ite (fun h => by simp at h) fun _ => .ite (fun _ => .err (by decide)) fun _ => .ok ?_
      intro v hv
      rcases List.mem_append.1 hv with h | h
      · exact hk v h
      · rw [List.mem_singleton] at h; rw [h]; exact ht.1
    · subst hs
      unfold setK
      cases hb : byN k.ns t.name with
      | none => exact .err (by decide)
      | some v => exact .ite (fun _ => .err (by decide)) fun _ => .ite (fun h => by simp at h) fun _ => .ok hk
    · subst hs hu
      exact (place_pub hr _ _).andThen fun to hto => by subst hto; exact .ite (fun h => by simp at h) fun _ => .ok hk
    · subst hs
      rw [show (false || false) = false from rfl]
      exact (block_pub (k := ⟨k.ns, k.work + 1, k.lets⟩) _ (fun u hu => stmt_pub hr m u (ht.2.1 u hu)) hk).andThen fun k' hk' => block_pub _ (fun u hu => stmt_pub hr m u (ht.2.2 u hu)) hk'
    · refine .ite (fun _ => .err (by decide)) fun _ => (rounds_no (p := fun k => PubN k.ns) (fun k' hk' => block_pub _ (fun u hu => stmt_pub hr m u (ht.2.1 u hu)) hk') _ _ ?_).andThen fun k' _ => .ok hk
      intro v hv
      rcases List.mem_append.1 hv with h | h
      · exact hk v h
      · rw [List.mem_singleton] at h; rw [h]
    · exact .ite (fun h => by simp at h) fun _ => .ok hk
/-- WHERE ALL IS PUBLIC NOTHING IS HIDDEN. -/
theorem check_pub (f : Fn) (hp : PubV f.params) (ha : PubV f.arrays) (hb : ∀ t ∈ f.body, PubS 9 t) : ¬ checkK f = 10 := by
  unfold checkK
  by_cases h1 : 4 < f.params.length ∨ 3 < f.arrays.length
  · rw [if_pos h1]; decide
  · rw [if_neg h1]
    by_cases h2 : twiceK (f.params ++ f.arrays) = true
    · rw [if_pos h2]; decide
    · rw [if_neg h2]
      have h := block_pub f.body (fun t ht => stmt_pub ha 9 t (hb t ht)) (k := ⟨f.params.map nmOf, 0, 0⟩) (fun v hv => by
        obtain ⟨u, hu, rfl⟩ := List.mem_map.1 hv
        exact hp u hu)
      cases hr : blockK (stmtK f.arrays 9 false) f.body ⟨f.params.map nmOf, 0, 0⟩ with
      | error x => exact h.1 x hr
      | ok k => exact fun hh : (0 : Int) = 10 => absurd hh (by decide)

/-- What comes of what is right: names behind those that were there, not too much done, not too many made. -/
structure Gd (k k' : Ks) : Prop where
  ns : ∃ ex, k'.ns = k.ns ++ ex
  work : k.work ≤ k'.work
  most : k'.work ≤ 300
  lets : k'.lets ≤ 24
  len : k'.ns.length + k.work ≤ k.ns.length + k'.work
theorem Gd.refl {k : Ks} (h1 : k.work ≤ 300) (h2 : k.lets ≤ 24) : Gd k k := ⟨⟨[], by simp⟩, Nat.le_refl _, h1, h2, Nat.le_refl _⟩
theorem Gd.trans {a b c : Ks} (h : Gd a b) (k : Gd b c) : Gd a c := by
  obtain ⟨x, hx⟩ := h.ns
  obtain ⟨y, hy⟩ := k.ns
  refine ⟨⟨x ++ y, by rw [hy, hx, List.append_assoc]⟩, Nat.le_trans h.work k.work, k.most, k.lets, ?_⟩
  have := h.len; have := k.len; omega
theorem place_nz (rs : List Vr) (dark : Bool) (x : List UInt8) (p : Ex) (s : Bool) : No 0 (placeK rs dark x p s) (fun _ => True) := by
  unfold placeK
  cases byV rs x with
  | none => exact .err (by decide)
  | some v => exact .ite (fun _ => .err (by decide)) fun _ => .ok trivial
theorem args_nz {f : Ex → Except Int Bool} (hf : ∀ e, No 0 (f e) (fun _ => True)) : ∀ l s, No 0 (argsK f l s) (fun _ => True)
  | [], s => .ok trivial
  | a :: l, s => by
    rw [argsK]
    exact (hf a).andThen fun x _ => args_nz hf l _
theorem expr_nz (rs : List Vr) (ns : List Nm) (dark : Bool) : ∀ m e, No 0 (exprK rs ns dark m e) (fun _ => True)
  | 0, e => .ok trivial
  | m + 1, e => by
    rw [exprK]
    refine .ite (fun _ => .ok trivial) fun _ => .ite (fun _ => ?_) fun _ => .ite (fun _ => ?_) fun _ => args_nz (expr_nz rs ns dark m) _ _
    · cases byN ns e.name with
      | none => exact .err (by decide)
      | some v => exact .ok trivial
    · cases e.args with
      | nil => exact .ok trivial
      | cons p l => exact (expr_nz rs ns dark m p).andThen fun s _ => place_nz _ _ _ _ _
theorem stmts_gd {f : St → Ks → Except Int Ks} (l : List St) (h : ∀ t ∈ l, ∀ k, k.work ≤ 300 → k.lets ≤ 24 → No 0 (f t k) (Gd k)) (k : Ks) (h1 : k.work ≤ 300) (h2 : k.lets ≤ 24) : No 0 (stmtsK f l k) (Gd k) :=
  stmts_no (p := Gd k) l (fun t ht k' hk' => (h t ht k' hk'.most hk'.lets).mono fun a ha => hk'.trans ha) k (.refl h1 h2)
theorem block_gd {f : St → Ks → Except Int Ks} (l : List St) (h : ∀ t ∈ l, ∀ k, k.work ≤ 300 → k.lets ≤ 24 → No 0 (f t k) (Gd k)) (k : Ks) (h1 : k.work ≤ 300) (h2 : k.lets ≤ 24) : No 0 (blockK f l k) (fun k' => Gd k k' ∧ k'.ns = k.ns) := by
  refine (stmts_gd l h k h1 h2).andThen fun k' hk' => .ok ⟨⟨⟨[], by simp⟩, hk'.work, hk'.most, hk'.lets, ?_⟩, rfl⟩
  have := hk'.work
  show k.ns.length + k.work ≤ k.ns.length + k'.work
  omega
theorem rounds_gd {f : Ks → Except Int Ks} (h : ∀ k, k.work ≤ 300 → k.lets ≤ 24 → No 0 (f k) (fun k' => Gd k k' ∧ k'.ns = k.ns)) (i : Nat) (k : Ks) (h1 : k.work ≤ 300) (h2 : k.lets ≤ 24) : No 0 (roundsK f i k) (fun k' => Gd k k' ∧ k'.ns = k.ns) :=
  rounds_no (p := fun k' => Gd k k' ∧ k'.ns = k.ns) (fun k' hk' => (h k' hk'.1.most hk'.1.lets).mono fun a ha => ⟨hk'.1.trans ha.1, ha.2.trans hk'.2⟩) i k ⟨.refl h1 h2, rfl⟩
theorem let_gd (rs : List Vr) (t : St) (dark s : Bool) (k0 : Ks) (h1 : k0.work + 1 ≤ 300) (h2 : k0.lets ≤ 24) : No 0 (letK rs t dark s ⟨k0.ns, k0.work + 1, k0.lets⟩) (Gd k0) := by
  unfold letK
  refine .ite (fun _ => .err (by decide)) fun _ => .ite (fun _ => .err (by decide)) fun _ => .ite (fun _ => .err (by decide)) fun h => .ok ⟨⟨_, rfl⟩, by simp, by simpa using h1, by dsimp only at h ⊢; omega, by simp; omega⟩
theorem set_gd (t : St) (dark s : Bool) (k0 : Ks) (h1 : k0.work + 1 ≤ 300) (h2 : k0.lets ≤ 24) : No 0 (setK t dark s ⟨k0.ns, k0.work + 1, k0.lets⟩) (Gd k0) := by
  unfold setK
  cases byN k0.ns t.name with
  | none => exact .err (by decide)
  | some v => exact .ite (fun _ => .err (by decide)) fun _ => .ite (fun _ => .err (by decide)) fun _ => .ok ⟨⟨[], by simp⟩, by simp, by simpa using h1, h2, by simp⟩
theorem stmt_gd (rs : List Vr) : ∀ (m : Nat) (dark : Bool) (t : St) (k : Ks), k.work ≤ 300 → k.lets ≤ 24 → No 0 (stmtK rs m dark t k) (Gd k)
  | 0, dark, t, k, h1, h2 => .ok (.refl h1 h2)
  | m + 1, dark, t, k, h1, h2 => by
    rw [stmtK]
    refine .ite (fun _ => .err (by decide)) fun hw => ?_
    have hx := fun e => expr_nz rs k.ns dark m e
    have hk : Gd k ⟨k.ns, k.work + 1, k.lets⟩ := ⟨⟨[], by simp⟩, by simp, by simp; omega, h2, by simp⟩
    refine .ite (fun _ => (hx _).andThen fun s hs => ?_) fun _ => .ite (fun _ => (hx _).andThen fun s hs => ?_) fun _ => .ite (fun _ => (hx _).andThen fun s hs => (hx _).andThen fun u hu => ?_) fun _ => .ite (fun _ => (hx _).andThen fun s hs => ?_) fun _ => .ite (fun _ => ?_) fun _ => .ite (fun _ => (hx _).andThen fun s hs => ?_) fun _ => .ok hk
    · exact let_gd rs t dark s k (by omega) h2
    · exact set_gd t dark s k (by omega) h2
    · exact (place_nz _ _ _ _ _).andThen fun to _ => .ite (fun _ => .err (by decide)) fun _ => .ok hk
    · exact (block_gd _ (fun u _ k a b => stmt_gd rs m _ u k a b) _ hk.most hk.lets).andThen fun k' hk' => (block_gd _ (fun u _ k a b => stmt_gd rs m _ u k a b) _ hk'.1.most hk'.1.lets).mono fun a ha => (hk.trans hk'.1).trans ha.1
    · refine .ite (fun _ => .err (by decide)) fun _ => (rounds_gd (fun k a b => block_gd _ (fun u _ k a b => stmt_gd rs m _ u k a b) k a b) _ ⟨k.ns ++ [⟨t.name, false, true⟩], k.work + 1, k.lets⟩ hk.most hk.lets).andThen fun k' hk' => .ok ⟨⟨[], by simp⟩, ?_, hk'.1.most, hk'.1.lets, ?_⟩
      · have := hk'.1.work
        dsimp only at this ⊢; omega
      · have := hk'.1.work
        dsimp only at this ⊢; omega
    · exact .ite (fun _ => .err (by decide)) fun _ => .ok hk
theorem body_nz (f : Fn) (x : Int) (h : blockK (stmtK f.arrays 9 false) f.body ⟨f.params.map nmOf, 0, 0⟩ = .error x) : ¬ x = 0 :=
  (block_gd f.body (fun u _ k a b => stmt_gd f.arrays 9 false u k a b) ⟨f.params.map nmOf, 0, 0⟩ (by simp) (by simp)).1 x h

/-- All made public. -/
def pubV (v : Vr) : Vr := ⟨v.name, false, v.size⟩
def pubN (v : Nm) : Nm := ⟨v.name, false, v.loop⟩
def pubS : Nat → St → St
  | 0, t => t
  | m + 1, t => ⟨t.kind, t.n, t.name, false, t.args, t.thn.map (pubS m), t.els.map (pubS m)⟩
def pubF (f : Fn) : Fn := ⟨f.params.map pubV, f.arrays.map pubV, f.body.map (pubS 9)⟩
def pubK (k : Ks) : Ks := ⟨k.ns.map pubN, k.work, k.lets⟩
theorem byV_pub (rs : List Vr) (x : List UInt8) : byV (rs.map pubV) x = (byV rs x).map pubV := by
  unfold byV
  rw [List.find?_map]; rfl
theorem byN_pub (ns : List Nm) (x : List UInt8) : byN (ns.map pubN) x = (byN ns x).map pubN := by
  unfold byN
  rw [List.find?_map]; rfl
theorem taken_pub (rs : List Vr) (ns : List Nm) (x : List UInt8) : takenK (rs.map pubV) (ns.map pubN) x = takenK rs ns x := by
  unfold takenK
  rw [byV_pub, byN_pub]; simp
theorem place_sim {rs : List Vr} {dark s : Bool} {x : List UInt8} {p : Ex} {b : Bool} (h : placeK rs dark x p s = .ok b) : placeK (rs.map pubV) false x p false = .ok false := by
  unfold placeK at h ⊢
  rw [byV_pub]
  cases hb : byV rs x with
  | none => rw [hb] at h; cases h
  | some v => rfl
theorem args_sim {f g : Ex → Except Int Bool} (h : ∀ e b, f e = .ok b → g e = .ok false) : ∀ (l : List Ex) (s b : Bool), argsK f l s = .ok b → argsK g l false = .ok false
  | [], s, b, _ => rfl
  | a :: l, s, b, hh => by
    rw [argsK] at hh
    obtain ⟨x, h1, h2⟩ := thenK_inv hh
    rw [argsK, h a x h1, thenK_ok]
    exact args_sim h l _ b h2
theorem expr_sim {rs : List Vr} {ns : List Nm} {dark : Bool} : ∀ (m : Nat) (e : Ex) (b : Bool), exprK rs ns dark m e = .ok b → exprK (rs.map pubV) (ns.map pubN) false m e = .ok false
  | 0, e, b, _ => rfl
  | m + 1, e, b, h => by
    rw [exprK] at h ⊢
    by_cases h1 : e.kind = 1
    · rw [if_pos h1]
    · rw [if_neg h1] at h ⊢
      by_cases h2 : e.kind = 2
      · rw [if_pos h2] at h ⊢
        rw [byN_pub]
        cases hb : byN ns e.name with
        | none => rw [hb] at h; cases h
        | some v => rfl
      · rw [if_neg h2] at h ⊢
        by_cases h5 : e.kind = 5
        · rw [if_pos h5] at h ⊢
          cases ha : e.args with
          | nil => rfl
          | cons p l =>
            rw [ha] at h
            simp only at h ⊢
            obtain ⟨x, k1, k2⟩ := thenK_inv h
            rw [expr_sim m p x k1, thenK_ok]
            exact place_sim k2
        · rw [if_neg h5] at h ⊢
          exact args_sim (expr_sim m) _ _ _ h
theorem stmts_sim {f g : St → Ks → Except Int Ks} {c : St → St} : ∀ (l : List St), (∀ t ∈ l, ∀ k k', f t k = .ok k' → g (c t) (pubK k) = .ok (pubK k')) → ∀ k k', stmtsK f l k = .ok k' → stmtsK g (l.map c) (pubK k) = .ok (pubK k')
  | [], _, k, k', h => by
    rw [stmtsK] at h
    cases h; rfl
  | t :: l, hs, k, k', h => by
    rw [stmtsK] at h
    obtain ⟨x, h1, h2⟩ := thenK_inv h
    rw [List.map_cons, stmtsK, hs t (by simp) k x h1, thenK_ok]
    exact stmts_sim l (fun u hu => hs u (by simp [hu])) x k' h2
theorem block_sim {f g : St → Ks → Except Int Ks} {c : St → St} (l : List St) (hs : ∀ t ∈ l, ∀ k k', f t k = .ok k' → g (c t) (pubK k) = .ok (pubK k')) (k k' : Ks) (h : blockK f l k = .ok k') : blockK g (l.map c) (pubK k) = .ok (pubK k') := by
  unfold blockK at h ⊢
  obtain ⟨x, h1, h2⟩ := thenK_inv h
  rw [stmts_sim l hs k x h1, thenK_ok]
  cases h2; rfl
theorem rounds_sim {f g : Ks → Except Int Ks} (hs : ∀ k k', f k = .ok k' → g (pubK k) = .ok (pubK k')) : ∀ (n : Nat) (k k' : Ks), roundsK f n k = .ok k' → roundsK g n (pubK k) = .ok (pubK k')
  | 0, k, k', h => by
    rw [roundsK] at h
    cases h; rfl
  | n + 1, k, k', h => by
    rw [roundsK] at h
    obtain ⟨x, h1, h2⟩ := thenK_inv h
    rw [roundsK, hs k x h1, thenK_ok]
    exact rounds_sim hs n x k' h2
theorem stmt_sim {rs : List Vr} : ∀ (m : Nat) (dark : Bool) (t : St) (k k' : Ks), stmtK rs m dark t k = .ok k' → stmtK (rs.map pubV) m false (pubS m t) (pubK k) = .ok (pubK k')
  | 0, dark, t, k, k', h => by
    rw [stmtK] at h
    cases h; rfl
  | m + 1, dark, t, k, k', h => by
    show stmtK (rs.map pubV) (m + 1) false ⟨t.kind, t.n, t.name, false, t.args, t.thn.map (pubS m), t.els.map (pubS m)⟩ ⟨k.ns.map pubN, k.work, k.lets⟩ = .ok ⟨k'.ns.map pubN, k'.work, k'.lets⟩
    rw [stmtK] at h ⊢
    dsimp only at h ⊢
    by_cases h0 : 300 < k.work + 1
    · rw [if_pos h0] at h; cases h
    · rw [if_neg h0] at h ⊢
      have hx := fun e b (hh : exprK rs k.ns dark m e = .ok b) => expr_sim m e b hh
      by_cases h1 : t.kind = 1
      · rw [if_pos h1] at h ⊢
        obtain ⟨s, k1, k2⟩ := thenK_inv h
        rw [hx _ _ k1, thenK_ok]
        unfold letK at k2 ⊢
        rw [taken_pub]
        by_cases ht : takenK rs k.ns t.name = true
        · rw [if_pos ht] at k2; cases k2
        · rw [if_neg ht] at k2 ⊢
          by_cases hl : (!t.secret && (s || dark)) = true
          · rw [if_pos hl] at k2; cases k2
          · rw [if_neg hl] at k2
            rw [if_neg (by simp)]
            by_cases hm : 24 < k.lets + 1
            · rw [if_pos hm] at k2; cases k2
            · rw [if_neg hm] at k2 ⊢
              cases k2
              simp [pubN]
      · rw [if_neg h1] at h ⊢
        by_cases h2 : t.kind = 2
        · rw [if_pos h2] at h ⊢
          obtain ⟨s, k1, k2⟩ := thenK_inv h
          rw [hx _ _ k1, thenK_ok]
          unfold setK at k2 ⊢
          rw [byN_pub]
          cases hb : byN k.ns t.name with
          | none => rw [hb] at k2; cases k2
          | some v =>
            rw [hb] at k2
            simp only [Option.map_some] at k2 ⊢
            by_cases hl : v.loop = true
            · rw [if_pos hl] at k2; cases k2
            · rw [if_neg hl] at k2
              rw [if_neg (by simpa [pubN] using hl), if_neg (by simp)]
              by_cases hq : (!v.secret && (s || dark)) = true
              · rw [if_pos hq] at k2; cases k2
              · rw [if_neg hq] at k2
                cases k2; rfl
        · rw [if_neg h2] at h ⊢
          by_cases h3 : t.kind = 3
          · rw [if_pos h3] at h ⊢
            obtain ⟨s, k1, k2⟩ := thenK_inv h
            obtain ⟨u, k3, k4⟩ := thenK_inv k2
            obtain ⟨to, k5, k6⟩ := thenK_inv k4
            rw [hx _ _ k1, thenK_ok, hx _ _ k3, thenK_ok, place_sim k5, thenK_ok, if_neg (by simp)]
            by_cases hq : (!to && (u || dark)) = true
            · rw [if_pos hq] at k6; cases k6
            · rw [if_neg hq] at k6
              cases k6; rfl
          · rw [if_neg h3] at h ⊢
            by_cases h4 : t.kind = 4
            · rw [if_pos h4] at h ⊢
              obtain ⟨s, k1, k2⟩ := thenK_inv h
              obtain ⟨k3, k4, k5⟩ := thenK_inv k2
              rw [hx _ _ k1, thenK_ok]
              have b1 := block_sim (g := stmtK (rs.map pubV) m false) (c := pubS m) t.thn (fun u _ a b hab => stmt_sim m _ u a b hab) _ _ k4
              have b2 := block_sim (g := stmtK (rs.map pubV) m false) (c := pubS m) t.els (fun u _ a b hab => stmt_sim m _ u a b hab) _ _ k5
              simp only [pubK] at b1 b2
              rw [show (false || false) = false from rfl, b1, thenK_ok, b2]
            · rw [if_neg h4] at h ⊢
              by_cases h5 : t.kind = 5
              · rw [if_pos h5] at h ⊢
                rw [taken_pub]
                by_cases ht : takenK rs k.ns t.name = true
                · rw [if_pos ht] at h; cases h
                · rw [if_neg ht] at h ⊢
                  obtain ⟨k3, k4, k5⟩ := thenK_inv h
                  have b1 := rounds_sim (g := blockK (stmtK (rs.map pubV) m false) (t.thn.map (pubS m))) (fun a b hab => block_sim t.thn (fun u _ a b hab => stmt_sim m _ u a b hab) a b hab) _ _ _ k4
                  simp only [pubK, List.map_append, List.map_cons, List.map_nil, pubN] at b1
                  rw [b1, thenK_ok]
                  cases k5; rfl
              · rw [if_neg h5] at h ⊢
                by_cases h6 : t.kind = 6
                · rw [if_pos h6] at h ⊢
                  obtain ⟨s, k1, k2⟩ := thenK_inv h
                  rw [hx _ _ k1, thenK_ok, if_neg (by simp)]
                  by_cases hd : dark = true
                  · rw [if_pos hd] at k2; cases k2
                  · rw [if_neg hd] at k2; cases k2; rfl
                · rw [if_neg h6] at h ⊢
                  cases h; rfl
theorem twice_pubA : ∀ (l pre : List Vr), twiceA (pre.map pubV) (l.map pubV) = twiceA pre l
  | [], pre => rfl
  | v :: r, pre => by
    have h := twice_pubA r (pre ++ [v])
    rw [List.map_append, List.map_cons, List.map_nil] at h
    rw [List.map_cons, twiceA, twiceA, h, show (pubV v).name = v.name from rfl, byV_pub]; simp
theorem twice_pub (l : List Vr) : twiceK (l.map pubV) = twiceK l := twice_pubA l []
/-- What is right is right, where all is public. -/
theorem check_sim (f : Fn) (h : checkK f = 0) : checkK (pubF f) = 0 := by
  unfold checkK pubF at *
  simp only [List.length_map, ← List.map_append, twice_pub] at h ⊢
  by_cases h1 : 4 < f.params.length ∨ 3 < f.arrays.length
  · rw [if_pos h1] at h; exact absurd h (by decide)
  · rw [if_neg h1] at h ⊢
    by_cases h2 : twiceK (f.params ++ f.arrays) = true
    · rw [if_pos h2] at h; exact absurd h (by decide)
    · rw [if_neg h2] at h ⊢
      cases hr : blockK (stmtK f.arrays 9 false) f.body ⟨f.params.map nmOf, 0, 0⟩ with
      | error x =>
        rw [hr] at h
        exact absurd h (body_nz f x hr)
      | ok k =>
        have b := block_sim (g := stmtK (f.arrays.map pubV) 9 false) (c := pubS 9) f.body (fun u _ a b hab => stmt_sim 9 _ u a b hab) _ _ hr
        have e : pubK ⟨f.params.map nmOf, 0, 0⟩ = ⟨(f.params.map pubV).map nmOf, 0, 0⟩ := by
          unfold pubK
          simp only [List.map_map]
          rfl
        rw [e] at b
        rw [b]
end Go.Proofs.YtemdnmfldihalaaDoor.Lg
