/- A text is a word in tens just if it is what the number that it spells is written as. No Go in it. -/
import Derived.Test.YtnnfefohpofipaaWdNumPlain
import Derived.Lib.AtoiAll
import Derived.Lib.ItoaNum
import Derived.Lib.ItoaMem
namespace Go.Proofs.Ytnnfefohpofipaa.Rf
set_option linter.unusedVariables false
open Wd

theorem u8_of (u : Nat) (h : u < 10) : (UInt8.ofNat (48 + u)).toNat = 48 + u := by
  show (48 + u) % 256 = 48 + u
  omega
theorem dig_of (u : Nat) (h : u < 10) : dig (UInt8.ofNat (48 + u)) = true := decide_eq_true (by rw [u8_of u h]; omega)

theorem val_one (c : UInt8) : val [c] = c.toNat - 48 := by simp [val]

theorem digits_snoc {l : List UInt8} {c : UInt8} (h : ∀ x ∈ l ++ [c], dig x = true) : (∀ x ∈ l, dig x = true) ∧ 48 ≤ c.toNat ∧ c.toNat ≤ 57 := by
  refine ⟨fun x hx => h x (by simp [hx]), ?_⟩
  have := h c (by simp)
  unfold dig at this
  exact of_decide_eq_true this

/-- What opens with no 0 is not 0. -/
theorem val_pos : ∀ (n : Nat) (l : List UInt8), l.length = n + 1 → (∀ c ∈ l, dig c = true) → ¬ l[0]? = some 48 → 1 ≤ val l := by
  intro n
  induction n with
  | zero =>
    intro l hl hd h0
    match l, hl with
    | [c], _ =>
      have := hd c (by simp)
      unfold dig at this
      have hc := of_decide_eq_true this
      have hne : ¬ c.toNat = 48 := fun e => h0 (by rw [(u8_48 c).2 e]; rfl)
      rw [val_one]; omega
  | succ n ih =>
    intro l hl hd h0
    have hne : l ≠ [] := by intro h; subst h; simp at hl
    have e := List.dropLast_concat_getLast hne
    have hlen : l.dropLast.length = n + 1 := by simp; omega
    rw [← e] at hd
    obtain ⟨h1, _, _⟩ := digits_snoc hd
    have h2 := ih l.dropLast hlen h1 (by
      intro h; refine h0 ?_
      rw [← e, List.getElem?_append_left (by omega)]; exact h)
    rw [← e, val_snoc]
    omega

/-- What is spelt without a needless 0 is written as it was. -/
theorem dec_val : ∀ (n : Nat) (l : List UInt8), l.length = n + 1 → (∀ c ∈ l, dig c = true) → ¬ (1 < l.length ∧ l[0]? = some 48) → Lib.decDigits (val l) = l := by
  intro n
  induction n with
  | zero =>
    intro l hl hd _
    match l, hl with
    | [c], _ =>
      have := hd c (by simp)
      unfold dig at this
      have hc := of_decide_eq_true this
      rw [val_one, Lib.decDigits_one (by omega)]
      have : UInt8.ofNat (48 + (c.toNat - 48)) = c := UInt8.toNat_inj.1 (by rw [u8_of _ (by omega)]; omega)
      rw [this]
  | succ n ih =>
    intro l hl hd h0
    have hne : l ≠ [] := by intro h; subst h; simp at hl
    have e := List.dropLast_concat_getLast hne
    have hlen : l.dropLast.length = n + 1 := by simp; omega
    have hd' := hd
    rw [← e] at hd'
    obtain ⟨h1, c0, c1⟩ := digits_snoc hd'
    have h48 : ¬ l.dropLast[0]? = some 48 := by
      intro h; refine h0 ⟨by omega, ?_⟩
      rw [← e, List.getElem?_append_left (by omega)]; exact h
    have h2 := ih l.dropLast hlen h1 (fun h => h48 h.2)
    have h3 := val_pos n l.dropLast hlen h1 h48
    have ev : val l = val l.dropLast * 10 + ((l.getLast hne).toNat - 48) := by rw [← val_snoc, e]
    rw [Lib.decDigits, dif_neg (by omega)]
    have e1 : val l / 10 = val l.dropLast := by omega
    have e2 : val l % 10 = (l.getLast hne).toNat - 48 := by omega
    rw [e1, e2, h2]
    have : UInt8.ofNat (48 + ((l.getLast hne).toNat - 48)) = l.getLast hne := UInt8.toNat_inj.1 (by rw [u8_of _ (by omega)]; omega)
    rw [this, e]

/-- What a number is written as: digits, without a needless 0, that spell it. -/
theorem dec_facts (n : Nat) : ∀ u : Nat, u < n → (∀ c ∈ Lib.decDigits u, dig c = true) ∧ val (Lib.decDigits u) = u ∧ 1 ≤ (Lib.decDigits u).length ∧ ((Lib.decDigits u)[0]? = some 48 → u = 0) := by
  induction n with
  | zero => intro u h; omega
  | succ n ih =>
    intro u hu
    by_cases h : u < 10
    · rw [Lib.decDigits_one h]
      refine ⟨fun c hc => ?_, ?_, by simp, fun h0 => ?_⟩
      · have : c = UInt8.ofNat (48 + u) := by simpa using hc
        rw [this]; exact dig_of u h
      · rw [val_one, u8_of u h]; omega
      · have h1 : UInt8.ofNat (48 + u) = 48 := by simpa using h0
        have h2 := (u8_48 _).1 h1
        rw [u8_of u h] at h2; omega
    · rw [Lib.decDigits, dif_neg h]
      obtain ⟨a1, a2, a3, a4⟩ := ih (u / 10) (by omega)
      refine ⟨fun c hc => ?_, ?_, by simp, fun h0 => ?_⟩
      · rcases List.mem_append.1 hc with hc | hc
        · exact a1 c hc
        · have : c = UInt8.ofNat (48 + u % 10) := by simpa using hc
          rw [this]; exact dig_of _ (by omega)
      · rw [val_snoc, a2, u8_of _ (by omega)]; omega
      · rw [List.getElem?_append_left (by omega)] at h0
        have := a4 h0
        omega

theorem isNum_dec (u : Nat) (h : u ≤ 4294967295) : isNum (Lib.decDigits u) = true := by
  obtain ⟨a1, a2, a3, a4⟩ := dec_facts (u + 1) u (by omega)
  refine isNum_mk ⟨a3, ?_, fun hh => ?_, a1, by omega⟩
  · rw [Lib.decDigits_length]
    have hp := Lib.nDigits_pos u
    by_cases hlt : Lib.nDigits u ≤ 10
    · exact hlt
    · exfalso
      have hl := val_lt
      -- ten to the tenth is more than a word
      have hge : ∀ k u : Nat, Lib.nDigits u = k + 1 → 1 ≤ k → 10 ^ k ≤ u := by
        intro k
        induction k with
        | zero => intro u _ h; omega
        | succ k ihk =>
          intro u hk _
          by_cases hu : u < 10
          · rw [Lib.nDigits_small hu] at hk; omega
          · rw [Lib.nDigits_big hu] at hk
            by_cases hk0 : k = 0
            · subst hk0; simp; omega
            · have := ihk (u / 10) (by omega) (by omega)
              rw [Nat.pow_succ]
              omega
      have h1 := hge (Lib.nDigits u - 1) u (by omega) (by omega)
      have h2 : 10 ^ 10 ≤ 10 ^ (Lib.nDigits u - 1) := Nat.pow_le_pow_right (by decide) (by omega)
      have h3 : (10 : Nat) ^ 10 = 10000000000 := by decide
      omega
  · have := a4 hh.2
    subst this
    have : (Lib.decDigits 0).length = 1 := by rw [Lib.decDigits_length]; exact Lib.nDigits_small (by decide)
    omega

theorem num_parts {l : List UInt8} (h : isNum l = true) : 1 ≤ l.length ∧ l.length ≤ 10 ∧ ¬ (1 < l.length ∧ l[0]? = some 48) ∧ (∀ c ∈ l, dig c = true) ∧ val l ≤ 4294967295 := of_decide_eq_true h

theorem dec_of_num {l : List UInt8} (h : isNum l = true) : Lib.decDigits (val l) = l := by
  obtain ⟨h1, h2, h3, h4, h5⟩ := num_parts h
  exact dec_val (l.length - 1) l (by omega) h4 h3

/-- Digits are parsed to what they spell, while that stays small. -/
theorem parse_digits : ∀ (l : List UInt8) (acc : Nat), (∀ c ∈ l, dig c = true) → (acc + 1) * 10 ^ l.length ≤ 10000000000 → Lib.parseUint10 acc l = .ok (l.foldl (fun n c => n * 10 + (c.toNat - 48)) acc) := by
  intro l
  induction l with
  | nil => intro acc _ _; rfl
  | cons c r ih =>
    intro acc hd hb
    have hc := hd c (by simp)
    unfold dig at hc
    have hc' := of_decide_eq_true hc
    have e : (acc + 1) * 10 ^ (r.length + 1) = (acc + 1) * 10 * 10 ^ r.length := by rw [Nat.pow_succ, Nat.mul_assoc, Nat.mul_comm (10 ^ r.length)]
    have hp : 1 ≤ 10 ^ r.length := Nat.one_le_pow _ _ (by decide)
    have hb2 : (acc * 10 + (c.toNat - 48) + 1) * 10 ^ r.length ≤ 10000000000 := by
      refine Nat.le_trans (Nat.mul_le_mul_right _ (show acc * 10 + (c.toNat - 48) + 1 ≤ (acc + 1) * 10 by omega)) ?_
      rw [← e]; simpa using hb
    have hsmall : acc * 10 + (c.toNat - 48) + 1 ≤ 10000000000 := Nat.le_trans (Nat.le_mul_of_pos_right _ hp) hb2
    rw [Lib.parseUint10, if_pos hc', if_neg (by omega), if_neg (by omega), ih _ (fun x hx => hd x (by simp [hx])) hb2]
    rfl

theorem atoi_of_num {l : List UInt8} (h : isNum l = true) : Lib.atoiAll l = .ok (val l : Int) := by
  obtain ⟨h1, h2, h3, h4, h5⟩ := num_parts h
  match l, h1, h2, h4, h5 with
  | c :: r, h1, h2, h4, h5 =>
    have hc := h4 c (by simp)
    unfold dig at hc
    have hc' := of_decide_eq_true hc
    have hb : (0 + 1) * 10 ^ (c :: r).length ≤ 10000000000 := by
      rw [Nat.zero_add, Nat.one_mul]
      exact Nat.le_trans (Nat.pow_le_pow_right (by decide) h2) (by decide)
    have hp := parse_digits (c :: r) 0 h4 hb
    unfold Lib.atoiAll
    have e43 : (if c.toNat = 43 ∨ c.toNat = 45 then r else c :: r) = c :: r := if_neg (by omega)
    have em : Lib.parseMag (c :: r) = Lib.parseUint10 0 (c :: r) := by unfold Lib.parseMag; rw [if_neg (by simp)]
    simp only [e43, em, hp]
    show (if ¬ c.toNat = 45 ∧ 9223372036854775808 ≤ val (c :: r) then _ else if c.toNat = 45 ∧ 9223372036854775808 < val (c :: r) then _ else Lib.NumEnd.ok (if c.toNat = 45 then -(val (c :: r) : Int) else (val (c :: r) : Int))) = _
    rw [if_neg (by omega), if_neg (by omega), if_neg (by omega)]

/-- THE TIE: a text whose number is v is a word just if v is one and is written so. -/
theorem num_iff {l : List UInt8} {v : Int} (h : Lib.atoiAll l = .ok v) (v0 : 0 ≤ v) (v1 : v < 4294967296) (hw : Lib.itoa v = l) : isNum l = true ∧ v = val l := by
  obtain ⟨u, rfl⟩ := Int.eq_ofNat_of_zero_le v0
  rw [Lib.itoa_nonneg] at hw
  obtain ⟨_, a2, _, _⟩ := dec_facts (u + 1) u (by omega)
  subst hw
  exact ⟨isNum_dec u (by omega), by rw [a2]⟩

theorem num_back {l : List UInt8} (h : isNum l = true) : Lib.itoa (val l : Int) = l := by
  rw [Lib.itoa_nonneg]; exact dec_of_num h
end Go.Proofs.Ytnnfefohpofipaa.Rf
