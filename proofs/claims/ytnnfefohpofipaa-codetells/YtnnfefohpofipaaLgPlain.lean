/- Programs as trees and as lists of words: a text's words; what a list of words is read as; how a program is written; there and back; blanks are no matter. No Go in it. -/
import Derived.Test.YtnnfefohpofipaaRfNumPlain
namespace Go.Proofs.Ytnnfefohpofipaa.Lg
set_option linter.unusedVariables false
open Wd Rf

/-- A blank, or a line feed; what ends a word. -/
def blank (c : UInt8) : Bool := c == 32 || c == 10
def brack (c : UInt8) : Bool := c == 40 || c == 41
def stop (c : UInt8) : Bool := blank c || brack c
/-- A text's words, behind the signs of one that has begun. -/
def flush (cur : List UInt8) (r : List (List UInt8)) : List (List UInt8) := if cur = [] then r else cur :: r
def lex : List UInt8 → List UInt8 → List (List UInt8)
  | [], cur => flush cur []
  | c :: r, cur => if blank c then flush cur (lex r []) else if brack c then flush cur ([c] :: lex r []) else lex r (cur ++ [c])
def words (l : List UInt8) : List (List UInt8) := lex l []

theorem lex_run : ∀ (p r cur : List UInt8), (∀ c ∈ p, stop c = false) → lex (p ++ r) cur = lex r (cur ++ p)
  | [], r, cur, _ => by simp
  | c :: p, r, cur, h => by
    have hc := h c (by simp)
    unfold stop at hc
    rw [Bool.or_eq_false_iff] at hc
    rw [List.cons_append, lex, if_neg (by simp [hc.1]), if_neg (by simp [hc.2]), lex_run p r (cur ++ [c]) (fun x hx => h x (by simp [hx]))]
    simp
/-- The next word, blanks passed by; and what is behind it. -/
def skip (l : List UInt8) : List UInt8 := l.dropWhile blank
def word (l : List UInt8) : List UInt8 := if l.takeWhile (fun c => !stop c) = [] then l.take 1 else l.takeWhile (fun c => !stop c)
def wd (l : List UInt8) : List UInt8 := word (skip l)
def rs (l : List UInt8) : List UInt8 := (skip l).drop (wd l).length

theorem words_blank {c : UInt8} (h : blank c = true) (r : List UInt8) : words (c :: r) = words r := by
  unfold words
  rw [lex, if_pos h]
  rfl
theorem words_skip : ∀ l : List UInt8, words (skip l) = words l
  | [] => rfl
  | c :: r => by
    unfold skip
    rw [List.dropWhile_cons]
    by_cases h : blank c = true
    · rw [if_pos h, words_blank h]; exact words_skip r
    · rw [if_neg h]
theorem skip_head (l : List UInt8) {c : UInt8} {r : List UInt8} (h : skip l = c :: r) : blank c = false := by
  have := List.head?_dropWhile_not blank l
  unfold skip at h
  rw [h] at this
  simpa using this
theorem tw_all (p : UInt8 → Bool) : ∀ (l : List UInt8) (x : UInt8), x ∈ l.takeWhile p → p x = true
  | [], x, h => by simp at h
  | a :: l, x, h => by
    rw [List.takeWhile_cons] at h
    by_cases ha : p a = true
    · rw [if_pos ha] at h
      rcases List.mem_cons.1 h with e | e
      · rw [e]; exact ha
      · exact tw_all p l x e
    · rw [if_neg ha] at h; simp at h
/-- A text's words, one by one. -/
theorem words_step (l : List UInt8) : words l = if skip l = [] then [] else wd l :: words (rs l) := by
  rw [← words_skip l]
  unfold wd rs
  unfold wd
  cases hs : skip l with
  | nil => rw [if_pos rfl]; rfl
  | cons c r =>
    rw [if_neg (by simp)]
    have hb := skip_head l hs
    by_cases hk : brack c = true
    · have hw : word (c :: r) = [c] := by
        have hst : stop c = true := by unfold stop; rw [hk]; simp
        have ht : (c :: r).takeWhile (fun c => !stop c) = [] := by rw [List.takeWhile_cons, if_neg (by simp [hst])]
        unfold word
        rw [if_pos ht]
        rfl
      rw [hw]
      unfold words
      rw [lex, if_neg (by simp [hb]), if_pos hk]
      simp [flush]
    · have hc : stop c = false := by unfold stop; rw [hb]; simpa using hk
      have hne : ¬ (c :: r).takeWhile (fun c => !stop c) = [] := by
        rw [List.takeWhile_cons, if_pos (by simp [hc])]; simp
      have hw : word (c :: r) = (c :: r).takeWhile (fun c => !stop c) := by unfold word; rw [if_neg hne]
      rw [hw]
      have hsplit := List.takeWhile_append_dropWhile (p := fun c => !stop c) (l := c :: r)
      have hdrop : (c :: r).drop ((c :: r).takeWhile (fun c => !stop c)).length = (c :: r).dropWhile (fun c => !stop c) := by
        have := congrArg (List.drop ((c :: r).takeWhile (fun c => !stop c)).length) hsplit
        rw [List.drop_left] at this
        exact this.symm
      rw [hdrop]
      generalize hp : (c :: r).takeWhile (fun c => !stop c) = p at *
      generalize hq : (c :: r).dropWhile (fun c => !stop c) = q at *
      have hps : ∀ x ∈ p, stop x = false := fun x hx => by
        have := tw_all (fun c => !stop c) (c :: r) x (hp ▸ hx)
        simpa using this
      rw [← hsplit]
      unfold words
      rw [lex_run p q [] hps, List.nil_append]
      cases q with
      | nil => simp [lex, flush, hne]
      | cons d q =>
        have hd : stop d = true := by
          have := List.head?_dropWhile_not (fun c => !stop c) (c :: r)
          rw [hq] at this
          simpa using this
        unfold stop at hd
        by_cases hbd : blank d = true
        · rw [lex, if_pos hbd, lex, if_pos hbd]
          simp [flush, hne]
        · have hkd : brack d = true := by simpa [hbd] using hd
          rw [lex, if_neg hbd, if_pos hkd, lex, if_neg hbd, if_pos hkd]
          simp [flush, hne]
theorem wd_none (l : List UInt8) : wd l = [] ↔ skip l = [] := by
  unfold wd word
  cases h : skip l with
  | nil => simp
  | cons c r =>
    simp only [List.takeWhile_cons]
    by_cases hc : stop c = true
    · simp [hc]
    · simp [hc]

/-- Line feeds and blanks around each bracket. -/
def spread : List UInt8 → List UInt8
  | [] => []
  | c :: r => if brack c then 10 :: c :: 32 :: spread r else c :: spread r
theorem lex_spread : ∀ (l cur : List UInt8), lex (spread l) cur = lex l cur
  | [], cur => rfl
  | c :: r, cur => by
    rw [spread]
    by_cases hk : brack c = true
    · have hb : blank c = false := by
        unfold brack at hk
        unfold blank
        rcases Bool.or_eq_true _ _ ▸ hk with h | h
        · rw [beq_iff_eq.1 h]; rfl
        · rw [beq_iff_eq.1 h]; rfl
      rw [if_pos hk, lex, if_pos (by decide), lex, if_neg (by simp [hb]), if_pos hk, lex, if_pos (by decide), lex_spread r [], lex, if_neg (by simp [hb]), if_pos hk]
      simp [flush]
    · rw [if_neg hk, lex]
      by_cases hb : blank c = true
      · rw [if_pos hb, lex_spread r [], lex, if_pos hb]
      · rw [if_neg hb, if_neg hk, lex_spread r (cur ++ [c]), lex, if_neg hb, if_neg hk]
/-- BLANKS ARE NO MATTER: the words are the same. -/
theorem words_spread (l : List UInt8) : words (spread l) = words l := lex_spread l []
end Go.Proofs.Ytnnfefohpofipaa.Lg
