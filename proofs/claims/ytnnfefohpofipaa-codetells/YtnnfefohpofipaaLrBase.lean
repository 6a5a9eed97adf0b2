/- Facts on words and bytes that the readers' walks lean on. -/
import Derived.Test.YtnnfefohpofipaaProg
import Derived.Test.YtnnfefohpofipaaLgTree
import Derived.ProofKit
import Derived.OpenShut
import Derived.Below
import Derived.Lib.Strings
import Derived.Lib.FrozenHead
import Derived.Lib.Builder
import Derived.Lib.Walk
import Derived.Lib.IndexBytes
import Derived.Deep.QuietTactic
import Derived.BigQuiet
namespace Go.Proofs.Ytnnfefohpofipaa.Lr
set_option linter.unusedVariables false
open Go.ChangeShapes Go.WideShapes Go.ChangeAt Go.RowKit Lg

theorem keep {p : Prop} (h : p) : Hid p := h
/-- The first thing that is wrong counts. -/
def first (e x : Int) : Int := if e = 0 then x else e
theorem skip_cons_yes {c : UInt8} {r : List UInt8} (h : Lg.blank c = true) : skip (c :: r) = skip r := by
  unfold skip; rw [List.dropWhile_cons, if_pos h]
theorem skip_cons_no {c : UInt8} {r : List UInt8} (h : Lg.blank c = false) : skip (c :: r) = c :: r := by
  unfold skip; rw [List.dropWhile_cons, if_neg (by simp [h])]
theorem cons_of (s : ByteArray) (h : 0 < s.size) : s.data.toList = s[0] :: s.data.toList.drop 1 := by
  have hl : s.data.toList.length = s.size := (Lib.size_eq s).symm
  cases hs : s.data.toList with
  | nil => rw [hs] at hl; simp at hl; omega
  | cons c r =>
    have := Lib.data_getElem? s 0 h
    rw [hs] at this
    simp at this
    rw [this]; rfl

theorem tw_at {p : UInt8 → Bool} : ∀ (l : List UInt8) (k : Nat), (∀ c ∈ l.take k, p c = true) → (k = l.length ∨ ∃ y, l[k]? = some y ∧ p y = false) → l.takeWhile p = l.take k
  | [], k, _, _ => by simp
  | c :: r, 0, h, hk => by
    rcases hk with e | ⟨y, hy, hp⟩
    · simp at e
    · simp at hy
      rw [List.takeWhile_cons, hy, hp]; rfl
  | c :: r, k + 1, h, hk => by
    have hc := h c (by simp)
    rw [List.takeWhile_cons, if_pos hc, List.take_succ_cons, tw_at r k (fun x hx => h x (by simp [hx])) (by
      rcases hk with e | ⟨y, hy, hp⟩
      · left; simpa using e
      · right; exact ⟨y, by simpa using hy, hp⟩)]
theorem word_zero {l : List UInt8} {y : UInt8} (h : l[0]? = some y) (hs : stop y = true) : word l = l.take 1 := by
  unfold word
  rw [if_pos]
  rw [tw_at l 0 (by simp) (.inr ⟨y, h, by simp [hs]⟩)]; simp
theorem word_at {l : List UInt8} {k : Nat} (h1 : 1 ≤ k) (h2 : k ≤ l.length) (h : ∀ c ∈ l.take k, stop c = false) (hk : k = l.length ∨ ∃ y, l[k]? = some y ∧ stop y = true) : word l = l.take k := by
  have e : l.takeWhile (fun c => !stop c) = l.take k := tw_at l k (fun c hc => by simp [h c hc]) (by
    rcases hk with e | ⟨y, hy, hp⟩
    · exact .inl e
    · exact .inr ⟨y, hy, by simp [hp]⟩)
  unfold word
  rw [e, if_neg]
  intro hh
  have := congrArg List.length hh
  simp at this
  rcases this with e | e
  · omega
  · rw [e] at h2; simp at h2; omega
theorem stop_iff (y : UInt8) : stop y = true ↔ y = 32 ∨ y = 10 ∨ y = 40 ∨ y = 41 := by
  unfold stop Lg.blank brack
  simp only [Bool.or_eq_true, beq_iff_eq]
  constructor
  · rintro ((h | h) | (h | h)) <;> simp [h]
  · rintro (h | h | h | h) <;> simp [h]
theorem take_str (s : ByteArray) (k : Nat) : s.extract 0 k = ⟨(s.data.toList.take k).toArray⟩ := by
  rw [Lib.extract_eq]; simp

theorem first_ne {e x : Int} (h : ¬ e = 0) : first e x = e := if_neg h
theorem first_zero (x : Int) : first 0 x = x := if_pos rfl
theorem next_words (l : List UInt8) : next (words l) = if wd l = [] then .error 8 else .ok (wd l, words (rs l)) := by
  rw [words_step l]
  by_cases h : skip l = []
  · rw [if_pos h, if_pos ((wd_none l).2 h)]; rfl
  · rw [if_neg h, if_neg (fun hh => h ((wd_none l).1 hh))]; rfl
theorem size_mk (l : List UInt8) : (⟨l.toArray⟩ : ByteArray).size = l.length := by simp [ByteArray.size]
theorem rs_len (s : ByteArray) : (⟨(rs s.data.toList).toArray⟩ : ByteArray).size ≤ s.size := by
  have h1 : (rs s.data.toList).length ≤ s.data.toList.length := by
    unfold rs skip
    rw [List.length_drop]
    have := (List.dropWhile_sublist Lg.blank (l := s.data.toList)).length_le
    omega
  rw [← Lib.size_eq] at h1
  rw [size_mk]; exact h1

theorem wd_len (s : ByteArray) : (wd s.data.toList).length ≤ s.size := by
  have h1 : (wd s.data.toList).length ≤ (skip s.data.toList).length := by
    unfold wd word
    split
    · exact List.length_take_le' _ _
    · exact (List.takeWhile_sublist _).length_le
  have h2 : (skip s.data.toList).length ≤ s.data.toList.length := (List.dropWhile_sublist Lg.blank (l := s.data.toList)).length_le
  rw [← Lib.size_eq] at h2
  omega
end Go.Proofs.Ytnnfefohpofipaa.Lr
