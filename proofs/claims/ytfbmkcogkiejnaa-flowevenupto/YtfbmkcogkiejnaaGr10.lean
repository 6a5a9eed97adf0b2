/- Laid together: LfOrd, LfIdx. -/
import Derived.Test.YtfbmkcogkiejnaaGr8
import Derived.Test.YtfbmkcogkiejnaaWdTwo
namespace Go.Proofs.Ytfbmkcogkiejnaa.Ord
set_option linter.unusedVariables false
/-- How many have not come up yet. -/
def left (ops : Array Oper) (d : Array Bool) : Nat := (List.range ops.size).countP fun i => !d.getD i true
end Go.Proofs.Ytfbmkcogkiejnaa.Ord
namespace Go.Proofs.Ytfbmkcogkiejnaa.Lr
set_option linter.unusedVariables false
set_option linter.unusedSimpArgs false
open Go.ChangeShapes Go.WideShapes Go.ChangeAt Go.RowKit Lg

/-- Where the first one is. -/
def Idx {α : Type} (p : α → Bool) (l : List α) (i : Int) : Prop := (i = -1 ∧ l.find? p = none) ∨ ∃ (k : Nat) (a : α), i = (k : Int) ∧ l[k]? = some a ∧ l.find? p = some a ∧ k < l.length ∧ ∀ j b, j < k → l[j]? = some b → p b = false
theorem find_at {α : Type} {p : α → Bool} : ∀ {l : List α} {k : Nat} {a : α}, (∀ j b, j < k → l[j]? = some b → p b = false) → l[k]? = some a → p a = true → l.find? p = some a
  | [], k, a, h, hk, hp => by simp at hk
  | b :: l, 0, a, h, hk, hp => by
    simp at hk
    subst hk
    rw [List.find?_cons, hp]
  | b :: l, k + 1, a, h, hk, hp => by
    rw [List.find?_cons, h 0 b (by omega) rfl]
    exact find_at (k := k) (fun j c hj hc => h (j + 1) c (by omega) (by simpa using hc)) (by simpa using hk) hp
theorem find_no {α : Type} {p : α → Bool} {l : List α} (h : ∀ (j : Nat) b, l[j]? = some b → p b = false) : l.find? p = none := by
  rw [List.find?_eq_none]
  intro b hb
  obtain ⟨j, hj⟩ := List.getElem?_of_mem hb
  rw [h j b hj]; decide
end Go.Proofs.Ytfbmkcogkiejnaa.Lr
