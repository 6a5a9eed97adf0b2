/- What is wrong with a program, in plain words: names, labels, how much is done. Where all is public nothing is hidden. No Go in it. -/
import Derived.Test.YtfbmkcogkiejnaaGr1
namespace Go.Proofs.Ytfbmkcogkiejnaa.Lg
set_option linter.unusedVariables false
set_option linter.unusedSimpArgs false

/-- A name that is there. -/
structure Nm where
  name : List UInt8
  secret : Bool
  loop : Bool
/-- How far it has come. -/
structure Ks where
  ns : List Nm
  work : Nat
  lets : Nat
/-- What is never told. -/
def No (n : Int) {α : Type} (x : Except Int α) (p : α → Prop) : Prop := (∀ e, x = .error e → ¬ e = n) ∧ ∀ a, x = .ok a → p a
theorem No.ok {n : Int} {α : Type} {a : α} {p : α → Prop} (h : p a) : No n (.ok a) p := ⟨fun e he => (by cases he), fun b hb => (by cases hb; exact h)⟩
theorem No.mono {n : Int} {α : Type} {x : Except Int α} {p q : α → Prop} (h : No n x p) (hq : ∀ a, p a → q a) : No n x q := ⟨h.1, fun a ha => hq a (h.2 a ha)⟩
/-- What comes of what is right: names behind those that were there, not too much done, not too many made. -/
structure Gd (k k' : Ks) : Prop where
  ns : ∃ ex, k'.ns = k.ns ++ ex
  work : k.work ≤ k'.work
  most : k'.work ≤ 300
  lets : k'.lets ≤ 24
  len : k'.ns.length + k.work ≤ k.ns.length + k'.work
theorem Gd.trans {a b c : Ks} (h : Gd a b) (k : Gd b c) : Gd a c := by
  obtain ⟨x, hx⟩ := h.ns
  obtain ⟨y, hy⟩ := k.ns
  refine ⟨⟨x ++ y, by rw [hy, hx, List.append_assoc]⟩, Nat.le_trans h.work k.work, k.most, k.lets, ?_⟩
  have := h.len; have := k.len; omega
end Go.Proofs.Ytfbmkcogkiejnaa.Lg
