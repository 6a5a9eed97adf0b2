/- Laid together: WdNumPlain, RfNumPlain, LgPlain, LgTree, LgStmt, LgShow, LgOwn, LcPlain. -/
import Derived.Lib.Strings
import Derived.WalkKit
import Derived.Lib.AtoiAll
import Derived.Lib.ItoaNum
import Derived.Lib.ItoaMem
namespace Go.Proofs.Ytfbmkcogkiejnaa.Wd
set_option linter.unusedVariables false

/-- The number that digits write, in tens. -/
def val (l : List UInt8) : Nat := l.foldl (fun n c => n * 10 + (c.toNat - 48)) 0
end Go.Proofs.Ytfbmkcogkiejnaa.Wd
namespace Go.Proofs.Ytfbmkcogkiejnaa.Rf
set_option linter.unusedVariables false
open Wd

end Go.Proofs.Ytfbmkcogkiejnaa.Rf
namespace Go.Proofs.Ytfbmkcogkiejnaa.Lg
set_option linter.unusedVariables false
open Wd Rf

/-- A blank, or a line feed; what ends a word. -/
def blank (c : UInt8) : Bool := c == 32 || c == 10
def brack (c : UInt8) : Bool := c == 40 || c == 41
def stop (c : UInt8) : Bool := blank c || brack c
/-- The next word, blanks passed by; and what is behind it. -/
def skip (l : List UInt8) : List UInt8 := l.dropWhile blank
def word (l : List UInt8) : List UInt8 := if l.takeWhile (fun c => !stop c) = [] then l.take 1 else l.takeWhile (fun c => !stop c)
def wd (l : List UInt8) : List UInt8 := word (skip l)
def rs (l : List UInt8) : List UInt8 := (skip l).drop (wd l).length

/-- An expression, a statement, a variable, a program. -/
structure Ex where
  kind : Int
  n : Int
  name : List UInt8
  args : List Ex
structure St where
  kind : Int
  n : Int
  name : List UInt8
  secret : Bool
  args : List Ex
  thn : List St
  els : List St
structure Vr where
  name : List UInt8
  secret : Bool
  size : Int
set_option linter.unusedSimpArgs false
/-- There are at least as many words as things that have one. -/
theorem flat_len {α : Type} {toks : α → List (List UInt8)} : ∀ (as : List α), (∀ a ∈ as, (toks a).head? = some [40]) → as.length ≤ (as.flatMap toks).length
  | [], _ => by simp
  | a :: as, h => by
    have h1 := h a (by simp)
    have h2 := flat_len as (fun b hb => h b (by simp [hb]))
    rw [List.flatMap_cons, List.length_append, List.length_cons]
    cases ht : toks a with
    | nil => rw [ht] at h1; cases h1
    | cons x y => rw [List.length_cons]; omega
set_option linter.unusedSimpArgs false
set_option linter.unusedSimpArgs false
end Go.Proofs.Ytfbmkcogkiejnaa.Lg
namespace Go.Proofs.Ytfbmkcogkiejnaa.Lg
set_option linter.unusedVariables false
set_option linter.unusedSimpArgs false

/-- A name that is there. -/
structure Nm where
  name : List UInt8
  secret : Bool
  loop : Bool
/-- How far it has come. -/
structure Ks where
  ns : List Nm
  work : Nat
  lets : Nat
/-- What is never told. -/
def No (n : Int) {α : Type} (x : Except Int α) (p : α → Prop) : Prop := (∀ e, x = .error e → ¬ e = n) ∧ ∀ a, x = .ok a → p a
theorem No.ok {n : Int} {α : Type} {a : α} {p : α → Prop} (h : p a) : No n (.ok a) p := ⟨fun e he => (by cases he), fun b hb => (by cases hb; exact h)⟩
theorem No.mono {n : Int} {α : Type} {x : Except Int α} {p q : α → Prop} (h : No n x p) (hq : ∀ a, p a → q a) : No n x q := ⟨h.1, fun a ha => hq a (h.2 a ha)⟩
/-- What comes of what is right: names behind those that were there, not too much done, not too many made. -/
structure Gd (k k' : Ks) : Prop where
  ns : ∃ ex, k'.ns = k.ns ++ ex
  work : k.work ≤ k'.work
  most : k'.work ≤ 300
  lets : k'.lets ≤ 24
  len : k'.ns.length + k.work ≤ k.ns.length + k'.work
theorem Gd.trans {a b c : Ks} (h : Gd a b) (k : Gd b c) : Gd a c := by
  obtain ⟨x, hx⟩ := h.ns
  obtain ⟨y, hy⟩ := k.ns
  refine ⟨⟨x ++ y, by rw [hy, hx, List.append_assoc]⟩, Nat.le_trans h.work k.work, k.most, k.lets, ?_⟩
  have := h.len; have := k.len; omega
end Go.Proofs.Ytfbmkcogkiejnaa.Lg
