/- Laid together: LePlain, TbPlain. -/
import Derived.Test.YtfbmkcogkiejnaaLcPlain
import Derived.Test.YtfbmkcogkiejnaaWdPlain
import Derived.Lib.AtoiAll
import Derived.Lib.ItoaNum
import Derived.Lib.Bytealg
namespace Go.Proofs.Ytfbmkcogkiejnaa.Lg
set_option linter.unusedVariables false
set_option linter.unusedSimpArgs false

abbrev Env := List (List UInt8 × Int)
structure Mm where
  env : Env
  arr : List (List Int)
  work : Nat
/-- On it goes; or it is over, with a trap or a word. -/
inductive Rs where
  | go (k : Mm)
  | over (trap : Bool) (word : Int) (arr : List (List Int)) (work : Nat)
/-- One of two, by a third. -/
def selP (a b c : Int) : Int := if a % 4294967296 = 0 then c % 4294967296 else b % 4294967296
/-- What is true of whatever comes of it. -/
def AllR (p : Mm → Prop) (q : Bool → Int → List (List Int) → Nat → Prop) : Rs → Prop
  | .go k => p k
  | .over t w a n => q t w a n
theorem AllR.mono {p p' : Mm → Prop} {q q' : Bool → Int → List (List Int) → Nat → Prop} {r : Rs} (h : AllR p q r) (hp : ∀ k, p k → p' k) (hq : ∀ t w a n, q t w a n → q' t w a n) : AllR p' q' r := by
  cases r with
  | go k => exact hp k h
  | over t w a n => exact hq _ _ _ _ h
def isW (n : Int) : Prop := 0 ≤ n ∧ n ≤ 4294967295
/-- Arrays are as many, and as long, as they must be, of words. -/
structure GA (rs : List Vr) (arr : List (List Int)) : Prop where
  len : arr.length = rs.length
  size : ∀ (i : Nat) (row : List Int) (v : Vr), arr[i]? = some row → rs[i]? = some v → (row.length : Int) = v.size
  word : ∀ row ∈ arr, ∀ x ∈ row, isW x
theorem isW_zero : isW 0 := ⟨by decide, by decide⟩
theorem selP_word (a b c : Int) : isW (selP a b c) := by
  unfold selP isW
  split <;> omega
end Go.Proofs.Ytfbmkcogkiejnaa.Lg
namespace Go.Proofs.Ytfbmkcogkiejnaa.Tb
set_option linter.unusedVariables false

/-- What a right table may tell of an op at most: all of its bits. -/
def most (op : Nat) : Int := ([0, 3, 3, 3, 3, 3, 3, 3, 3, 3, 3, 3, 3, 7, 0, 1, 1, 3] : List Int).getD op 0

end Go.Proofs.Ytfbmkcogkiejnaa.Tb
