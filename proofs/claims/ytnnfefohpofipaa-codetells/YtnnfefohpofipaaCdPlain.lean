/- Instructions as bytes, in plain words: what Bytes and Parse of chapter 10 answer. -/
import Derived.Test.YtnnfefohpofipaaLdIs
import Derived.Test.YtnnfefohpofipaaLiOrd
import Derived.Laws.BytesArg
import Derived.Lib.SlBytesRowKit
namespace Go.Proofs.Ytnnfefohpofipaa.Cd
set_option linter.unusedVariables false
open Go.ChangeShapes Go.WideShapes Go.ChangeAt Go.RowKit Lr

/-- An instruction's six numbers. -/
structure Cx where
  op : Int
  d : Int
  a : Int
  b : Int
  c : Int
  imm : Int
deriving DecidableEq
def cxA (i : Cx) : Array Value := #[.int .i64 i.op, .int .i64 i.d, .int .i64 i.a, .int .i64 i.b, .int .i64 i.c, .int .i64 i.imm]
/-- Is no byte. -/
def nb (n : Int) : Bool := decide (n < 0) || decide (255 < n)
theorem nb_false {n : Int} : nb n = false ↔ 0 ≤ n ∧ n ≤ 255 := by
  unfold nb; rw [Bool.or_eq_false_iff, decide_eq_false_iff_not, decide_eq_false_iff_not]; omega
def isOp (n : Int) : Bool := decide (1 ≤ n) && decide (n ≤ 23)
def isW (n : Int) : Bool := decide (0 ≤ n) && decide (n ≤ 4294967295)
/-- The five that are to be bytes. -/
def five (i : Cx) : List Int := [i.op, i.d, i.a, i.b, i.c]
/-- The last four bytes' number, and the one that is to be 0. -/
def lastN (i : Cx) : Int := if i.op = 13 then i.c else i.imm
def noneN (i : Cx) : Int := if i.op = 13 then i.imm else i.c
/-- What Bytes answers. -/
def bytesM (i : Cx) : Int × List Int :=
  if (five i).any nb then (3, []) else if isOp i.op = false then (1, []) else if isW i.imm = false then (3, []) else
  if noneN i ≠ 0 then (2, []) else (0, [i.op, i.d, i.a, i.b, lastN i / 16777216, lastN i / 65536 % 256, lastN i / 256 % 256, lastN i % 256])
/-- The number that four bytes are. -/
def num4 (l : List Int) : Int := l.foldl (fun s x => s * 256 + x) 0
/-- What Parse answers. -/
def parseM (l : List Int) : Cx × Int :=
  if l.length ≠ 8 then (⟨0, 0, 0, 0, 0, 0⟩, 2) else if isOp (l.getD 0 0) = false then (⟨0, 0, 0, 0, 0, 0⟩, 1) else
  if l.getD 0 0 ≠ 13 then (⟨l.getD 0 0, l.getD 1 0, l.getD 2 0, l.getD 3 0, 0, num4 (l.drop 4)⟩, 0) else
  if nb (num4 (l.drop 4)) then (⟨0, 0, 0, 0, 0, 0⟩, 3) else (⟨l.getD 0 0, l.getD 1 0, l.getD 2 0, l.getD 3 0, num4 (l.drop 4), 0⟩, 0)
/-- The slice sl holds these bytes, in a block below B. -/
def BysIs (w : World) (B : Nat) (l : List Int) (sl : Value) : Prop := ∃ (p : Option Addr) (cap : Nat), sl = .slice p l.length cap ∧ l.length ≤ cap ∧
  (∀ x ∈ l, 0 ≤ x ∧ x < 256) ∧ (p = none → l = []) ∧ (∀ q, p = some q → ∃ g o, q = ⟨g, o, none⟩ ∧ g < B ∧ ∀ j x, l[j]? = some x → w.cell? ⟨g, o + j, none⟩ = some (.int .u8 x))
theorem BysIs.below {w w' : World} {B : Nat} {l : List Int} {sl : Value} (hb : Below B w w') (h : BysIs w B l sl) : BysIs w' B l sl := by
  obtain ⟨p, cap, h1, h2, h3, h4, h5⟩ := h
  refine ⟨p, cap, h1, h2, h3, h4, fun q hq => ?_⟩
  obtain ⟨g, o, e, hg, hc⟩ := h5 q hq
  exact ⟨g, o, e, hg, fun j x hj => by rw [cell_below hb hg]; exact hc j x hj⟩
theorem BysIs.mono {w : World} {B B' : Nat} {l : List Int} {sl : Value} (hB : B ≤ B') (h : BysIs w B l sl) : BysIs w B' l sl := by
  obtain ⟨p, cap, h1, h2, h3, h4, h5⟩ := h
  refine ⟨p, cap, h1, h2, h3, h4, fun q hq => ?_⟩
  obtain ⟨g, o, e, hg, hc⟩ := h5 q hq
  exact ⟨g, o, e, by omega, hc⟩
theorem bys_nil (w : World) (B : Nat) : BysIs w B [] (.slice none 0 0) := ⟨none, 0, rfl, Nat.le_refl _, (fun x h => by cases h), fun _ => rfl, fun q h => by cases h⟩

end Go.Proofs.Ytnnfefohpofipaa.Cd
