/- The closed fact that chapter 7's laws ask first. Written by tools/gen_flalive.py. -/
import Derived.Test.YtfbmkcogkiejnaaFlOwn
namespace Go.Proofs.Ytfbmkcogkiejnaa.Fl
set_option linter.unusedVariables false
set_option linter.unusedSimpArgs false
open Go.ChangeShapes Go.WideShapes Go.ChangeAt Go.RowKit Lg Lr

def i8 : Ix := ⟨8, 1, 0, 0, 0, 0⟩
def i20 : Ix := ⟨20, 0, 1, 0, 0, 0⟩
def fA : Fx := ⟨[i8, i20], [true, true], 1, []⟩
theorem lks_slice {w : World} {B : Nat} {ls : List Lk} {v : Value} (h : LksIs w B ls v) : ∃ p c, v = .slice p ls.length c := by
  obtain ⟨p, n, cap, h1, h2, _⟩ := h
  exact ⟨p, cap, by rw [h1, h2]⟩
end Go.Proofs.Ytfbmkcogkiejnaa.Fl
