/-
  DERIVED. GIVEN WITH THE SEED: THE CARDS: each row of YtkobiojndamofaaDoorRows.lean that lists a variable, with what it lists TIED to the program's text (the seventh form; the later family's looks); each row that meets fmt, with fmt's text TOLD by the authors' own Lean function (tested against real Go, not proved from fmt's source: count such statements apart). THE CARD IS WHAT COUNTS. Prove the row's statement (the work); the ties are given (YtkobiojndamofaaDoorTie.lean); close each card by the builder's one call (the guide's Derived/Test/ToyasCard.lean, 'card_holds'). Laid BY PROGRAM, IN A SANDBOX (cutbox-door.mjs). By AI agents, Wed Nov 11 2026. No macro, syntax, notation, axiom, sorry.
-/
import Derived.Test.YtkobiojndamofaaDoorRows
import GoSem.ClaimSeven
namespace Go.Proofs.YtkobiojndamofaaDoor
namespace Rows

/-- THE TIED CARD OF 'evlaw3.LangTurns'. -/
def langTurnsCard : Claim7 := { stood := { row := langTurnsRow, standIns := [], harness := (true, "2d9fbb41145cbc8a24df43a8a3685b405fcb974a150f1d1281b14a2ede136a8e"), looks := false }, kinds := [], alts := [], laidByText := true, laidKinds := [.data, .data, .data, .data, .listed, .data, .pinned], laidTests := true, laidLooks := .later }
def LangTurnsCardSaid : Prop := Claim7.holds Tryd.pinned (.plain (OpenSpec.ofChange langTurnsSpec)) langTurnsCard

/-- THE TIED CARD OF 'evlaw3.LangBlank'. -/
def langBlankCard : Claim7 := { stood := { row := langBlankRow, standIns := [], harness := (true, "2d9fbb41145cbc8a24df43a8a3685b405fcb974a150f1d1281b14a2ede136a8e"), looks := false }, kinds := [], alts := [], laidByText := true, laidKinds := [.data, .data, .data, .data, .listed, .data, .pinned], laidTests := true, laidLooks := .later }
def LangBlankCardSaid : Prop := Claim7.holds Tryd.pinned (.plain (OpenSpec.ofChange langBlankSpec)) langBlankCard

/-- THE SECOND FORM's CARD OF 'evlaw3.LangTurns'. -/
def langTurnsUptoCard : Claim7 := { stood := { row := langTurnsUptoRow, standIns := [], harness := (true, "2d9fbb41145cbc8a24df43a8a3685b405fcb974a150f1d1281b14a2ede136a8e"), looks := false }, kinds := [], alts := [], laidByText := true, laidKinds := [.data, .data, .data, .data, .listed, .data, .pinned], laidTests := true, laidLooks := .later }
def LangTurnsUptoCardSaid : Prop := Claim7.holds Tryd.pinned (.plain (OpenSpec.upto langTurnsSpec)) langTurnsUptoCard

/-- THE SECOND FORM's CARD OF 'evlaw3.LangBlank'. -/
def langBlankUptoCard : Claim7 := { stood := { row := langBlankUptoRow, standIns := [], harness := (true, "2d9fbb41145cbc8a24df43a8a3685b405fcb974a150f1d1281b14a2ede136a8e"), looks := false }, kinds := [], alts := [], laidByText := true, laidKinds := [.data, .data, .data, .data, .listed, .data, .pinned], laidTests := true, laidLooks := .later }
def LangBlankUptoCardSaid : Prop := Claim7.holds Tryd.pinned (.plain (OpenSpec.upto langBlankSpec)) langBlankUptoCard
end Rows
end Go.Proofs.YtkobiojndamofaaDoor
