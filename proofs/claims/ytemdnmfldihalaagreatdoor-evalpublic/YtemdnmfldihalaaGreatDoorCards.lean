/-
  DERIVED. GIVEN WITH THE SEED: THE CARDS: each row of YtemdnmfldihalaaGreatDoorRows.lean that lists a variable, with what it lists TIED to the program's text (the seventh form; the later family's looks); each row that meets fmt, with fmt's text TOLD by the authors' own Lean function (tested against real Go, not proved from fmt's source: count such statements apart). THE CARD IS WHAT COUNTS. Prove the row's statement (the work); the ties are given (YtemdnmfldihalaaGreatDoorTie.lean); close each card by the builder's one call (the guide's Derived/Test/ToyasCard.lean, 'card_holds'). Laid BY PROGRAM, IN A SANDBOX (cutbox-door.mjs). By AI agents, Wed Nov 11 2026. No macro, syntax, notation, axiom, sorry.
-/
import Derived.Test.YtemdnmfldihalaaGreatDoorRows
import GoSem.ClaimSeven
namespace Go.Proofs.YtemdnmfldihalaaGreatDoor
namespace Rows

/-- THE TIED CARD OF 'evlaw5.EvalTells'. -/
def evalTellsCard : Claim7 := { stood := { row := evalTellsRow, standIns := [], harness := (true, "329524717f32d0deb3c152a957e846c8874a4fdd0a81d404d9fea28cafce3ddb"), looks := true }, kinds := [], alts := [], laidByText := true, laidKinds := [.data, .data, .data, .sentinel, .sentinel], laidTests := true, laidLooks := .later }
def EvalTellsCardSaid : Prop := Claim7.holds Tryz.pinned (.plain (OpenSpec.ofChange evalTellsSpec)) evalTellsCard

/-- THE TIED CARD OF 'evlaw5.EvalPublic'. -/
def evalPublicCard : Claim7 := { stood := { row := evalPublicRow, standIns := [], harness := (true, "329524717f32d0deb3c152a957e846c8874a4fdd0a81d404d9fea28cafce3ddb"), looks := true }, kinds := [], alts := [], laidByText := true, laidKinds := [.data, .data, .data, .sentinel, .sentinel], laidTests := true, laidLooks := .later }
def EvalPublicCardSaid : Prop := Claim7.holds Tryz.pinned (.plain (OpenSpec.ofChange evalPublicSpec)) evalPublicCard

/-- THE TIED CARD OF 'evlaw5.EvalWords'. -/
def evalWordsCard : Claim7 := { stood := { row := evalWordsRow, standIns := [], harness := (true, "329524717f32d0deb3c152a957e846c8874a4fdd0a81d404d9fea28cafce3ddb"), looks := true }, kinds := [], alts := [], laidByText := true, laidKinds := [.data, .data, .data, .sentinel, .sentinel], laidTests := true, laidLooks := .later }
def EvalWordsCardSaid : Prop := Claim7.holds Tryz.pinned (.plain (OpenSpec.ofChange evalWordsSpec)) evalWordsCard

/-- THE SECOND FORM's CARD OF 'evlaw5.EvalTells'. -/
def evalTellsUptoCard : Claim7 := { stood := { row := evalTellsUptoRow, standIns := [], harness := (true, "329524717f32d0deb3c152a957e846c8874a4fdd0a81d404d9fea28cafce3ddb"), looks := true }, kinds := [], alts := [], laidByText := true, laidKinds := [.data, .data, .data, .sentinel, .sentinel], laidTests := true, laidLooks := .later }
def EvalTellsUptoCardSaid : Prop := Claim7.holds Tryz.pinned (.plain (OpenSpec.upto evalTellsSpec)) evalTellsUptoCard

/-- THE SECOND FORM's CARD OF 'evlaw5.EvalPublic'. -/
def evalPublicUptoCard : Claim7 := { stood := { row := evalPublicUptoRow, standIns := [], harness := (true, "329524717f32d0deb3c152a957e846c8874a4fdd0a81d404d9fea28cafce3ddb"), looks := true }, kinds := [], alts := [], laidByText := true, laidKinds := [.data, .data, .data, .sentinel, .sentinel], laidTests := true, laidLooks := .later }
def EvalPublicUptoCardSaid : Prop := Claim7.holds Tryz.pinned (.plain (OpenSpec.upto evalPublicSpec)) evalPublicUptoCard

/-- THE SECOND FORM's CARD OF 'evlaw5.EvalWords'. -/
def evalWordsUptoCard : Claim7 := { stood := { row := evalWordsUptoRow, standIns := [], harness := (true, "329524717f32d0deb3c152a957e846c8874a4fdd0a81d404d9fea28cafce3ddb"), looks := true }, kinds := [], alts := [], laidByText := true, laidKinds := [.data, .data, .data, .sentinel, .sentinel], laidTests := true, laidLooks := .later }
def EvalWordsUptoCardSaid : Prop := Claim7.holds Tryz.pinned (.plain (OpenSpec.upto evalWordsSpec)) evalWordsUptoCard
end Rows
end Go.Proofs.YtemdnmfldihalaaGreatDoor
