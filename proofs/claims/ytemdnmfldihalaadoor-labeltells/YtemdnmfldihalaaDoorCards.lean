/-
  DERIVED. GIVEN WITH THE SEED: THE CARDS: each row of YtemdnmfldihalaaDoorRows.lean that lists a variable, with what it lists TIED to the program's text (the seventh form; the later family's looks); each row that meets fmt, with fmt's text TOLD by the authors' own Lean function (tested against real Go, not proved from fmt's source: count such statements apart). THE CARD IS WHAT COUNTS. Prove the row's statement (the work); the ties are given (YtemdnmfldihalaaDoorTie.lean); close each card by the builder's one call (the guide's Derived/Test/ToyasCard.lean, 'card_holds'). Laid BY PROGRAM, IN A SANDBOX (cutbox-door.mjs). By AI agents, Wed Nov 11 2026. No macro, syntax, notation, axiom, sorry.
-/
import Derived.Test.YtemdnmfldihalaaDoorRows
import GoSem.ClaimSeven
namespace Go.Proofs.YtemdnmfldihalaaDoor
namespace Rows

/-- THE TIED CARD OF 'evlaw4.LabelTells'. -/
def labelTellsCard : Claim7 := { stood := { row := labelTellsRow, standIns := [], harness := (true, "75bc8725799bd2c1f7c79faa3b5895edfd4f0cd69ec1d8347307480a19785643"), looks := true }, kinds := [], alts := [], laidByText := true, laidKinds := [.data, .data, .data, .sentinel, .sentinel], laidTests := true, laidLooks := .later }
def LabelTellsCardSaid : Prop := Claim7.holds Tryd.pinned (.plain (OpenSpec.ofChange labelTellsSpec)) labelTellsCard

/-- THE TIED CARD OF 'evlaw4.LabelPublic'. -/
def labelPublicCard : Claim7 := { stood := { row := labelPublicRow, standIns := [], harness := (true, "75bc8725799bd2c1f7c79faa3b5895edfd4f0cd69ec1d8347307480a19785643"), looks := true }, kinds := [], alts := [], laidByText := true, laidKinds := [.data, .data, .data, .sentinel, .sentinel], laidTests := true, laidLooks := .later }
def LabelPublicCardSaid : Prop := Claim7.holds Tryd.pinned (.plain (OpenSpec.ofChange labelPublicSpec)) labelPublicCard

/-- THE TIED CARD OF 'evlaw4.LabelSecret'. -/
def labelSecretCard : Claim7 := { stood := { row := labelSecretRow, standIns := [], harness := (true, "75bc8725799bd2c1f7c79faa3b5895edfd4f0cd69ec1d8347307480a19785643"), looks := true }, kinds := [], alts := [], laidByText := true, laidKinds := [.data, .data, .data, .sentinel, .sentinel], laidTests := true, laidLooks := .later }
def LabelSecretCardSaid : Prop := Claim7.holds Tryd.pinned (.plain (OpenSpec.ofChange labelSecretSpec)) labelSecretCard

/-- THE SECOND FORM's CARD OF 'evlaw4.LabelTells'. -/
def labelTellsUptoCard : Claim7 := { stood := { row := labelTellsUptoRow, standIns := [], harness := (true, "75bc8725799bd2c1f7c79faa3b5895edfd4f0cd69ec1d8347307480a19785643"), looks := true }, kinds := [], alts := [], laidByText := true, laidKinds := [.data, .data, .data, .sentinel, .sentinel], laidTests := true, laidLooks := .later }
def LabelTellsUptoCardSaid : Prop := Claim7.holds Tryd.pinned (.plain (OpenSpec.upto labelTellsSpec)) labelTellsUptoCard

/-- THE SECOND FORM's CARD OF 'evlaw4.LabelPublic'. -/
def labelPublicUptoCard : Claim7 := { stood := { row := labelPublicUptoRow, standIns := [], harness := (true, "75bc8725799bd2c1f7c79faa3b5895edfd4f0cd69ec1d8347307480a19785643"), looks := true }, kinds := [], alts := [], laidByText := true, laidKinds := [.data, .data, .data, .sentinel, .sentinel], laidTests := true, laidLooks := .later }
def LabelPublicUptoCardSaid : Prop := Claim7.holds Tryd.pinned (.plain (OpenSpec.upto labelPublicSpec)) labelPublicUptoCard

/-- THE SECOND FORM's CARD OF 'evlaw4.LabelSecret'. -/
def labelSecretUptoCard : Claim7 := { stood := { row := labelSecretUptoRow, standIns := [], harness := (true, "75bc8725799bd2c1f7c79faa3b5895edfd4f0cd69ec1d8347307480a19785643"), looks := true }, kinds := [], alts := [], laidByText := true, laidKinds := [.data, .data, .data, .sentinel, .sentinel], laidTests := true, laidLooks := .later }
def LabelSecretUptoCardSaid : Prop := Claim7.holds Tryd.pinned (.plain (OpenSpec.upto labelSecretSpec)) labelSecretUptoCard
end Rows
end Go.Proofs.YtemdnmfldihalaaDoor
