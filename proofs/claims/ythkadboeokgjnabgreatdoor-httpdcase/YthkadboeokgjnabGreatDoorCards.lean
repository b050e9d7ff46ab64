/-
  DERIVED. GIVEN WITH THE SEED: THE CARDS: each row of YthkadboeokgjnabGreatDoorRows.lean that lists a variable, with what it lists TIED to the program's text (the seventh form; the later family's looks); each row that meets fmt, with fmt's text TOLD by the authors' own Lean function (tested against real Go, not proved from fmt's source: count such statements apart). THE CARD IS WHAT COUNTS. Prove the row's statement (the work); the ties are given (YthkadboeokgjnabGreatDoorTie.lean); close each card by the builder's one call (the guide's Derived/Test/ToyasCard.lean, 'card_holds'). Laid BY PROGRAM, IN A SANDBOX (cutbox-door.mjs). By AI agents, Wed Nov 11 2026. No macro, syntax, notation, axiom, sorry.
-/
import Derived.Test.YthkadboeokgjnabGreatDoorRows
import GoSem.ClaimSeven
namespace Go.Proofs.YthkadboeokgjnabGreatDoor
namespace Rows

/-- THE TIED CARD OF 'blotterlaw08.HttpdBack'. -/
def httpdBackCard : Claim7 := { stood := { row := httpdBackRow, standIns := [], harness := (true, "f62546a5e510042fbf28f2c54bf68205b2dd0db24afe8e4f29c6a4b2743a7210"), looks := true }, kinds := [], alts := [], laidByText := true, laidKinds := [.data, .data, .data, .data, .sentinel, .sentinel, .pinned], laidTests := true, laidLooks := .later }
def HttpdBackCardSaid : Prop := Claim7.holds Tryz.pinned (.plain (OpenSpec.ofChange httpdBackSpec)) httpdBackCard

/-- THE TIED CARD OF 'blotterlaw08.HttpdPrinted'. -/
def httpdPrintedCard : Claim7 := { stood := { row := httpdPrintedRow, standIns := [], harness := (true, "f62546a5e510042fbf28f2c54bf68205b2dd0db24afe8e4f29c6a4b2743a7210"), looks := true }, kinds := [], alts := [], laidByText := true, laidKinds := [.data, .data, .data, .data, .sentinel, .sentinel, .pinned], laidTests := true, laidLooks := .later }
def HttpdPrintedCardSaid : Prop := Claim7.holds Tryz.pinned (.plain (OpenSpec.ofChange httpdPrintedSpec)) httpdPrintedCard

/-- THE TIED CARD OF 'blotterlaw08.HttpdCut'. -/
def httpdCutCard : Claim7 := { stood := { row := httpdCutRow, standIns := [], harness := (true, "f62546a5e510042fbf28f2c54bf68205b2dd0db24afe8e4f29c6a4b2743a7210"), looks := true }, kinds := [], alts := [], laidByText := true, laidKinds := [.data, .data, .data, .data, .sentinel, .sentinel, .pinned], laidTests := true, laidLooks := .later }
def HttpdCutCardSaid : Prop := Claim7.holds Tryz.pinned (.plain (OpenSpec.ofChange httpdCutSpec)) httpdCutCard

/-- THE TIED CARD OF 'blotterlaw08.HttpdChunks'. -/
def httpdChunksCard : Claim7 := { stood := { row := httpdChunksRow, standIns := [], harness := (true, "f62546a5e510042fbf28f2c54bf68205b2dd0db24afe8e4f29c6a4b2743a7210"), looks := true }, kinds := [], alts := [], laidByText := true, laidKinds := [.data, .data, .data, .data, .sentinel, .sentinel, .pinned], laidTests := true, laidLooks := .later }
def HttpdChunksCardSaid : Prop := Claim7.holds Tryz.pinned (.plain (OpenSpec.ofChange httpdChunksSpec)) httpdChunksCard

/-- THE TIED CARD OF 'blotterlaw08.HttpdCase'. -/
def httpdCaseCard : Claim7 := { stood := { row := httpdCaseRow, standIns := [], harness := (true, "f62546a5e510042fbf28f2c54bf68205b2dd0db24afe8e4f29c6a4b2743a7210"), looks := true }, kinds := [], alts := [], laidByText := true, laidKinds := [.data, .data, .data, .data, .sentinel, .sentinel, .pinned], laidTests := true, laidLooks := .later }
def HttpdCaseCardSaid : Prop := Claim7.holds Tryz.pinned (.plain (OpenSpec.ofChange httpdCaseSpec)) httpdCaseCard

/-- THE TIED CARD OF 'blotterlaw08.HttpdOneOf'. -/
def httpdOneOfCard : Claim7 := { stood := { row := httpdOneOfRow, standIns := [], harness := (true, "f62546a5e510042fbf28f2c54bf68205b2dd0db24afe8e4f29c6a4b2743a7210"), looks := true }, kinds := [], alts := [], laidByText := true, laidKinds := [.data, .data, .data, .data, .sentinel, .sentinel, .pinned], laidTests := true, laidLooks := .later }
def HttpdOneOfCardSaid : Prop := Claim7.holds Tryz.pinned (.plain (OpenSpec.ofChange httpdOneOfSpec)) httpdOneOfCard

/-- THE SECOND FORM's CARD OF 'blotterlaw08.HttpdBack'. -/
def httpdBackUptoCard : Claim7 := { stood := { row := httpdBackUptoRow, standIns := [], harness := (true, "f62546a5e510042fbf28f2c54bf68205b2dd0db24afe8e4f29c6a4b2743a7210"), looks := true }, kinds := [], alts := [], laidByText := true, laidKinds := [.data, .data, .data, .data, .sentinel, .sentinel, .pinned], laidTests := true, laidLooks := .later }
def HttpdBackUptoCardSaid : Prop := Claim7.holds Tryz.pinned (.plain (OpenSpec.upto httpdBackSpec)) httpdBackUptoCard

/-- THE SECOND FORM's CARD OF 'blotterlaw08.HttpdPrinted'. -/
def httpdPrintedUptoCard : Claim7 := { stood := { row := httpdPrintedUptoRow, standIns := [], harness := (true, "f62546a5e510042fbf28f2c54bf68205b2dd0db24afe8e4f29c6a4b2743a7210"), looks := true }, kinds := [], alts := [], laidByText := true, laidKinds := [.data, .data, .data, .data, .sentinel, .sentinel, .pinned], laidTests := true, laidLooks := .later }
def HttpdPrintedUptoCardSaid : Prop := Claim7.holds Tryz.pinned (.plain (OpenSpec.upto httpdPrintedSpec)) httpdPrintedUptoCard

/-- THE SECOND FORM's CARD OF 'blotterlaw08.HttpdCut'. -/
def httpdCutUptoCard : Claim7 := { stood := { row := httpdCutUptoRow, standIns := [], harness := (true, "f62546a5e510042fbf28f2c54bf68205b2dd0db24afe8e4f29c6a4b2743a7210"), looks := true }, kinds := [], alts := [], laidByText := true, laidKinds := [.data, .data, .data, .data, .sentinel, .sentinel, .pinned], laidTests := true, laidLooks := .later }
def HttpdCutUptoCardSaid : Prop := Claim7.holds Tryz.pinned (.plain (OpenSpec.upto httpdCutSpec)) httpdCutUptoCard

/-- THE SECOND FORM's CARD OF 'blotterlaw08.HttpdChunks'. -/
def httpdChunksUptoCard : Claim7 := { stood := { row := httpdChunksUptoRow, standIns := [], harness := (true, "f62546a5e510042fbf28f2c54bf68205b2dd0db24afe8e4f29c6a4b2743a7210"), looks := true }, kinds := [], alts := [], laidByText := true, laidKinds := [.data, .data, .data, .data, .sentinel, .sentinel, .pinned], laidTests := true, laidLooks := .later }
def HttpdChunksUptoCardSaid : Prop := Claim7.holds Tryz.pinned (.plain (OpenSpec.upto httpdChunksSpec)) httpdChunksUptoCard

/-- THE SECOND FORM's CARD OF 'blotterlaw08.HttpdCase'. -/
def httpdCaseUptoCard : Claim7 := { stood := { row := httpdCaseUptoRow, standIns := [], harness := (true, "f62546a5e510042fbf28f2c54bf68205b2dd0db24afe8e4f29c6a4b2743a7210"), looks := true }, kinds := [], alts := [], laidByText := true, laidKinds := [.data, .data, .data, .data, .sentinel, .sentinel, .pinned], laidTests := true, laidLooks := .later }
def HttpdCaseUptoCardSaid : Prop := Claim7.holds Tryz.pinned (.plain (OpenSpec.upto httpdCaseSpec)) httpdCaseUptoCard

/-- THE SECOND FORM's CARD OF 'blotterlaw08.HttpdOneOf'. -/
def httpdOneOfUptoCard : Claim7 := { stood := { row := httpdOneOfUptoRow, standIns := [], harness := (true, "f62546a5e510042fbf28f2c54bf68205b2dd0db24afe8e4f29c6a4b2743a7210"), looks := true }, kinds := [], alts := [], laidByText := true, laidKinds := [.data, .data, .data, .data, .sentinel, .sentinel, .pinned], laidTests := true, laidLooks := .later }
def HttpdOneOfUptoCardSaid : Prop := Claim7.holds Tryz.pinned (.plain (OpenSpec.upto httpdOneOfSpec)) httpdOneOfUptoCard
end Rows
end Go.Proofs.YthkadboeokgjnabGreatDoor
