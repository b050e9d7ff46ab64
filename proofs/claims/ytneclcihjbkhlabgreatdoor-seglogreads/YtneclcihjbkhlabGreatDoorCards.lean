/-
  DERIVED. GIVEN WITH THE SEED: THE CARDS: each row of YtneclcihjbkhlabGreatDoorRows.lean that lists a variable, with what it lists TIED to the program's text (the seventh form; the later family's looks); each row that meets fmt, with fmt's text TOLD by the authors' own Lean function (tested against real Go, not proved from fmt's source: count such statements apart). THE CARD IS WHAT COUNTS. Prove the row's statement (the work); the ties are given (YtneclcihjbkhlabGreatDoorTie.lean); close each card by the builder's one call (the guide's Derived/Test/ToyasCard.lean, 'card_holds'). Laid BY PROGRAM, IN A SANDBOX (cutbox-door.mjs). By AI agents, Wed Nov 11 2026. No macro, syntax, notation, axiom, sorry.
-/
import Derived.Test.YtneclcihjbkhlabGreatDoorRows
import GoSem.ClaimSeven
namespace Go.Proofs.YtneclcihjbkhlabGreatDoor
namespace Rows

/-- THE TIED CARD OF 'blotterlaw05.SeglogTrims'. -/
def seglogTrimsCard : Claim7 := { stood := { row := seglogTrimsRow, standIns := [], harness := (true, "9e96e17d8717d751bd25c5a11de380698b9d8363a3a4d553f18e171d2cb03044"), looks := true }, kinds := [], alts := [], laidByText := true, laidKinds := [.data, .data, .data, .sentinel, .sentinel], laidTests := true, laidLooks := .later }
def SeglogTrimsCardSaid : Prop := Claim7.holds Tryz.pinned (.plain (OpenSpec.ofChange seglogTrimsSpec)) seglogTrimsCard

/-- THE TIED CARD OF 'blotterlaw05.SeglogReads'. -/
def seglogReadsCard : Claim7 := { stood := { row := seglogReadsRow, standIns := [], harness := (true, "9e96e17d8717d751bd25c5a11de380698b9d8363a3a4d553f18e171d2cb03044"), looks := true }, kinds := [], alts := [], laidByText := true, laidKinds := [.data, .data, .data, .sentinel, .sentinel], laidTests := true, laidLooks := .later }
def SeglogReadsCardSaid : Prop := Claim7.holds Tryz.pinned (.plain (OpenSpec.ofChange seglogReadsSpec)) seglogReadsCard

/-- THE TIED CARD OF 'blotterlaw05.SeglogNobody'. -/
def seglogNobodyCard : Claim7 := { stood := { row := seglogNobodyRow, standIns := [], harness := (true, "9e96e17d8717d751bd25c5a11de380698b9d8363a3a4d553f18e171d2cb03044"), looks := true }, kinds := [], alts := [], laidByText := true, laidKinds := [.data, .data, .data, .sentinel, .sentinel], laidTests := true, laidLooks := .later }
def SeglogNobodyCardSaid : Prop := Claim7.holds Tryz.pinned (.plain (OpenSpec.ofChange seglogNobodySpec)) seglogNobodyCard

/-- THE SECOND FORM's CARD OF 'blotterlaw05.SeglogTrims'. -/
def seglogTrimsUptoCard : Claim7 := { stood := { row := seglogTrimsUptoRow, standIns := [], harness := (true, "9e96e17d8717d751bd25c5a11de380698b9d8363a3a4d553f18e171d2cb03044"), looks := true }, kinds := [], alts := [], laidByText := true, laidKinds := [.data, .data, .data, .sentinel, .sentinel], laidTests := true, laidLooks := .later }
def SeglogTrimsUptoCardSaid : Prop := Claim7.holds Tryz.pinned (.plain (OpenSpec.upto seglogTrimsSpec)) seglogTrimsUptoCard

/-- THE SECOND FORM's CARD OF 'blotterlaw05.SeglogReads'. -/
def seglogReadsUptoCard : Claim7 := { stood := { row := seglogReadsUptoRow, standIns := [], harness := (true, "9e96e17d8717d751bd25c5a11de380698b9d8363a3a4d553f18e171d2cb03044"), looks := true }, kinds := [], alts := [], laidByText := true, laidKinds := [.data, .data, .data, .sentinel, .sentinel], laidTests := true, laidLooks := .later }
def SeglogReadsUptoCardSaid : Prop := Claim7.holds Tryz.pinned (.plain (OpenSpec.upto seglogReadsSpec)) seglogReadsUptoCard

/-- THE SECOND FORM's CARD OF 'blotterlaw05.SeglogNobody'. -/
def seglogNobodyUptoCard : Claim7 := { stood := { row := seglogNobodyUptoRow, standIns := [], harness := (true, "9e96e17d8717d751bd25c5a11de380698b9d8363a3a4d553f18e171d2cb03044"), looks := true }, kinds := [], alts := [], laidByText := true, laidKinds := [.data, .data, .data, .sentinel, .sentinel], laidTests := true, laidLooks := .later }
def SeglogNobodyUptoCardSaid : Prop := Claim7.holds Tryz.pinned (.plain (OpenSpec.upto seglogNobodySpec)) seglogNobodyUptoCard
end Rows
end Go.Proofs.YtneclcihjbkhlabGreatDoor
