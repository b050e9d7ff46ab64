/-
  DERIVED. GIVEN WITH THE SEED: THE CARDS: each row of YtneclcihjbkhlaaGreatDoorRows.lean that lists a variable, with what it lists TIED to the program's text (the seventh form; the later family's looks); each row that meets fmt, with fmt's text TOLD by the authors' own Lean function (tested against real Go, not proved from fmt's source: count such statements apart). THE CARD IS WHAT COUNTS. Prove the row's statement (the work); the ties are given (YtneclcihjbkhlaaGreatDoorTie.lean); close each card by the builder's one call (the guide's Derived/Test/ToyasCard.lean, 'card_holds'). Laid BY PROGRAM, IN A SANDBOX (cutbox-door.mjs). By AI agents, Wed Nov 11 2026. No macro, syntax, notation, axiom, sorry.
-/
import Derived.Test.YtneclcihjbkhlaaGreatDoorRows
import GoSem.ClaimSeven
namespace Go.Proofs.YtneclcihjbkhlaaGreatDoor
namespace Rows

/-- THE TIED CARD OF 'blotterlaw05.SeglogPlays'. -/
def seglogPlaysCard : Claim7 := { stood := { row := seglogPlaysRow, standIns := [], harness := (true, "4c38bc74bdb87268d45e13e17a663d9686a580e4b0a98911b90768bda2c4a695"), looks := true }, kinds := [], alts := [], laidByText := true, laidKinds := [.data, .data, .data, .sentinel, .sentinel], laidTests := true, laidLooks := .later }
def SeglogPlaysCardSaid : Prop := Claim7.holds Tryz.pinned (.plain (OpenSpec.ofChange seglogPlaysSpec)) seglogPlaysCard

/-- THE TIED CARD OF 'blotterlaw05.SeglogOpens'. -/
def seglogOpensCard : Claim7 := { stood := { row := seglogOpensRow, standIns := [], harness := (true, "4c38bc74bdb87268d45e13e17a663d9686a580e4b0a98911b90768bda2c4a695"), looks := true }, kinds := [], alts := [], laidByText := true, laidKinds := [.data, .data, .data, .sentinel, .sentinel], laidTests := true, laidLooks := .later }
def SeglogOpensCardSaid : Prop := Claim7.holds Tryz.pinned (.plain (OpenSpec.ofChange seglogOpensSpec)) seglogOpensCard

/-- THE TIED CARD OF 'blotterlaw05.SeglogStays'. -/
def seglogStaysCard : Claim7 := { stood := { row := seglogStaysRow, standIns := [], harness := (true, "4c38bc74bdb87268d45e13e17a663d9686a580e4b0a98911b90768bda2c4a695"), looks := true }, kinds := [], alts := [], laidByText := true, laidKinds := [.data, .data, .data, .sentinel, .sentinel], laidTests := true, laidLooks := .later }
def SeglogStaysCardSaid : Prop := Claim7.holds Tryz.pinned (.plain (OpenSpec.ofChange seglogStaysSpec)) seglogStaysCard

/-- THE TIED CARD OF 'blotterlaw05.SeglogAgain'. -/
def seglogAgainCard : Claim7 := { stood := { row := seglogAgainRow, standIns := [], harness := (true, "4c38bc74bdb87268d45e13e17a663d9686a580e4b0a98911b90768bda2c4a695"), looks := true }, kinds := [], alts := [], laidByText := true, laidKinds := [.data, .data, .data, .sentinel, .sentinel], laidTests := true, laidLooks := .later }
def SeglogAgainCardSaid : Prop := Claim7.holds Tryz.pinned (.plain (OpenSpec.ofChange seglogAgainSpec)) seglogAgainCard

/-- THE TIED CARD OF 'blotterlaw05.SeglogOn'. -/
def seglogOnCard : Claim7 := { stood := { row := seglogOnRow, standIns := [], harness := (true, "4c38bc74bdb87268d45e13e17a663d9686a580e4b0a98911b90768bda2c4a695"), looks := true }, kinds := [], alts := [], laidByText := true, laidKinds := [.data, .data, .data, .sentinel, .sentinel], laidTests := true, laidLooks := .later }
def SeglogOnCardSaid : Prop := Claim7.holds Tryz.pinned (.plain (OpenSpec.ofChange seglogOnSpec)) seglogOnCard

/-- THE TIED CARD OF 'blotterlaw05.SeglogRefused'. -/
def seglogRefusedCard : Claim7 := { stood := { row := seglogRefusedRow, standIns := [], harness := (true, "4c38bc74bdb87268d45e13e17a663d9686a580e4b0a98911b90768bda2c4a695"), looks := true }, kinds := [], alts := [], laidByText := true, laidKinds := [.data, .data, .data, .sentinel, .sentinel], laidTests := true, laidLooks := .later }
def SeglogRefusedCardSaid : Prop := Claim7.holds Tryz.pinned (.plain (OpenSpec.ofChange seglogRefusedSpec)) seglogRefusedCard

/-- THE SECOND FORM's CARD OF 'blotterlaw05.SeglogPlays'. -/
def seglogPlaysUptoCard : Claim7 := { stood := { row := seglogPlaysUptoRow, standIns := [], harness := (true, "4c38bc74bdb87268d45e13e17a663d9686a580e4b0a98911b90768bda2c4a695"), looks := true }, kinds := [], alts := [], laidByText := true, laidKinds := [.data, .data, .data, .sentinel, .sentinel], laidTests := true, laidLooks := .later }
def SeglogPlaysUptoCardSaid : Prop := Claim7.holds Tryz.pinned (.plain (OpenSpec.upto seglogPlaysSpec)) seglogPlaysUptoCard

/-- THE SECOND FORM's CARD OF 'blotterlaw05.SeglogOpens'. -/
def seglogOpensUptoCard : Claim7 := { stood := { row := seglogOpensUptoRow, standIns := [], harness := (true, "4c38bc74bdb87268d45e13e17a663d9686a580e4b0a98911b90768bda2c4a695"), looks := true }, kinds := [], alts := [], laidByText := true, laidKinds := [.data, .data, .data, .sentinel, .sentinel], laidTests := true, laidLooks := .later }
def SeglogOpensUptoCardSaid : Prop := Claim7.holds Tryz.pinned (.plain (OpenSpec.upto seglogOpensSpec)) seglogOpensUptoCard

/-- THE SECOND FORM's CARD OF 'blotterlaw05.SeglogStays'. -/
def seglogStaysUptoCard : Claim7 := { stood := { row := seglogStaysUptoRow, standIns := [], harness := (true, "4c38bc74bdb87268d45e13e17a663d9686a580e4b0a98911b90768bda2c4a695"), looks := true }, kinds := [], alts := [], laidByText := true, laidKinds := [.data, .data, .data, .sentinel, .sentinel], laidTests := true, laidLooks := .later }
def SeglogStaysUptoCardSaid : Prop := Claim7.holds Tryz.pinned (.plain (OpenSpec.upto seglogStaysSpec)) seglogStaysUptoCard

/-- THE SECOND FORM's CARD OF 'blotterlaw05.SeglogAgain'. -/
def seglogAgainUptoCard : Claim7 := { stood := { row := seglogAgainUptoRow, standIns := [], harness := (true, "4c38bc74bdb87268d45e13e17a663d9686a580e4b0a98911b90768bda2c4a695"), looks := true }, kinds := [], alts := [], laidByText := true, laidKinds := [.data, .data, .data, .sentinel, .sentinel], laidTests := true, laidLooks := .later }
def SeglogAgainUptoCardSaid : Prop := Claim7.holds Tryz.pinned (.plain (OpenSpec.upto seglogAgainSpec)) seglogAgainUptoCard

/-- THE SECOND FORM's CARD OF 'blotterlaw05.SeglogOn'. -/
def seglogOnUptoCard : Claim7 := { stood := { row := seglogOnUptoRow, standIns := [], harness := (true, "4c38bc74bdb87268d45e13e17a663d9686a580e4b0a98911b90768bda2c4a695"), looks := true }, kinds := [], alts := [], laidByText := true, laidKinds := [.data, .data, .data, .sentinel, .sentinel], laidTests := true, laidLooks := .later }
def SeglogOnUptoCardSaid : Prop := Claim7.holds Tryz.pinned (.plain (OpenSpec.upto seglogOnSpec)) seglogOnUptoCard

/-- THE SECOND FORM's CARD OF 'blotterlaw05.SeglogRefused'. -/
def seglogRefusedUptoCard : Claim7 := { stood := { row := seglogRefusedUptoRow, standIns := [], harness := (true, "4c38bc74bdb87268d45e13e17a663d9686a580e4b0a98911b90768bda2c4a695"), looks := true }, kinds := [], alts := [], laidByText := true, laidKinds := [.data, .data, .data, .sentinel, .sentinel], laidTests := true, laidLooks := .later }
def SeglogRefusedUptoCardSaid : Prop := Claim7.holds Tryz.pinned (.plain (OpenSpec.upto seglogRefusedSpec)) seglogRefusedUptoCard
end Rows
end Go.Proofs.YtneclcihjbkhlaaGreatDoor
