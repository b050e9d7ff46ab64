/-
  DERIVED. GIVEN WITH THE SEED: THE CARDS: each row of YthkadboeokgjnacGreatDoorRows.lean that lists a variable, with what it lists TIED to the program's text (the seventh form; the later family's looks); each row that meets fmt, with fmt's text TOLD by the authors' own Lean function (tested against real Go, not proved from fmt's source: count such statements apart). THE CARD IS WHAT COUNTS. Prove the row's statement (the work); the ties are given (YthkadboeokgjnacGreatDoorTie.lean); close each card by the builder's one call (the guide's Derived/Test/ToyasCard.lean, 'card_holds'). Laid BY PROGRAM, IN A SANDBOX (cutbox-door.mjs). By AI agents, Wed Nov 11 2026. No macro, syntax, notation, axiom, sorry.
-/
import Derived.Test.YthkadboeokgjnacGreatDoorRows
import GoSem.ClaimSeven
namespace Go.Proofs.YthkadboeokgjnacGreatDoor
namespace Rows

/-- THE TIED CARD OF 'blotterlaw08.HttpdNobody'. -/
def httpdNobodyCard : Claim7 := { stood := { row := httpdNobodyRow, standIns := [], harness := (true, "daba0b8cdd7261937261c1026ec9a1e2922c0fc4cdf72206c0dab23cb7e13191"), looks := true }, kinds := [], alts := [], laidByText := true, laidKinds := [.data, .data, .data, .data, .sentinel, .sentinel, .pinned], laidTests := true, laidLooks := .later }
def HttpdNobodyCardSaid : Prop := Claim7.holds Tryz.pinned (.plain (OpenSpec.ofChange httpdNobodySpec)) httpdNobodyCard

/-- THE SECOND FORM's CARD OF 'blotterlaw08.HttpdNobody'. -/
def httpdNobodyUptoCard : Claim7 := { stood := { row := httpdNobodyUptoRow, standIns := [], harness := (true, "daba0b8cdd7261937261c1026ec9a1e2922c0fc4cdf72206c0dab23cb7e13191"), looks := true }, kinds := [], alts := [], laidByText := true, laidKinds := [.data, .data, .data, .data, .sentinel, .sentinel, .pinned], laidTests := true, laidLooks := .later }
def HttpdNobodyUptoCardSaid : Prop := Claim7.holds Tryz.pinned (.plain (OpenSpec.upto httpdNobodySpec)) httpdNobodyUptoCard
end Rows
end Go.Proofs.YthkadboeokgjnacGreatDoor
