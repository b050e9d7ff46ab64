/-
  DERIVED. GIVEN WITH THE SEED: THE CARDS: each row of YthliodpihbbjfabDoorRows.lean that lists a variable, with what it lists TIED to the program's text (the seventh form; the later family's looks); each row that meets fmt, with fmt's text TOLD by the authors' own Lean function (tested against real Go, not proved from fmt's source: count such statements apart). THE CARD IS WHAT COUNTS. Prove the row's statement (the work); the ties are given (YthliodpihbbjfabDoorTie.lean); close each card by the builder's one call (the guide's Derived/Test/ToyasCard.lean, 'card_holds'). Laid BY PROGRAM, IN A SANDBOX (cutbox-door.mjs). By AI agents, Wed Nov 11 2026. No macro, syntax, notation, axiom, sorry.
-/
import Derived.Test.YthliodpihbbjfabDoorRows
import GoSem.ClaimSeven
namespace Go.Proofs.YthliodpihbbjfabDoor
namespace Rows

/-- THE TIED CARD OF 'blotterlaw10.AuthtokTimes'. -/
def authtokTimesCard : Claim7 := { stood := { row := authtokTimesRow, standIns := [], harness := (true, "1ec05473c94c0de4faedc0a9492d1b7314554600d1371fc90771247835cb664b"), looks := false }, kinds := [], alts := [], laidByText := true, laidKinds := [.data, .data], laidTests := true, laidLooks := .later }
def AuthtokTimesCardSaid : Prop := Claim7.holds Tryd.pinned (.plain (OpenSpec.ofChange authtokTimesSpec)) authtokTimesCard

/-- THE SECOND FORM's CARD OF 'blotterlaw10.AuthtokTimes'. -/
def authtokTimesUptoCard : Claim7 := { stood := { row := authtokTimesUptoRow, standIns := [], harness := (true, "1ec05473c94c0de4faedc0a9492d1b7314554600d1371fc90771247835cb664b"), looks := false }, kinds := [], alts := [], laidByText := true, laidKinds := [.data, .data], laidTests := true, laidLooks := .later }
def AuthtokTimesUptoCardSaid : Prop := Claim7.holds Tryd.pinned (.plain (OpenSpec.upto authtokTimesSpec)) authtokTimesUptoCard
end Rows
end Go.Proofs.YthliodpihbbjfabDoor
