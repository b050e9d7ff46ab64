/-
  DERIVED. GIVEN WITH THE SEED: THE CARDS: each row of YtbnbngmnoffmkaaGreatDoorRows.lean that lists a variable, with what it lists TIED to the program's text (the seventh form; the later family's looks); each row that meets fmt, with fmt's text TOLD by the authors' own Lean function (tested against real Go, not proved from fmt's source: count such statements apart). THE CARD IS WHAT COUNTS. Prove the row's statement (the work); the ties are given (YtbnbngmnoffmkaaGreatDoorTie.lean); close each card by the builder's one call (the guide's Derived/Test/ToyasCard.lean, 'card_holds'). Laid BY PROGRAM, IN A SANDBOX (cutbox-door.mjs). By AI agents, Wed Nov 11 2026. No macro, syntax, notation, axiom, sorry.
-/
import Derived.Test.YtbnbngmnoffmkaaGreatDoorRows
import GoSem.ClaimSeven
namespace Go.Proofs.YtbnbngmnoffmkaaGreatDoor
namespace Rows

/-- THE TIED CARD OF 'blotterlaw04.JsonxParses'. -/
def jsonxParsesCard : Claim7 := { stood := { row := jsonxParsesRow, standIns := [], harness := (true, "db7d71cba987101219d5af896be1ba314a94ff0ffd39020e9b1ae31873395856"), looks := true }, kinds := [], alts := [], laidByText := true, laidKinds := [.data, .data, .data, .data, .handle, .pinned], laidTests := true, laidLooks := .later }
def JsonxParsesCardSaid : Prop := Claim7.holds Tryz.pinned (.plain (OpenSpec.ofChange jsonxParsesSpec)) jsonxParsesCard

/-- THE TIED CARD OF 'blotterlaw04.JsonxPrints'. -/
def jsonxPrintsCard : Claim7 := { stood := { row := jsonxPrintsRow, standIns := [], harness := (true, "db7d71cba987101219d5af896be1ba314a94ff0ffd39020e9b1ae31873395856"), looks := true }, kinds := [], alts := [], laidByText := true, laidKinds := [.data, .data, .data, .data, .handle, .pinned], laidTests := true, laidLooks := .later }
def JsonxPrintsCardSaid : Prop := Claim7.holds Tryz.pinned (.plain (OpenSpec.ofChange jsonxPrintsSpec)) jsonxPrintsCard

/-- THE TIED CARD OF 'blotterlaw04.JsonxGets'. -/
def jsonxGetsCard : Claim7 := { stood := { row := jsonxGetsRow, standIns := [], harness := (true, "db7d71cba987101219d5af896be1ba314a94ff0ffd39020e9b1ae31873395856"), looks := true }, kinds := [], alts := [], laidByText := true, laidKinds := [.data, .data, .data, .data, .handle, .pinned], laidTests := true, laidLooks := .later }
def JsonxGetsCardSaid : Prop := Claim7.holds Tryz.pinned (.plain (OpenSpec.ofChange jsonxGetsSpec)) jsonxGetsCard

/-- THE SECOND FORM's CARD OF 'blotterlaw04.JsonxParses'. -/
def jsonxParsesUptoCard : Claim7 := { stood := { row := jsonxParsesUptoRow, standIns := [], harness := (true, "db7d71cba987101219d5af896be1ba314a94ff0ffd39020e9b1ae31873395856"), looks := true }, kinds := [], alts := [], laidByText := true, laidKinds := [.data, .data, .data, .data, .handle, .pinned], laidTests := true, laidLooks := .later }
def JsonxParsesUptoCardSaid : Prop := Claim7.holds Tryz.pinned (.plain (OpenSpec.upto jsonxParsesSpec)) jsonxParsesUptoCard

/-- THE SECOND FORM's CARD OF 'blotterlaw04.JsonxPrints'. -/
def jsonxPrintsUptoCard : Claim7 := { stood := { row := jsonxPrintsUptoRow, standIns := [], harness := (true, "db7d71cba987101219d5af896be1ba314a94ff0ffd39020e9b1ae31873395856"), looks := true }, kinds := [], alts := [], laidByText := true, laidKinds := [.data, .data, .data, .data, .handle, .pinned], laidTests := true, laidLooks := .later }
def JsonxPrintsUptoCardSaid : Prop := Claim7.holds Tryz.pinned (.plain (OpenSpec.upto jsonxPrintsSpec)) jsonxPrintsUptoCard

/-- THE SECOND FORM's CARD OF 'blotterlaw04.JsonxGets'. -/
def jsonxGetsUptoCard : Claim7 := { stood := { row := jsonxGetsUptoRow, standIns := [], harness := (true, "db7d71cba987101219d5af896be1ba314a94ff0ffd39020e9b1ae31873395856"), looks := true }, kinds := [], alts := [], laidByText := true, laidKinds := [.data, .data, .data, .data, .handle, .pinned], laidTests := true, laidLooks := .later }
def JsonxGetsUptoCardSaid : Prop := Claim7.holds Tryz.pinned (.plain (OpenSpec.upto jsonxGetsSpec)) jsonxGetsUptoCard
end Rows
end Go.Proofs.YtbnbngmnoffmkaaGreatDoor
