/-
  DERIVED. GIVEN WITH THE SEED: THE CARDS: each row of YtiiafkjdeoabaaaDoorRows.lean that lists a variable, with what it lists TIED to the program's text (the seventh form; the later family's looks); each row that meets fmt, with fmt's text TOLD by the authors' own Lean function (tested against real Go, not proved from fmt's source: count such statements apart). THE CARD IS WHAT COUNTS. Prove the row's statement (the work); the ties are given (YtiiafkjdeoabaaaDoorTie.lean); close each card by the builder's one call (the guide's Derived/Test/ToyasCard.lean, 'card_holds'). Laid BY PROGRAM, IN A SANDBOX (cutbox-door.mjs). By AI agents, Wed Nov 11 2026. No macro, syntax, notation, axiom, sorry.
-/
import Derived.Test.YtiiafkjdeoabaaaDoorRows
import GoSem.ClaimSeven
namespace Go.Proofs.YtiiafkjdeoabaaaDoor
namespace Rows

/-- THE TIED CARD OF 'blotterlaw09.WsockReads'. -/
def wsockReadsCard : Claim7 := { stood := { row := wsockReadsRow, standIns := [], harness := (true, "ac818ea98357a562a573b444be8006a1d98e876fef8ab84feaaa2e2f540b5338"), looks := false }, kinds := [], alts := [], laidByText := true, laidKinds := [.data, .data, .data, .pinned], laidTests := true, laidLooks := .later }
def WsockReadsCardSaid : Prop := Claim7.holds Tryd.pinned (.plain (OpenSpec.ofChange wsockReadsSpec)) wsockReadsCard

/-- THE SECOND FORM's CARD OF 'blotterlaw09.WsockReads'. -/
def wsockReadsUptoCard : Claim7 := { stood := { row := wsockReadsUptoRow, standIns := [], harness := (true, "ac818ea98357a562a573b444be8006a1d98e876fef8ab84feaaa2e2f540b5338"), looks := false }, kinds := [], alts := [], laidByText := true, laidKinds := [.data, .data, .data, .pinned], laidTests := true, laidLooks := .later }
def WsockReadsUptoCardSaid : Prop := Claim7.holds Tryd.pinned (.plain (OpenSpec.upto wsockReadsSpec)) wsockReadsUptoCard
end Rows
end Go.Proofs.YtiiafkjdeoabaaaDoor
