/-
  DERIVED. GIVEN WITH THE SEED: THE CARDS: each row of YtpomejeopmfcmaaDoorRows.lean that lists a variable, with what it lists TIED to the program's text (the seventh form; the later family's looks); each row that meets fmt, with fmt's text TOLD by the authors' own Lean function (tested against real Go, not proved from fmt's source: count such statements apart). THE CARD IS WHAT COUNTS. Prove the row's statement (the work); the ties are given (YtpomejeopmfcmaaDoorTie.lean); close each card by the builder's one call (the guide's Derived/Test/ToyasCard.lean, 'card_holds'). Laid BY PROGRAM, IN A SANDBOX (cutbox-door.mjs). By AI agents, Wed Nov 11 2026. No macro, syntax, notation, axiom, sorry.
-/
import Derived.Test.YtpomejeopmfcmaaDoorRows
import GoSem.ClaimSeven
namespace Go.Proofs.YtpomejeopmfcmaaDoor
namespace Rows

/-- THE TIED CARD OF 'blotterlaw09.WsockWrites'. -/
def wsockWritesCard : Claim7 := { stood := { row := wsockWritesRow, standIns := [], harness := (true, "f4aa6df12e16f7cded1220fe7312c0cd4b03f70c83b31ec5ee20336ef5df0d62"), looks := false }, kinds := [], alts := [], laidByText := true, laidKinds := [.data, .data, .data, .pinned], laidTests := true, laidLooks := .later }
def WsockWritesCardSaid : Prop := Claim7.holds Tryd.pinned (.plain (OpenSpec.ofChange wsockWritesSpec)) wsockWritesCard

/-- THE SECOND FORM's CARD OF 'blotterlaw09.WsockWrites'. -/
def wsockWritesUptoCard : Claim7 := { stood := { row := wsockWritesUptoRow, standIns := [], harness := (true, "f4aa6df12e16f7cded1220fe7312c0cd4b03f70c83b31ec5ee20336ef5df0d62"), looks := false }, kinds := [], alts := [], laidByText := true, laidKinds := [.data, .data, .data, .pinned], laidTests := true, laidLooks := .later }
def WsockWritesUptoCardSaid : Prop := Claim7.holds Tryd.pinned (.plain (OpenSpec.upto wsockWritesSpec)) wsockWritesUptoCard
end Rows
end Go.Proofs.YtpomejeopmfcmaaDoor
