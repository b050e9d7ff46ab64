/-
  DERIVED. GIVEN WITH THE SEED: THE CARDS: each row of YtfnlcgdclamhcaaDoorRows.lean that lists a variable, with what it lists TIED to the program's text (the seventh form; the later family's looks); each row that meets fmt, with fmt's text TOLD by the authors' own Lean function (tested against real Go, not proved from fmt's source: count such statements apart). THE CARD IS WHAT COUNTS. Prove the row's statement (the work); the ties are given (YtfnlcgdclamhcaaDoorTie.lean); close each card by the builder's one call (the guide's Derived/Test/ToyasCard.lean, 'card_holds'). Laid BY PROGRAM, IN A SANDBOX (cutbox-door.mjs). By AI agents, Wed Nov 11 2026. No macro, syntax, notation, axiom, sorry.
-/
import Derived.Test.YtfnlcgdclamhcaaDoorRows
import GoSem.ClaimSeven
namespace Go.Proofs.YtfnlcgdclamhcaaDoor
namespace Rows

/-- THE TIED CARD OF 'blotterlaw01.WireChars'. -/
def wireCharsCard : Claim7 := { stood := { row := wireCharsRow, standIns := [], harness := (true, "52303ee9c259e9bd66c8ca627910a279f89030018770ef58a1697fc13ad12f8a"), looks := false }, kinds := [], alts := [], laidByText := true, laidKinds := [.data, .pinned], laidTests := true, laidLooks := .later }
def WireCharsCardSaid : Prop := Claim7.holds Tryd.pinned (.plain (OpenSpec.ofChange wireCharsSpec)) wireCharsCard

/-- THE TIED CARD OF 'blotterlaw01.WireJoined'. -/
def wireJoinedCard : Claim7 := { stood := { row := wireJoinedRow, standIns := [], harness := (true, "52303ee9c259e9bd66c8ca627910a279f89030018770ef58a1697fc13ad12f8a"), looks := false }, kinds := [], alts := [], laidByText := true, laidKinds := [.data, .pinned], laidTests := true, laidLooks := .later }
def WireJoinedCardSaid : Prop := Claim7.holds Tryd.pinned (.plain (OpenSpec.ofChange wireJoinedSpec)) wireJoinedCard

/-- THE SECOND FORM's CARD OF 'blotterlaw01.WireChars'. -/
def wireCharsUptoCard : Claim7 := { stood := { row := wireCharsUptoRow, standIns := [], harness := (true, "52303ee9c259e9bd66c8ca627910a279f89030018770ef58a1697fc13ad12f8a"), looks := false }, kinds := [], alts := [], laidByText := true, laidKinds := [.data, .pinned], laidTests := true, laidLooks := .later }
def WireCharsUptoCardSaid : Prop := Claim7.holds Tryd.pinned (.plain (OpenSpec.upto wireCharsSpec)) wireCharsUptoCard

/-- THE SECOND FORM's CARD OF 'blotterlaw01.WireJoined'. -/
def wireJoinedUptoCard : Claim7 := { stood := { row := wireJoinedUptoRow, standIns := [], harness := (true, "52303ee9c259e9bd66c8ca627910a279f89030018770ef58a1697fc13ad12f8a"), looks := false }, kinds := [], alts := [], laidByText := true, laidKinds := [.data, .pinned], laidTests := true, laidLooks := .later }
def WireJoinedUptoCardSaid : Prop := Claim7.holds Tryd.pinned (.plain (OpenSpec.upto wireJoinedSpec)) wireJoinedUptoCard
end Rows
end Go.Proofs.YtfnlcgdclamhcaaDoor
