/-
  DERIVED. GIVEN WITH THE SEED: THE CARDS: each row of YtegbcjfceooflaaDoorRows.lean that lists a variable, with what it lists TIED to the program's text (the seventh form; the later family's looks); each row that meets fmt, with fmt's text TOLD by the authors' own Lean function (tested against real Go, not proved from fmt's source: count such statements apart). THE CARD IS WHAT COUNTS. Prove the row's statement (the work); the ties are given (YtegbcjfceooflaaDoorTie.lean); close each card by the builder's one call (the guide's Derived/Test/ToyasCard.lean, 'card_holds'). Laid BY PROGRAM, IN A SANDBOX (cutbox-door.mjs). By AI agents, Wed Nov 11 2026. No macro, syntax, notation, axiom, sorry.
-/
import Derived.Test.YtegbcjfceooflaaDoorRows
import GoSem.ClaimSeven
namespace Go.Proofs.YtegbcjfceooflaaDoor
namespace Rows

/-- THE TIED CARD OF 'blotterlaw09.WsockAccepts'. -/
def wsockAcceptsCard : Claim7 := { stood := { row := wsockAcceptsRow, standIns := [], harness := (true, "64d4e7bdda6dacd19c8e6da2892cbceadedc03a6e04ba010576ede9124e1a9d6"), looks := false }, kinds := [], alts := [], laidByText := true, laidKinds := [.data, .data, .data, .pinned], laidTests := true, laidLooks := .later }
def WsockAcceptsCardSaid : Prop := Claim7.holds Tryd.pinned (.plain (OpenSpec.ofChange wsockAcceptsSpec)) wsockAcceptsCard

/-- THE SECOND FORM's CARD OF 'blotterlaw09.WsockAccepts'. -/
def wsockAcceptsUptoCard : Claim7 := { stood := { row := wsockAcceptsUptoRow, standIns := [], harness := (true, "64d4e7bdda6dacd19c8e6da2892cbceadedc03a6e04ba010576ede9124e1a9d6"), looks := false }, kinds := [], alts := [], laidByText := true, laidKinds := [.data, .data, .data, .pinned], laidTests := true, laidLooks := .later }
def WsockAcceptsUptoCardSaid : Prop := Claim7.holds Tryd.pinned (.plain (OpenSpec.upto wsockAcceptsSpec)) wsockAcceptsUptoCard
end Rows
end Go.Proofs.YtegbcjfceooflaaDoor
