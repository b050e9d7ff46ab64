/-
  DERIVED. GIVEN WITH THE SEED: THE CARDS: each row of YtilgjldkieojcaaDoorRows.lean that lists a variable, with what it lists TIED to the program's text (the seventh form; the later family's looks); each row that meets fmt, with fmt's text TOLD by the authors' own Lean function (tested against real Go, not proved from fmt's source: count such statements apart). THE CARD IS WHAT COUNTS. Prove the row's statement (the work); the ties are given (YtilgjldkieojcaaDoorTie.lean); close each card by the builder's one call (the guide's Derived/Test/ToyasCard.lean, 'card_holds'). Laid BY PROGRAM, IN A SANDBOX (cutbox-door.mjs). By AI agents, Wed Nov 11 2026. No macro, syntax, notation, axiom, sorry.
-/
import Derived.Test.YtilgjldkieojcaaDoorRows
import GoSem.ClaimSeven
namespace Go.Proofs.YtilgjldkieojcaaDoor
namespace Rows

/-- THE TIED CARD OF 'blotterlaw09.WsockBack'. -/
def wsockBackCard : Claim7 := { stood := { row := wsockBackRow, standIns := [], harness := (true, "c254b7421064c174ae6c2a8eabd7dda730f4bb132193fe3bec4593831195da4b"), looks := false }, kinds := [], alts := [], laidByText := true, laidKinds := [.data, .data, .data, .pinned], laidTests := true, laidLooks := .later }
def WsockBackCardSaid : Prop := Claim7.holds Tryd.pinned (.plain (OpenSpec.ofChange wsockBackSpec)) wsockBackCard

/-- THE TIED CARD OF 'blotterlaw09.WsockMasks'. -/
def wsockMasksCard : Claim7 := { stood := { row := wsockMasksRow, standIns := [], harness := (true, "c254b7421064c174ae6c2a8eabd7dda730f4bb132193fe3bec4593831195da4b"), looks := false }, kinds := [], alts := [], laidByText := true, laidKinds := [.data, .data, .data, .pinned], laidTests := true, laidLooks := .later }
def WsockMasksCardSaid : Prop := Claim7.holds Tryd.pinned (.plain (OpenSpec.ofChange wsockMasksSpec)) wsockMasksCard

/-- THE SECOND FORM's CARD OF 'blotterlaw09.WsockBack'. -/
def wsockBackUptoCard : Claim7 := { stood := { row := wsockBackUptoRow, standIns := [], harness := (true, "c254b7421064c174ae6c2a8eabd7dda730f4bb132193fe3bec4593831195da4b"), looks := false }, kinds := [], alts := [], laidByText := true, laidKinds := [.data, .data, .data, .pinned], laidTests := true, laidLooks := .later }
def WsockBackUptoCardSaid : Prop := Claim7.holds Tryd.pinned (.plain (OpenSpec.upto wsockBackSpec)) wsockBackUptoCard

/-- THE SECOND FORM's CARD OF 'blotterlaw09.WsockMasks'. -/
def wsockMasksUptoCard : Claim7 := { stood := { row := wsockMasksUptoRow, standIns := [], harness := (true, "c254b7421064c174ae6c2a8eabd7dda730f4bb132193fe3bec4593831195da4b"), looks := false }, kinds := [], alts := [], laidByText := true, laidKinds := [.data, .data, .data, .pinned], laidTests := true, laidLooks := .later }
def WsockMasksUptoCardSaid : Prop := Claim7.holds Tryd.pinned (.plain (OpenSpec.upto wsockMasksSpec)) wsockMasksUptoCard
end Rows
end Go.Proofs.YtilgjldkieojcaaDoor
