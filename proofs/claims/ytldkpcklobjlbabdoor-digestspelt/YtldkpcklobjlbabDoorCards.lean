/-
  DERIVED. GIVEN WITH THE SEED: THE CARDS: each row of YtldkpcklobjlbabDoorRows.lean that lists a variable, with what it lists TIED to the program's text (the seventh form; the later family's looks); each row that meets fmt, with fmt's text TOLD by the authors' own Lean function (tested against real Go, not proved from fmt's source: count such statements apart). THE CARD IS WHAT COUNTS. Prove the row's statement (the work); the ties are given (YtldkpcklobjlbabDoorTie.lean); close each card by the builder's one call (the guide's Derived/Test/ToyasCard.lean, 'card_holds'). Laid BY PROGRAM, IN A SANDBOX (cutbox-door.mjs). By AI agents, Wed Nov 11 2026. No macro, syntax, notation, axiom, sorry.
-/
import Derived.Test.YtldkpcklobjlbabDoorRows
import GoSem.ClaimSeven
namespace Go.Proofs.YtldkpcklobjlbabDoor
namespace Rows

/-- THE TIED CARD OF 'blotterlaw07.DigestSpelt'. -/
def digestSpeltCard : Claim7 := { stood := { row := digestSpeltRow, standIns := [], harness := (true, "fe857448d333838daa4261a45fd2d5f1537d9c8ee65a7d0a20b51fdc42714b48"), looks := false }, kinds := [], alts := [], laidByText := true, laidKinds := [.data, .data, .data, .data], laidTests := true, laidLooks := .later }
def DigestSpeltCardSaid : Prop := Claim7.holds Tryd.pinned (.plain (OpenSpec.ofChange digestSpeltSpec)) digestSpeltCard

/-- THE TIED CARD OF 'blotterlaw07.DigestSame'. -/
def digestSameCard : Claim7 := { stood := { row := digestSameRow, standIns := [], harness := (true, "fe857448d333838daa4261a45fd2d5f1537d9c8ee65a7d0a20b51fdc42714b48"), looks := false }, kinds := [], alts := [], laidByText := true, laidKinds := [.data, .data, .data, .data], laidTests := true, laidLooks := .later }
def DigestSameCardSaid : Prop := Claim7.holds Tryd.pinned (.plain (OpenSpec.ofChange digestSameSpec)) digestSameCard

/-- THE SECOND FORM's CARD OF 'blotterlaw07.DigestSpelt'. -/
def digestSpeltUptoCard : Claim7 := { stood := { row := digestSpeltUptoRow, standIns := [], harness := (true, "fe857448d333838daa4261a45fd2d5f1537d9c8ee65a7d0a20b51fdc42714b48"), looks := false }, kinds := [], alts := [], laidByText := true, laidKinds := [.data, .data, .data, .data], laidTests := true, laidLooks := .later }
def DigestSpeltUptoCardSaid : Prop := Claim7.holds Tryd.pinned (.plain (OpenSpec.upto digestSpeltSpec)) digestSpeltUptoCard

/-- THE SECOND FORM's CARD OF 'blotterlaw07.DigestSame'. -/
def digestSameUptoCard : Claim7 := { stood := { row := digestSameUptoRow, standIns := [], harness := (true, "fe857448d333838daa4261a45fd2d5f1537d9c8ee65a7d0a20b51fdc42714b48"), looks := false }, kinds := [], alts := [], laidByText := true, laidKinds := [.data, .data, .data, .data], laidTests := true, laidLooks := .later }
def DigestSameUptoCardSaid : Prop := Claim7.holds Tryd.pinned (.plain (OpenSpec.upto digestSameSpec)) digestSameUptoCard
end Rows
end Go.Proofs.YtldkpcklobjlbabDoor
