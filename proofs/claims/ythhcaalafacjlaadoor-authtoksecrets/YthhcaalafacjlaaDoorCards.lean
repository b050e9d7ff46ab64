/-
  DERIVED. GIVEN WITH THE SEED: THE CARDS: each row of YthhcaalafacjlaaDoorRows.lean that lists a variable, with what it lists TIED to the program's text (the seventh form; the later family's looks); each row that meets fmt, with fmt's text TOLD by the authors' own Lean function (tested against real Go, not proved from fmt's source: count such statements apart). THE CARD IS WHAT COUNTS. Prove the row's statement (the work); the ties are given (YthhcaalafacjlaaDoorTie.lean); close each card by the builder's one call (the guide's Derived/Test/ToyasCard.lean, 'card_holds'). Laid BY PROGRAM, IN A SANDBOX (cutbox-door.mjs). By AI agents, Wed Nov 11 2026. No macro, syntax, notation, axiom, sorry.
-/
import Derived.Test.YthhcaalafacjlaaDoorRows
import GoSem.ClaimSeven
namespace Go.Proofs.YthhcaalafacjlaaDoor
namespace Rows

/-- THE TIED CARD OF 'blotterlaw10.AuthtokMakes'. -/
def authtokMakesCard : Claim7 := { stood := { row := authtokMakesRow, standIns := [], harness := (true, "90aff17cac4201bb78f4de1c03a82bf39fc8b50494e1d8fa4aed109431894072"), looks := false }, kinds := [], alts := [], laidByText := true, laidKinds := [.data, .data], laidTests := true, laidLooks := .later }
def AuthtokMakesCardSaid : Prop := Claim7.holds Tryd.pinned (.plain (OpenSpec.ofChange authtokMakesSpec)) authtokMakesCard

/-- THE TIED CARD OF 'blotterlaw10.AuthtokReads'. -/
def authtokReadsCard : Claim7 := { stood := { row := authtokReadsRow, standIns := [], harness := (true, "90aff17cac4201bb78f4de1c03a82bf39fc8b50494e1d8fa4aed109431894072"), looks := false }, kinds := [], alts := [], laidByText := true, laidKinds := [.data, .data], laidTests := true, laidLooks := .later }
def AuthtokReadsCardSaid : Prop := Claim7.holds Tryd.pinned (.plain (OpenSpec.ofChange authtokReadsSpec)) authtokReadsCard

/-- THE TIED CARD OF 'blotterlaw10.AuthtokSecrets'. -/
def authtokSecretsCard : Claim7 := { stood := { row := authtokSecretsRow, standIns := [], harness := (true, "90aff17cac4201bb78f4de1c03a82bf39fc8b50494e1d8fa4aed109431894072"), looks := false }, kinds := [], alts := [], laidByText := true, laidKinds := [.data, .data], laidTests := true, laidLooks := .later }
def AuthtokSecretsCardSaid : Prop := Claim7.holds Tryd.pinned (.plain (OpenSpec.ofChange authtokSecretsSpec)) authtokSecretsCard

/-- THE SECOND FORM's CARD OF 'blotterlaw10.AuthtokMakes'. -/
def authtokMakesUptoCard : Claim7 := { stood := { row := authtokMakesUptoRow, standIns := [], harness := (true, "90aff17cac4201bb78f4de1c03a82bf39fc8b50494e1d8fa4aed109431894072"), looks := false }, kinds := [], alts := [], laidByText := true, laidKinds := [.data, .data], laidTests := true, laidLooks := .later }
def AuthtokMakesUptoCardSaid : Prop := Claim7.holds Tryd.pinned (.plain (OpenSpec.upto authtokMakesSpec)) authtokMakesUptoCard

/-- THE SECOND FORM's CARD OF 'blotterlaw10.AuthtokReads'. -/
def authtokReadsUptoCard : Claim7 := { stood := { row := authtokReadsUptoRow, standIns := [], harness := (true, "90aff17cac4201bb78f4de1c03a82bf39fc8b50494e1d8fa4aed109431894072"), looks := false }, kinds := [], alts := [], laidByText := true, laidKinds := [.data, .data], laidTests := true, laidLooks := .later }
def AuthtokReadsUptoCardSaid : Prop := Claim7.holds Tryd.pinned (.plain (OpenSpec.upto authtokReadsSpec)) authtokReadsUptoCard

/-- THE SECOND FORM's CARD OF 'blotterlaw10.AuthtokSecrets'. -/
def authtokSecretsUptoCard : Claim7 := { stood := { row := authtokSecretsUptoRow, standIns := [], harness := (true, "90aff17cac4201bb78f4de1c03a82bf39fc8b50494e1d8fa4aed109431894072"), looks := false }, kinds := [], alts := [], laidByText := true, laidKinds := [.data, .data], laidTests := true, laidLooks := .later }
def AuthtokSecretsUptoCardSaid : Prop := Claim7.holds Tryd.pinned (.plain (OpenSpec.upto authtokSecretsSpec)) authtokSecretsUptoCard
end Rows
end Go.Proofs.YthhcaalafacjlaaDoor
