/-
  DERIVED. GIVEN WITH THE SEED: THE CARDS: each row of YtoapkajlgnlecaaDoorRows.lean that lists a variable, with what it lists TIED to the program's text (the seventh form; the later family's looks); each row that meets fmt, with fmt's text TOLD by the authors' own Lean function (tested against real Go, not proved from fmt's source: count such statements apart). THE CARD IS WHAT COUNTS. Prove the row's statement (the work); the ties are given (YtoapkajlgnlecaaDoorTie.lean); close each card by the builder's one call (the guide's Derived/Test/ToyasCard.lean, 'card_holds'). Laid BY PROGRAM, IN A SANDBOX (cutbox-door.mjs). By AI agents, Wed Nov 11 2026. No macro, syntax, notation, axiom, sorry.
-/
import Derived.Test.YtoapkajlgnlecaaDoorRows
import GoSem.ClaimSeven
namespace Go.Proofs.YtoapkajlgnlecaaDoor
namespace Rows

/-- THE TIED CARD OF 'blotterlaw10.AuthtokBearer'. -/
def authtokBearerCard : Claim7 := { stood := { row := authtokBearerRow, standIns := [], harness := (true, "b5168dcf9ae0ca511ede2afbe21e04e5f03fbbcca76615c511ac1d1fa4150289"), looks := false }, kinds := [], alts := [], laidByText := true, laidKinds := [.data, .data], laidTests := true, laidLooks := .later }
def AuthtokBearerCardSaid : Prop := Claim7.holds Tryd.pinned (.plain (OpenSpec.ofChange authtokBearerSpec)) authtokBearerCard

/-- THE SECOND FORM's CARD OF 'blotterlaw10.AuthtokBearer'. -/
def authtokBearerUptoCard : Claim7 := { stood := { row := authtokBearerUptoRow, standIns := [], harness := (true, "b5168dcf9ae0ca511ede2afbe21e04e5f03fbbcca76615c511ac1d1fa4150289"), looks := false }, kinds := [], alts := [], laidByText := true, laidKinds := [.data, .data], laidTests := true, laidLooks := .later }
def AuthtokBearerUptoCardSaid : Prop := Claim7.holds Tryd.pinned (.plain (OpenSpec.upto authtokBearerSpec)) authtokBearerUptoCard
end Rows
end Go.Proofs.YtoapkajlgnlecaaDoor
