/-
  DERIVED. GIVEN WITH THE SEED: THE CARDS: each row of YtonaekkenggmbaaGreatDoorRows.lean that lists a variable, with what it lists TIED to the program's text (the seventh form; the later family's looks); each row that meets fmt, with fmt's text TOLD by the authors' own Lean function (tested against real Go, not proved from fmt's source: count such statements apart). THE CARD IS WHAT COUNTS. Prove the row's statement (the work); the ties are given (YtonaekkenggmbaaGreatDoorTie.lean); close each card by the builder's one call (the guide's Derived/Test/ToyasCard.lean, 'card_holds'). Laid BY PROGRAM, IN A SANDBOX (cutbox-door.mjs). By AI agents, Wed Nov 11 2026. No macro, syntax, notation, axiom, sorry.
-/
import Derived.Test.YtonaekkenggmbaaGreatDoorRows
import GoSem.ClaimSeven
namespace Go.Proofs.YtonaekkenggmbaaGreatDoor
namespace Rows

/-- THE TIED CARD OF 'blotterlaw08.HttpdFeeds'. -/
def httpdFeedsCard : Claim7 := { stood := { row := httpdFeedsRow, standIns := [], harness := (true, "5845472f097b23940bc154a8c84532f57b934ff0770963138f6eeaf3ab1cdcc8"), looks := true }, kinds := [], alts := [], laidByText := true, laidKinds := [.data, .data, .data, .data, .sentinel, .sentinel, .pinned], laidTests := true, laidLooks := .later }
def HttpdFeedsCardSaid : Prop := Claim7.holds Tryz.pinned (.plain (OpenSpec.ofChange httpdFeedsSpec)) httpdFeedsCard

/-- THE TIED CARD OF 'blotterlaw08.HttpdTells'. -/
def httpdTellsCard : Claim7 := { stood := { row := httpdTellsRow, standIns := [], harness := (true, "5845472f097b23940bc154a8c84532f57b934ff0770963138f6eeaf3ab1cdcc8"), looks := true }, kinds := [], alts := [], laidByText := true, laidKinds := [.data, .data, .data, .data, .sentinel, .sentinel, .pinned], laidTests := true, laidLooks := .later }
def HttpdTellsCardSaid : Prop := Claim7.holds Tryz.pinned (.plain (OpenSpec.ofChange httpdTellsSpec)) httpdTellsCard

/-- THE TIED CARD OF 'blotterlaw08.HttpdWrites'. -/
def httpdWritesCard : Claim7 := { stood := { row := httpdWritesRow, standIns := [], harness := (true, "5845472f097b23940bc154a8c84532f57b934ff0770963138f6eeaf3ab1cdcc8"), looks := true }, kinds := [], alts := [], laidByText := true, laidKinds := [.data, .data, .data, .data, .sentinel, .sentinel, .pinned], laidTests := true, laidLooks := .later }
def HttpdWritesCardSaid : Prop := Claim7.holds Tryz.pinned (.plain (OpenSpec.ofChange httpdWritesSpec)) httpdWritesCard

/-- THE TIED CARD OF 'blotterlaw08.HttpdReads'. -/
def httpdReadsCard : Claim7 := { stood := { row := httpdReadsRow, standIns := [], harness := (true, "5845472f097b23940bc154a8c84532f57b934ff0770963138f6eeaf3ab1cdcc8"), looks := true }, kinds := [], alts := [], laidByText := true, laidKinds := [.data, .data, .data, .data, .sentinel, .sentinel, .pinned], laidTests := true, laidLooks := .later }
def HttpdReadsCardSaid : Prop := Claim7.holds Tryz.pinned (.plain (OpenSpec.ofChange httpdReadsSpec)) httpdReadsCard

/-- THE TIED CARD OF 'blotterlaw08.HttpdBack'. -/
def httpdBackCard : Claim7 := { stood := { row := httpdBackRow, standIns := [], harness := (true, "5845472f097b23940bc154a8c84532f57b934ff0770963138f6eeaf3ab1cdcc8"), looks := true }, kinds := [], alts := [], laidByText := true, laidKinds := [.data, .data, .data, .data, .sentinel, .sentinel, .pinned], laidTests := true, laidLooks := .later }
def HttpdBackCardSaid : Prop := Claim7.holds Tryz.pinned (.plain (OpenSpec.ofChange httpdBackSpec)) httpdBackCard

/-- THE TIED CARD OF 'blotterlaw08.HttpdChunks'. -/
def httpdChunksCard : Claim7 := { stood := { row := httpdChunksRow, standIns := [], harness := (true, "5845472f097b23940bc154a8c84532f57b934ff0770963138f6eeaf3ab1cdcc8"), looks := true }, kinds := [], alts := [], laidByText := true, laidKinds := [.data, .data, .data, .data, .sentinel, .sentinel, .pinned], laidTests := true, laidLooks := .later }
def HttpdChunksCardSaid : Prop := Claim7.holds Tryz.pinned (.plain (OpenSpec.ofChange httpdChunksSpec)) httpdChunksCard

/-- THE SECOND FORM's CARD OF 'blotterlaw08.HttpdFeeds'. -/
def httpdFeedsUptoCard : Claim7 := { stood := { row := httpdFeedsUptoRow, standIns := [], harness := (true, "5845472f097b23940bc154a8c84532f57b934ff0770963138f6eeaf3ab1cdcc8"), looks := true }, kinds := [], alts := [], laidByText := true, laidKinds := [.data, .data, .data, .data, .sentinel, .sentinel, .pinned], laidTests := true, laidLooks := .later }
def HttpdFeedsUptoCardSaid : Prop := Claim7.holds Tryz.pinned (.plain (OpenSpec.upto httpdFeedsSpec)) httpdFeedsUptoCard

/-- THE SECOND FORM's CARD OF 'blotterlaw08.HttpdTells'. -/
def httpdTellsUptoCard : Claim7 := { stood := { row := httpdTellsUptoRow, standIns := [], harness := (true, "5845472f097b23940bc154a8c84532f57b934ff0770963138f6eeaf3ab1cdcc8"), looks := true }, kinds := [], alts := [], laidByText := true, laidKinds := [.data, .data, .data, .data, .sentinel, .sentinel, .pinned], laidTests := true, laidLooks := .later }
def HttpdTellsUptoCardSaid : Prop := Claim7.holds Tryz.pinned (.plain (OpenSpec.upto httpdTellsSpec)) httpdTellsUptoCard

/-- THE SECOND FORM's CARD OF 'blotterlaw08.HttpdWrites'. -/
def httpdWritesUptoCard : Claim7 := { stood := { row := httpdWritesUptoRow, standIns := [], harness := (true, "5845472f097b23940bc154a8c84532f57b934ff0770963138f6eeaf3ab1cdcc8"), looks := true }, kinds := [], alts := [], laidByText := true, laidKinds := [.data, .data, .data, .data, .sentinel, .sentinel, .pinned], laidTests := true, laidLooks := .later }
def HttpdWritesUptoCardSaid : Prop := Claim7.holds Tryz.pinned (.plain (OpenSpec.upto httpdWritesSpec)) httpdWritesUptoCard

/-- THE SECOND FORM's CARD OF 'blotterlaw08.HttpdReads'. -/
def httpdReadsUptoCard : Claim7 := { stood := { row := httpdReadsUptoRow, standIns := [], harness := (true, "5845472f097b23940bc154a8c84532f57b934ff0770963138f6eeaf3ab1cdcc8"), looks := true }, kinds := [], alts := [], laidByText := true, laidKinds := [.data, .data, .data, .data, .sentinel, .sentinel, .pinned], laidTests := true, laidLooks := .later }
def HttpdReadsUptoCardSaid : Prop := Claim7.holds Tryz.pinned (.plain (OpenSpec.upto httpdReadsSpec)) httpdReadsUptoCard

/-- THE SECOND FORM's CARD OF 'blotterlaw08.HttpdBack'. -/
def httpdBackUptoCard : Claim7 := { stood := { row := httpdBackUptoRow, standIns := [], harness := (true, "5845472f097b23940bc154a8c84532f57b934ff0770963138f6eeaf3ab1cdcc8"), looks := true }, kinds := [], alts := [], laidByText := true, laidKinds := [.data, .data, .data, .data, .sentinel, .sentinel, .pinned], laidTests := true, laidLooks := .later }
def HttpdBackUptoCardSaid : Prop := Claim7.holds Tryz.pinned (.plain (OpenSpec.upto httpdBackSpec)) httpdBackUptoCard

/-- THE SECOND FORM's CARD OF 'blotterlaw08.HttpdChunks'. -/
def httpdChunksUptoCard : Claim7 := { stood := { row := httpdChunksUptoRow, standIns := [], harness := (true, "5845472f097b23940bc154a8c84532f57b934ff0770963138f6eeaf3ab1cdcc8"), looks := true }, kinds := [], alts := [], laidByText := true, laidKinds := [.data, .data, .data, .data, .sentinel, .sentinel, .pinned], laidTests := true, laidLooks := .later }
def HttpdChunksUptoCardSaid : Prop := Claim7.holds Tryz.pinned (.plain (OpenSpec.upto httpdChunksSpec)) httpdChunksUptoCard
end Rows
end Go.Proofs.YtonaekkenggmbaaGreatDoor
