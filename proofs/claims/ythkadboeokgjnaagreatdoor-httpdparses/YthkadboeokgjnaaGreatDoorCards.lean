/-
  DERIVED. GIVEN WITH THE SEED: THE CARDS: each row of YthkadboeokgjnaaGreatDoorRows.lean that lists a variable, with what it lists TIED to the program's text (the seventh form; the later family's looks); each row that meets fmt, with fmt's text TOLD by the authors' own Lean function (tested against real Go, not proved from fmt's source: count such statements apart). THE CARD IS WHAT COUNTS. Prove the row's statement (the work); the ties are given (YthkadboeokgjnaaGreatDoorTie.lean); close each card by the builder's one call (the guide's Derived/Test/ToyasCard.lean, 'card_holds'). Laid BY PROGRAM, IN A SANDBOX (cutbox-door.mjs). By AI agents, Wed Nov 11 2026. No macro, syntax, notation, axiom, sorry.
-/
import Derived.Test.YthkadboeokgjnaaGreatDoorRows
import GoSem.ClaimSeven
namespace Go.Proofs.YthkadboeokgjnaaGreatDoor
namespace Rows

/-- THE TIED CARD OF 'blotterlaw08.HttpdParses'. -/
def httpdParsesCard : Claim7 := { stood := { row := httpdParsesRow, standIns := [], harness := (true, "bb707e6daa8d0e984c777335fc21e80e7ca311b42316e9c781fd309e41589bad"), looks := true }, kinds := [], alts := [], laidByText := true, laidKinds := [.data, .data, .data, .data, .sentinel, .sentinel, .pinned], laidTests := true, laidLooks := .later }
def HttpdParsesCardSaid : Prop := Claim7.holds Tryz.pinned (.plain (OpenSpec.ofChange httpdParsesSpec)) httpdParsesCard

/-- THE TIED CARD OF 'blotterlaw08.HttpdFeeds'. -/
def httpdFeedsCard : Claim7 := { stood := { row := httpdFeedsRow, standIns := [], harness := (true, "bb707e6daa8d0e984c777335fc21e80e7ca311b42316e9c781fd309e41589bad"), looks := true }, kinds := [], alts := [], laidByText := true, laidKinds := [.data, .data, .data, .data, .sentinel, .sentinel, .pinned], laidTests := true, laidLooks := .later }
def HttpdFeedsCardSaid : Prop := Claim7.holds Tryz.pinned (.plain (OpenSpec.ofChange httpdFeedsSpec)) httpdFeedsCard

/-- THE TIED CARD OF 'blotterlaw08.HttpdTells'. -/
def httpdTellsCard : Claim7 := { stood := { row := httpdTellsRow, standIns := [], harness := (true, "bb707e6daa8d0e984c777335fc21e80e7ca311b42316e9c781fd309e41589bad"), looks := true }, kinds := [], alts := [], laidByText := true, laidKinds := [.data, .data, .data, .data, .sentinel, .sentinel, .pinned], laidTests := true, laidLooks := .later }
def HttpdTellsCardSaid : Prop := Claim7.holds Tryz.pinned (.plain (OpenSpec.ofChange httpdTellsSpec)) httpdTellsCard

/-- THE TIED CARD OF 'blotterlaw08.HttpdWrites'. -/
def httpdWritesCard : Claim7 := { stood := { row := httpdWritesRow, standIns := [], harness := (true, "bb707e6daa8d0e984c777335fc21e80e7ca311b42316e9c781fd309e41589bad"), looks := true }, kinds := [], alts := [], laidByText := true, laidKinds := [.data, .data, .data, .data, .sentinel, .sentinel, .pinned], laidTests := true, laidLooks := .later }
def HttpdWritesCardSaid : Prop := Claim7.holds Tryz.pinned (.plain (OpenSpec.ofChange httpdWritesSpec)) httpdWritesCard

/-- THE TIED CARD OF 'blotterlaw08.HttpdReads'. -/
def httpdReadsCard : Claim7 := { stood := { row := httpdReadsRow, standIns := [], harness := (true, "bb707e6daa8d0e984c777335fc21e80e7ca311b42316e9c781fd309e41589bad"), looks := true }, kinds := [], alts := [], laidByText := true, laidKinds := [.data, .data, .data, .data, .sentinel, .sentinel, .pinned], laidTests := true, laidLooks := .later }
def HttpdReadsCardSaid : Prop := Claim7.holds Tryz.pinned (.plain (OpenSpec.ofChange httpdReadsSpec)) httpdReadsCard

/-- THE TIED CARD OF 'blotterlaw08.HttpdPieces'. -/
def httpdPiecesCard : Claim7 := { stood := { row := httpdPiecesRow, standIns := [], harness := (true, "bb707e6daa8d0e984c777335fc21e80e7ca311b42316e9c781fd309e41589bad"), looks := true }, kinds := [], alts := [], laidByText := true, laidKinds := [.data, .data, .data, .data, .sentinel, .sentinel, .pinned], laidTests := true, laidLooks := .later }
def HttpdPiecesCardSaid : Prop := Claim7.holds Tryz.pinned (.plain (OpenSpec.ofChange httpdPiecesSpec)) httpdPiecesCard

/-- THE SECOND FORM's CARD OF 'blotterlaw08.HttpdParses'. -/
def httpdParsesUptoCard : Claim7 := { stood := { row := httpdParsesUptoRow, standIns := [], harness := (true, "bb707e6daa8d0e984c777335fc21e80e7ca311b42316e9c781fd309e41589bad"), looks := true }, kinds := [], alts := [], laidByText := true, laidKinds := [.data, .data, .data, .data, .sentinel, .sentinel, .pinned], laidTests := true, laidLooks := .later }
def HttpdParsesUptoCardSaid : Prop := Claim7.holds Tryz.pinned (.plain (OpenSpec.upto httpdParsesSpec)) httpdParsesUptoCard

/-- THE SECOND FORM's CARD OF 'blotterlaw08.HttpdFeeds'. -/
def httpdFeedsUptoCard : Claim7 := { stood := { row := httpdFeedsUptoRow, standIns := [], harness := (true, "bb707e6daa8d0e984c777335fc21e80e7ca311b42316e9c781fd309e41589bad"), looks := true }, kinds := [], alts := [], laidByText := true, laidKinds := [.data, .data, .data, .data, .sentinel, .sentinel, .pinned], laidTests := true, laidLooks := .later }
def HttpdFeedsUptoCardSaid : Prop := Claim7.holds Tryz.pinned (.plain (OpenSpec.upto httpdFeedsSpec)) httpdFeedsUptoCard

/-- THE SECOND FORM's CARD OF 'blotterlaw08.HttpdTells'. -/
def httpdTellsUptoCard : Claim7 := { stood := { row := httpdTellsUptoRow, standIns := [], harness := (true, "bb707e6daa8d0e984c777335fc21e80e7ca311b42316e9c781fd309e41589bad"), looks := true }, kinds := [], alts := [], laidByText := true, laidKinds := [.data, .data, .data, .data, .sentinel, .sentinel, .pinned], laidTests := true, laidLooks := .later }
def HttpdTellsUptoCardSaid : Prop := Claim7.holds Tryz.pinned (.plain (OpenSpec.upto httpdTellsSpec)) httpdTellsUptoCard

/-- THE SECOND FORM's CARD OF 'blotterlaw08.HttpdWrites'. -/
def httpdWritesUptoCard : Claim7 := { stood := { row := httpdWritesUptoRow, standIns := [], harness := (true, "bb707e6daa8d0e984c777335fc21e80e7ca311b42316e9c781fd309e41589bad"), looks := true }, kinds := [], alts := [], laidByText := true, laidKinds := [.data, .data, .data, .data, .sentinel, .sentinel, .pinned], laidTests := true, laidLooks := .later }
def HttpdWritesUptoCardSaid : Prop := Claim7.holds Tryz.pinned (.plain (OpenSpec.upto httpdWritesSpec)) httpdWritesUptoCard

/-- THE SECOND FORM's CARD OF 'blotterlaw08.HttpdReads'. -/
def httpdReadsUptoCard : Claim7 := { stood := { row := httpdReadsUptoRow, standIns := [], harness := (true, "bb707e6daa8d0e984c777335fc21e80e7ca311b42316e9c781fd309e41589bad"), looks := true }, kinds := [], alts := [], laidByText := true, laidKinds := [.data, .data, .data, .data, .sentinel, .sentinel, .pinned], laidTests := true, laidLooks := .later }
def HttpdReadsUptoCardSaid : Prop := Claim7.holds Tryz.pinned (.plain (OpenSpec.upto httpdReadsSpec)) httpdReadsUptoCard

/-- THE SECOND FORM's CARD OF 'blotterlaw08.HttpdPieces'. -/
def httpdPiecesUptoCard : Claim7 := { stood := { row := httpdPiecesUptoRow, standIns := [], harness := (true, "bb707e6daa8d0e984c777335fc21e80e7ca311b42316e9c781fd309e41589bad"), looks := true }, kinds := [], alts := [], laidByText := true, laidKinds := [.data, .data, .data, .data, .sentinel, .sentinel, .pinned], laidTests := true, laidLooks := .later }
def HttpdPiecesUptoCardSaid : Prop := Claim7.holds Tryz.pinned (.plain (OpenSpec.upto httpdPiecesSpec)) httpdPiecesUptoCard
end Rows
end Go.Proofs.YthkadboeokgjnaaGreatDoor
