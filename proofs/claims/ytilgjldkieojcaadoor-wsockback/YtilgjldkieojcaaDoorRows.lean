/-
  NARROWER THAN 'FOR EVERY INPUT', by the rows' own cells (each row's printed sentence says how): WsockBack: laid · WsockMasks: laid.
  DERIVED. THE GIVEN ROWS OF THIS SEAT. 2 by the template 'for every input the law returns true; each argument reads behind the call as it read before'; 0 by the template 'total and deterministic' (their statements: YtilgjldkieojcaaDoorTotals.lean).
  GIVEN WITH THE SEED: the statements are not yours to turn. If you find one false, say at which input.
  Laid BY PROGRAM, IN A SANDBOX (cutbox-rows.mjs): the forced cells as the released guide's own fill.sh prints them over the translation 95a1ac663bf0f808… (all of the seat's roots in one cut). By AI agents, Wed Nov 11 2026. No macro, syntax, notation, axiom, sorry.
-/
import Derived.Test.YtilgjldkieojcaaDoorChecked
import GoSem.PinnedTables
import GoSem.Claim
import GoSem.ClaimJoined
import GoSem.ClaimMapViews
import Derived.JoinedTies
import Derived.KernelRfl
namespace Go.Proofs.YtilgjldkieojcaaDoor
/- THE CELL 'sum', in the pinned program and in every row, IS THE sha256 OF THE DUMP (.gsa) THAT YtilgjldkieojcaaDoorProg.lean LOADS. Nothing in Lean hashes anything: it is a label: what it is worth is what the hold of that sum in a sandbox is worth. -/
noncomputable def Tryd.pinned : Pinned := { name := "ytilgjldkieojcaadoor", sum := "95a1ac663bf0f80892b99528b9200e751be4cd44d1330ad69d7dda7f1adec9ac", checked := Tryd.checked }
namespace Rows
def none {H : Type} : Left H := { results := [], args := [] }

/- WHAT THE LISTED PACKAGE-LEVEL VARIABLES READ AS WHEN THE CALL BEGINS. Each datum BY PROGRAM (the guide's laid-datum.mjs) off the statement by which the dump's own 'gosem.cut.vars' lays the variable. In a bare row this is a premise. The card (YtilgjldkieojcaaDoorCards.lean) ties it to the program's text. -/
def laid_unicode_utf8_acceptRanges {H : Type} : DataW H := .agg [.agg [.lit (.int .u8 128), .lit (.int .u8 191)], .agg [.lit (.int .u8 160), .lit (.int .u8 191)], .agg [.lit (.int .u8 128), .lit (.int .u8 159)], .agg [.lit (.int .u8 144), .lit (.int .u8 191)], .agg [.lit (.int .u8 128), .lit (.int .u8 143)], .agg [.lit (.int .u8 0), .lit (.int .u8 0)], .agg [.lit (.int .u8 0), .lit (.int .u8 0)], .agg [.lit (.int .u8 0), .lit (.int .u8 0)], .agg [.lit (.int .u8 0), .lit (.int .u8 0)], .agg [.lit (.int .u8 0), .lit (.int .u8 0)], .agg [.lit (.int .u8 0), .lit (.int .u8 0)], .agg [.lit (.int .u8 0), .lit (.int .u8 0)], .agg [.lit (.int .u8 0), .lit (.int .u8 0)], .agg [.lit (.int .u8 0), .lit (.int .u8 0)], .agg [.lit (.int .u8 0), .lit (.int .u8 0)], .agg [.lit (.int .u8 0), .lit (.int .u8 0)]]
def laid_blotter_digest_shortStart {H : Type} : DataW H := .agg [.lit (.int .u32 1732584193), .lit (.int .u32 4023233417), .lit (.int .u32 2562383102), .lit (.int .u32 271733878), .lit (.int .u32 3285377520)]
def laid_blotter_digest_shortRounds {H : Type} : DataW H := .agg [.lit (.int .u32 1518500249), .lit (.int .u32 1859775393), .lit (.int .u32 2400959708), .lit (.int .u32 3395469782)]
/-- One of Go's own tables, pinned by name: the form's constant. -/
def laid_unicode_utf8_first : DataW Unit := Go.Pinned.utf8First

/-- 'blotterlaw09.WsockBack': WHATEVER THE INPUT: true; the input reads as it did. -/
def wsockBackSpec : ChangeSpec := { name := "wsockBack", fn := fun _ => fun
  | [d1, d2, d3, d4] => { results := [.lit (.bool true)], args := [d1, d2, d3, d4] }
  | _ => none }
def wsockBackRow : OpenClaim := { program := "ytilgjldkieojcaadoor", sum := "95a1ac663bf0f80892b99528b9200e751be4cd44d1330ad69d7dda7f1adec9ac", func := "blotter/blotterlaw09.WsockBack", spec := "wsockBack", inPlace := ["internal/bytealg.CountString", "internal/bytealg.IndexByteString", "internal/bytealg.IndexString", "internal/abi.NoEscape", "internal/bytealg.MakeNoZero"], unfollowed := true, recurses := true, named := ["internal/bytealg.MaxLen", "unicode/utf8.first", "unicode/utf8.acceptRanges", "blotter/digest.shortStart", "blotter/digest.shortRounds"], apart := false, laid := [("unicode/utf8.acceptRanges", laid_unicode_utf8_acceptRanges), ("blotter/digest.shortStart", laid_blotter_digest_shortStart), ("blotter/digest.shortRounds", laid_blotter_digest_shortRounds), ("unicode/utf8.first", laid_unicode_utf8_first)] }
def WsockBackSaid : Prop := wsockBackRow.holds Tryd.pinned (OpenSpec.ofChange wsockBackSpec)

/-- ITS FALSE NEIGHBOUR: 'it returns false'. Refute it at one input. -/
def wsockBackWrong : ChangeSpec := { name := "wsockBack", fn := fun _ => fun
  | [d1, d2, d3, d4] => { results := [.lit (.bool false)], args := [d1, d2, d3, d4] }
  | _ => none }
def WsockBackWrongFalsely : Prop := wsockBackRow.holds Tryd.pinned (OpenSpec.ofChange wsockBackWrong)

/-- 'blotterlaw09.WsockMasks': WHATEVER THE INPUT: true; the input reads as it did. -/
def wsockMasksSpec : ChangeSpec := { name := "wsockMasks", fn := fun _ => fun
  | [d1, d2, d3] => { results := [.lit (.bool true)], args := [d1, d2, d3] }
  | _ => none }
def wsockMasksRow : OpenClaim := { program := "ytilgjldkieojcaadoor", sum := "95a1ac663bf0f80892b99528b9200e751be4cd44d1330ad69d7dda7f1adec9ac", func := "blotter/blotterlaw09.WsockMasks", spec := "wsockMasks", inPlace := ["internal/bytealg.CountString", "internal/bytealg.IndexByteString", "internal/bytealg.IndexString", "internal/abi.NoEscape", "internal/bytealg.MakeNoZero"], unfollowed := true, recurses := true, named := ["internal/bytealg.MaxLen", "unicode/utf8.first", "unicode/utf8.acceptRanges", "blotter/digest.shortStart", "blotter/digest.shortRounds"], apart := false, laid := [("unicode/utf8.acceptRanges", laid_unicode_utf8_acceptRanges), ("blotter/digest.shortStart", laid_blotter_digest_shortStart), ("blotter/digest.shortRounds", laid_blotter_digest_shortRounds), ("unicode/utf8.first", laid_unicode_utf8_first)] }
def WsockMasksSaid : Prop := wsockMasksRow.holds Tryd.pinned (OpenSpec.ofChange wsockMasksSpec)

/-- ITS FALSE NEIGHBOUR: 'it returns false'. Refute it at one input. -/
def wsockMasksWrong : ChangeSpec := { name := "wsockMasks", fn := fun _ => fun
  | [d1, d2, d3] => { results := [.lit (.bool false)], args := [d1, d2, d3] }
  | _ => none }
def WsockMasksWrongFalsely : Prop := wsockMasksRow.holds Tryd.pinned (OpenSpec.ofChange wsockMasksWrong)

/- THE SECOND FORM. 'bulk': how many values and letters a reading holds, each counted each time it is reached (what is shared counts as often as it is met; a slice's spare places count too). A statement '..UptoSaid' is the law's where the arguments, and the package variables that the reading takes, are together of bulk at most 1048576: NARROWER than '..Said'. Prove '..Said' where nothing that the law and all that it calls make is longer than what came in: it says more and counts as full. Else prove '..UptoSaid'. A law counts once. -/
mutual
def uptoBulk {H : Type} : DataW H → Nat
  | .lit (.string bytes) => bytes.length + 1
  | .lit _ => 1
  | .nil => 1
  | .ptr d => uptoBulk d + 1
  | .slice elems spare => uptoBulkAll elems + uptoBulkAll spare + 1
  | .agg parts => uptoBulkAll parts + 1
  | .iface _ d => uptoBulk d + 1
  | .map entries => uptoBulkEntries entries + 1
  | .held _ => 1
def uptoBulkAll {H : Type} : List (DataW H) → Nat
  | [] => 0
  | d :: r => uptoBulk d + uptoBulkAll r
def uptoBulkEntries {H : Type} : List (Lit × DataW H) → Nat
  | [] => 0
  | x :: r => uptoBulkEntry x + uptoBulkEntries r
def uptoBulkEntry {H : Type} : Lit × DataW H → Nat
  | (.string bytes, d) => bytes.length + uptoBulk d + 1
  | (_, d) => uptoBulk d + 1
 end
def uptoSmall : (H : Type) → List (DataW H) → Bool := fun _ ds => decide (uptoBulkAll ds ≤ 1048576)
def OpenSpec.upto (s : _root_.Go.ChangeSpec) : _root_.Go.OpenSpec := { _root_.Go.OpenSpec.ofChange s with cond := some uptoSmall }

/-- 'blotterlaw09.WsockBack', WHERE WHAT IT READS IS OF BULK AT MOST 1048576: true; the input reads as it did. -/
def wsockBackUptoRow : OpenClaim := { program := "ytilgjldkieojcaadoor", sum := "95a1ac663bf0f80892b99528b9200e751be4cd44d1330ad69d7dda7f1adec9ac", func := "blotter/blotterlaw09.WsockBack", spec := "wsockBack", inPlace := ["internal/bytealg.CountString", "internal/bytealg.IndexByteString", "internal/bytealg.IndexString", "internal/abi.NoEscape", "internal/bytealg.MakeNoZero"], unfollowed := true, recurses := true, named := ["internal/bytealg.MaxLen", "unicode/utf8.first", "unicode/utf8.acceptRanges", "blotter/digest.shortStart", "blotter/digest.shortRounds"], apart := false, laid := [("unicode/utf8.acceptRanges", laid_unicode_utf8_acceptRanges), ("blotter/digest.shortStart", laid_blotter_digest_shortStart), ("blotter/digest.shortRounds", laid_blotter_digest_shortRounds), ("unicode/utf8.first", laid_unicode_utf8_first)], narrowed := true }
def WsockBackUptoSaid : Prop := wsockBackUptoRow.holds Tryd.pinned (OpenSpec.upto wsockBackSpec)

/-- 'blotterlaw09.WsockMasks', WHERE WHAT IT READS IS OF BULK AT MOST 1048576: true; the input reads as it did. -/
def wsockMasksUptoRow : OpenClaim := { program := "ytilgjldkieojcaadoor", sum := "95a1ac663bf0f80892b99528b9200e751be4cd44d1330ad69d7dda7f1adec9ac", func := "blotter/blotterlaw09.WsockMasks", spec := "wsockMasks", inPlace := ["internal/bytealg.CountString", "internal/bytealg.IndexByteString", "internal/bytealg.IndexString", "internal/abi.NoEscape", "internal/bytealg.MakeNoZero"], unfollowed := true, recurses := true, named := ["internal/bytealg.MaxLen", "unicode/utf8.first", "unicode/utf8.acceptRanges", "blotter/digest.shortStart", "blotter/digest.shortRounds"], apart := false, laid := [("unicode/utf8.acceptRanges", laid_unicode_utf8_acceptRanges), ("blotter/digest.shortStart", laid_blotter_digest_shortStart), ("blotter/digest.shortRounds", laid_blotter_digest_shortRounds), ("unicode/utf8.first", laid_unicode_utf8_first)], narrowed := true }
def WsockMasksUptoSaid : Prop := wsockMasksUptoRow.holds Tryd.pinned (OpenSpec.upto wsockMasksSpec)

end Rows
end Go.Proofs.YtilgjldkieojcaaDoor
