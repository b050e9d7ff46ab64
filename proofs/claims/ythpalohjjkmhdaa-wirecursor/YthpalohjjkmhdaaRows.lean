/-
  No cell of these rows narrows 'for every input' (looked for: loops, veiled, ifaces, maps, wideKeys, modest, calm, conditions, laid).
  DERIVED. THE GIVEN ROWS OF THIS SEAT. 5 by the template 'for every input the law returns true; each argument reads behind the call as it read before'; 0 by the template 'total and deterministic' (their statements: YthpalohjjkmhdaaTotals.lean).
  GIVEN WITH THE SEED: the statements are not yours to turn. If you find one false, say at which input.
  Laid BY PROGRAM, IN A SANDBOX (cutbox-rows.mjs): the forced cells as the released guide's own fill.sh prints them over the translation ccd5ff48409ca96d… (all of the seat's roots in one cut). By AI agents, Wed Nov 11 2026. No macro, syntax, notation, axiom, sorry.
-/
import Derived.Test.YthpalohjjkmhdaaChecked
import GoSem.Claim
import GoSem.ClaimJoined
import GoSem.ClaimMapViews
import Derived.JoinedTies
import Derived.KernelRfl
namespace Go.Proofs.Ythpalohjjkmhdaa
/- THE CELL 'sum', in the pinned program and in every row, IS THE sha256 OF THE DUMP (.gsa) THAT YthpalohjjkmhdaaProg.lean LOADS. Nothing in Lean hashes anything: it is a label: what it is worth is what the hold of that sum in a sandbox is worth. -/
noncomputable def Try.pinned : Pinned := { name := "ythpalohjjkmhdaa", sum := "ccd5ff48409ca96df2a5022f91643d43cfb6b6b369ccb7ac71ea80cfc7768c4d", checked := Try.checked }
namespace Rows
def none {H : Type} : Left H := { results := [], args := [] }

/-- 'blotterlaw01.WireRuns': WHATEVER THE INPUT: true; the input reads as it did. -/
def wireRunsSpec : ChangeSpec := { name := "wireRuns", fn := fun _ => fun
  | [d] => { results := [.lit (.bool true)], args := [d] }
  | _ => none }
def wireRunsRow : OpenClaim := { program := "ythpalohjjkmhdaa", sum := "ccd5ff48409ca96df2a5022f91643d43cfb6b6b369ccb7ac71ea80cfc7768c4d", func := "blotter/blotterlaw01.WireRuns", spec := "wireRuns", unfollowed := true, recurses := true, apart := false }
def WireRunsSaid : Prop := wireRunsRow.holds Try.pinned (OpenSpec.ofChange wireRunsSpec)

/-- ITS FALSE NEIGHBOUR: 'it returns false'. Refute it at one input. -/
def wireRunsWrong : ChangeSpec := { name := "wireRuns", fn := fun _ => fun
  | [d] => { results := [.lit (.bool false)], args := [d] }
  | _ => none }
def WireRunsWrongFalsely : Prop := wireRunsRow.holds Try.pinned (OpenSpec.ofChange wireRunsWrong)

/-- 'blotterlaw01.WireCursor': WHATEVER THE INPUT: true; the input reads as it did. -/
def wireCursorSpec : ChangeSpec := { name := "wireCursor", fn := fun _ => fun
  | [d1, d2] => { results := [.lit (.bool true)], args := [d1, d2] }
  | _ => none }
def wireCursorRow : OpenClaim := { program := "ythpalohjjkmhdaa", sum := "ccd5ff48409ca96df2a5022f91643d43cfb6b6b369ccb7ac71ea80cfc7768c4d", func := "blotter/blotterlaw01.WireCursor", spec := "wireCursor", apart := false }
def WireCursorSaid : Prop := wireCursorRow.holds Try.pinned (OpenSpec.ofChange wireCursorSpec)

/-- ITS FALSE NEIGHBOUR: 'it returns false'. Refute it at one input. -/
def wireCursorWrong : ChangeSpec := { name := "wireCursor", fn := fun _ => fun
  | [d1, d2] => { results := [.lit (.bool false)], args := [d1, d2] }
  | _ => none }
def WireCursorWrongFalsely : Prop := wireCursorRow.holds Try.pinned (OpenSpec.ofChange wireCursorWrong)

/-- 'blotterlaw01.WireWhole': WHATEVER THE INPUT: true; the input reads as it did. -/
def wireWholeSpec : ChangeSpec := { name := "wireWhole", fn := fun _ => fun
  | [d1, d2] => { results := [.lit (.bool true)], args := [d1, d2] }
  | _ => none }
def wireWholeRow : OpenClaim := { program := "ythpalohjjkmhdaa", sum := "ccd5ff48409ca96df2a5022f91643d43cfb6b6b369ccb7ac71ea80cfc7768c4d", func := "blotter/blotterlaw01.WireWhole", spec := "wireWhole", unfollowed := true, recurses := true, apart := false }
def WireWholeSaid : Prop := wireWholeRow.holds Try.pinned (OpenSpec.ofChange wireWholeSpec)

/-- ITS FALSE NEIGHBOUR: 'it returns false'. Refute it at one input. -/
def wireWholeWrong : ChangeSpec := { name := "wireWhole", fn := fun _ => fun
  | [d1, d2] => { results := [.lit (.bool false)], args := [d1, d2] }
  | _ => none }
def WireWholeWrongFalsely : Prop := wireWholeRow.holds Try.pinned (OpenSpec.ofChange wireWholeWrong)

/-- 'blotterlaw01.WireLetters': WHATEVER THE INPUT: true; the input reads as it did. -/
def wireLettersSpec : ChangeSpec := { name := "wireLetters", fn := fun _ => fun
  | [d1, d2] => { results := [.lit (.bool true)], args := [d1, d2] }
  | _ => none }
def wireLettersRow : OpenClaim := { program := "ythpalohjjkmhdaa", sum := "ccd5ff48409ca96df2a5022f91643d43cfb6b6b369ccb7ac71ea80cfc7768c4d", func := "blotter/blotterlaw01.WireLetters", spec := "wireLetters", apart := false }
def WireLettersSaid : Prop := wireLettersRow.holds Try.pinned (OpenSpec.ofChange wireLettersSpec)

/-- ITS FALSE NEIGHBOUR: 'it returns false'. Refute it at one input. -/
def wireLettersWrong : ChangeSpec := { name := "wireLetters", fn := fun _ => fun
  | [d1, d2] => { results := [.lit (.bool false)], args := [d1, d2] }
  | _ => none }
def WireLettersWrongFalsely : Prop := wireLettersRow.holds Try.pinned (OpenSpec.ofChange wireLettersWrong)

/-- 'blotterlaw01.WireSpelt': WHATEVER THE INPUT: true; the input reads as it did. -/
def wireSpeltSpec : ChangeSpec := { name := "wireSpelt", fn := fun _ => fun
  | [d1, d2] => { results := [.lit (.bool true)], args := [d1, d2] }
  | _ => none }
def wireSpeltRow : OpenClaim := { program := "ythpalohjjkmhdaa", sum := "ccd5ff48409ca96df2a5022f91643d43cfb6b6b369ccb7ac71ea80cfc7768c4d", func := "blotter/blotterlaw01.WireSpelt", spec := "wireSpelt", apart := false }
def WireSpeltSaid : Prop := wireSpeltRow.holds Try.pinned (OpenSpec.ofChange wireSpeltSpec)

/-- ITS FALSE NEIGHBOUR: 'it returns false'. Refute it at one input. -/
def wireSpeltWrong : ChangeSpec := { name := "wireSpelt", fn := fun _ => fun
  | [d1, d2] => { results := [.lit (.bool false)], args := [d1, d2] }
  | _ => none }
def WireSpeltWrongFalsely : Prop := wireSpeltRow.holds Try.pinned (OpenSpec.ofChange wireSpeltWrong)

/- THE SECOND FORM. 'bulk': how many values and letters a reading holds, each counted each time it is reached (what is shared counts as often as it is met; a slice's spare places count too). A statement '..UptoSaid' is the law's where the arguments, and the package variables that the reading takes, are together of bulk at most 1048576: NARROWER than '..Said'. Prove '..Said' where nothing that the law and all that it calls make is longer than what came in: it says more and counts as full. Else prove '..UptoSaid'. A law counts once. -/
mutual
def uptoBulk {H : Type} : DataW H → Nat
  | .lit (.string bytes) => bytes.length + 1
  | .lit _ => 1
  | .nil => 1
  | .ptr d => uptoBulk d + 1
  | .slice elems spare => uptoBulkAll elems + uptoBulkAll spare + 1
  | .agg parts => uptoBulkAll parts + 1
  | .iface _ d => uptoBulk d + 1
  | .map entries => uptoBulkEntries entries + 1
  | .held _ => 1
def uptoBulkAll {H : Type} : List (DataW H) → Nat
  | [] => 0
  | d :: r => uptoBulk d + uptoBulkAll r
def uptoBulkEntries {H : Type} : List (Lit × DataW H) → Nat
  | [] => 0
  | x :: r => uptoBulkEntry x + uptoBulkEntries r
def uptoBulkEntry {H : Type} : Lit × DataW H → Nat
  | (.string bytes, d) => bytes.length + uptoBulk d + 1
  | (_, d) => uptoBulk d + 1
 end
def uptoSmall : (H : Type) → List (DataW H) → Bool := fun _ ds => decide (uptoBulkAll ds ≤ 1048576)
def OpenSpec.upto (s : _root_.Go.ChangeSpec) : _root_.Go.OpenSpec := { _root_.Go.OpenSpec.ofChange s with cond := some uptoSmall }

/-- 'blotterlaw01.WireRuns', WHERE WHAT IT READS IS OF BULK AT MOST 1048576: true; the input reads as it did. -/
def wireRunsUptoRow : OpenClaim := { program := "ythpalohjjkmhdaa", sum := "ccd5ff48409ca96df2a5022f91643d43cfb6b6b369ccb7ac71ea80cfc7768c4d", func := "blotter/blotterlaw01.WireRuns", spec := "wireRuns", unfollowed := true, recurses := true, apart := false, narrowed := true }
def WireRunsUptoSaid : Prop := wireRunsUptoRow.holds Try.pinned (OpenSpec.upto wireRunsSpec)

/-- 'blotterlaw01.WireCursor', WHERE WHAT IT READS IS OF BULK AT MOST 1048576: true; the input reads as it did. -/
def wireCursorUptoRow : OpenClaim := { program := "ythpalohjjkmhdaa", sum := "ccd5ff48409ca96df2a5022f91643d43cfb6b6b369ccb7ac71ea80cfc7768c4d", func := "blotter/blotterlaw01.WireCursor", spec := "wireCursor", apart := false, narrowed := true }
def WireCursorUptoSaid : Prop := wireCursorUptoRow.holds Try.pinned (OpenSpec.upto wireCursorSpec)

/-- 'blotterlaw01.WireWhole', WHERE WHAT IT READS IS OF BULK AT MOST 1048576: true; the input reads as it did. -/
def wireWholeUptoRow : OpenClaim := { program := "ythpalohjjkmhdaa", sum := "ccd5ff48409ca96df2a5022f91643d43cfb6b6b369ccb7ac71ea80cfc7768c4d", func := "blotter/blotterlaw01.WireWhole", spec := "wireWhole", unfollowed := true, recurses := true, apart := false, narrowed := true }
def WireWholeUptoSaid : Prop := wireWholeUptoRow.holds Try.pinned (OpenSpec.upto wireWholeSpec)

/-- 'blotterlaw01.WireLetters', WHERE WHAT IT READS IS OF BULK AT MOST 1048576: true; the input reads as it did. -/
def wireLettersUptoRow : OpenClaim := { program := "ythpalohjjkmhdaa", sum := "ccd5ff48409ca96df2a5022f91643d43cfb6b6b369ccb7ac71ea80cfc7768c4d", func := "blotter/blotterlaw01.WireLetters", spec := "wireLetters", apart := false, narrowed := true }
def WireLettersUptoSaid : Prop := wireLettersUptoRow.holds Try.pinned (OpenSpec.upto wireLettersSpec)

/-- 'blotterlaw01.WireSpelt', WHERE WHAT IT READS IS OF BULK AT MOST 1048576: true; the input reads as it did. -/
def wireSpeltUptoRow : OpenClaim := { program := "ythpalohjjkmhdaa", sum := "ccd5ff48409ca96df2a5022f91643d43cfb6b6b369ccb7ac71ea80cfc7768c4d", func := "blotter/blotterlaw01.WireSpelt", spec := "wireSpelt", apart := false, narrowed := true }
def WireSpeltUptoSaid : Prop := wireSpeltUptoRow.holds Try.pinned (OpenSpec.upto wireSpeltSpec)

end Rows
end Go.Proofs.Ythpalohjjkmhdaa
