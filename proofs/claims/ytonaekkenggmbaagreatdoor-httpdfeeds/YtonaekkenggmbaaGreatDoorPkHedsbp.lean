/-
  HttpdParses' walk.
-/
import Derived.Test.YtonaekkenggmbaaGreatDoorPkHedsbe
import Derived.Test.YtonaekkenggmbaaGreatDoorPkHedsbl
section
set_option linter.unusedVariables false
set_option maxRecDepth 1000000
namespace Go.Proofs.YtonaekkenggmbaaGreatDoor
open Go.RowKit

theorem u8xff (a : UInt8) : bits .xor .u8 (a.toNat : Int) 255 = ((a ^^^ 255).toNat : Int) := by
  have := u8_xor_nat a.toNat 255 a.toNat_lt (by decide)
  rw [show ((255 : Nat) : Int) = 255 from rfl] at this
  rw [this, UInt8.toNat_xor]; rfl
theorem own_set8 {w : World} {base g cap : Nat} {l : List UInt8} (h : OwnB w base (some ⟨g, 0, none⟩) cap l) (j : Nat) (c : UInt8) : OwnB (w.setCell ⟨g, j, none⟩ (.int .u8 (c.toNat : Int))) base (some ⟨g, 0, none⟩) cap (l.set j c) := by
  have := World.ownsRow.stored h j (.int .u8 (c.toNat : Int))
  unfold OwnB
  rw [List.length_set]
  have e : bs (l.set j c) = (bs l).set j (.int .u8 (c.toNat : Int)) := by simp [bs, List.map_set]
  rw [e]
  exact this.1
/-- What a round keeps. -/
structure PaI (w1 wr : World) (bp : Option Addr) (bc nB R : Nat) (o : Array Value) : Prop where
  own : ∃ cc : List UInt8, cc.length = nB ∧ OwnB wr w1.heap.size bp bc cc
  bel : Below w1.heap.size w1 wr
  row : wr.heap[R]? = some (.cells o 39 (0, 0))
  off : ∀ k, blk bp = some k → k ≠ R
end Go.Proofs.YtonaekkenggmbaaGreatDoor
end
