/-
  THE WALKS of the document's numbers: blotterref01.Form, Number, Text give the same forms.
-/
import Derived.Test.YtmpjeahibfdehaaGreatDoorPkMtesad
import Derived.Test.YtmpjeahibfdehaaGreatDoorPkMtesbn
section
set_option linter.unusedVariables false
namespace Go.Proofs.YtmpjeahibfdehaaGreatDoor
open Go.RowKit

theorem own_lit (w : World) (base : Nat) (z : Int) (c : UInt8) (hb : base ≤ w.heap.size) (hz : z = (c.toNat : Int)) : OwnB (w.alloc (.cells #[.int .u8 z] 5)) base (some ⟨w.heap.size, 0, none⟩) 1 [c] := by
 subst hz
 refine ⟨rfl, .inr ⟨w.heap.size, 1, #[.int .u8 (c.toNat : Int)], rfl, hb, heap_alloc_new w _, Nat.le_refl _, by unfold maxLen; omega, rfl, rfl⟩⟩

end Go.Proofs.YtmpjeahibfdehaaGreatDoor
end
