/-
  THE WALK of digest's eachBlock with the function number 1 that it is handed.
-/
import Derived.Test.YtoapkajlgnlecaaDoorShaG
set_option linter.unusedVariables false
namespace Go.Proofs.YtoapkajlgnlecaaDoor
open Go.RowKit

/-- Behind copy and the bit. -/
theorem eb_mid {t : TypeId} {L S : Nat} {us' : List Value} {r : List UInt8} {w w2 w3 : World} (hC3 : Cel w3 L 65 (bs (r ++ (noughts 64).drop r.length))) (hg3 : w2.grownBy w3 (some L)) (hS : Cel w2 S t us') (hT : Tb w2) (hg : w.grownBy w2 (some S)) (hlt : S < L) (hge : w.heap.size ≤ L) (hl4 : 3 ≤ L) :
    Hid (Cel (w3.setCell ⟨L, r.length, none⟩ (.int .u8 128)) L 65 (bs (lst1 r))) ∧ Hid (Cel (w3.setCell ⟨L, r.length, none⟩ (.int .u8 128)) S t us') ∧ Hid (Tb (w3.setCell ⟨L, r.length, none⟩ (.int .u8 128))) ∧ Hid (w.grownBy (w3.setCell ⟨L, r.length, none⟩ (.int .u8 128)) (some S)) :=
  ⟨hC3.setB' r.length 128 128 rfl, (hS.grown hg3 (fun e => Nat.ne_of_gt hlt (Option.some.inj e))).other _ _ (Nat.ne_of_lt hlt), (hT.grown hg3 hl4).grown (cg_set _ ⟨L, r.length, none⟩ _) hl4, cg_new (cg_new hg hge hg3) hge (cg_set _ ⟨L, r.length, none⟩ _)⟩

end Go.Proofs.YtoapkajlgnlecaaDoor
