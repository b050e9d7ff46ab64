/-
  THE WALK of DigestInner.
-/
import Derived.Test.YtloadoekdbjnoaaDoorInnL
set_option linter.unusedVariables false
namespace Go.Proofs.YtloadoekdbjnoaaDoor
open Go.RowKit

set_option maxRecDepth 100000 in
set_option maxHeartbeats 2000000 in
theorem digestInner_walk (a0 : Option Addr) (cap0 : Nat) (l0 : List UInt8) (a1 : Option Addr) (cap1 : Nat) (l1 : List UInt8) (w : World) (w0 : Bs w a0 cap0 l0) (w1 : Bs w a1 cap1 l1) (hT : Tb w) :
    Calls Tryd.prog 6 #[.slice a0 l0.length cap0, .slice a1 l1.length cap1] w fun e w' => e = .returned (.bool true) ∧ Below w.heap.size w w' := by
  have hm0 : l0.length ≤ maxLen := Nat.le_trans w0.le w0.most
  have hm1 : l1.length ≤ maxLen := Nat.le_trans w1.le w1.most
  unfold maxLen at hm0 hm1
  by_cases hb1 : 20000 < l1.length
  · have HT := hide hT
    clear w0 w1 hT
    go_enter Tryd.func6, Tryd.ntmps6
    go_wp2_with (go_at_call 9; refine (awake_any _ HT.out).mono ?_; rintro e w9 ⟨rfl, hb9⟩)
    go_ret
    exact ⟨rfl, hb9⟩
  by_cases hb0 : 64 < l0.length
  · have HT := hide hT
    have hd1 : decide ((20000 : Int) < (l1.length : Int)) = false := decide_eq_false (by omega)
    clear w0 w1 hT
    go_enter Tryd.func6, Tryd.ntmps6
    go_wp2_with (go_at_call 9; refine (awake_any _ HT.out).mono ?_; rintro e w9 ⟨rfl, hb9⟩)
    go_ret
    exact ⟨rfl, hb9⟩
  exact digestInner_loop a0 cap0 l0 a1 cap1 l1 w w0 w1 (by omega) (by omega) hT
#print axioms digestInner_walk
end Go.Proofs.YtloadoekdbjnoaaDoor
