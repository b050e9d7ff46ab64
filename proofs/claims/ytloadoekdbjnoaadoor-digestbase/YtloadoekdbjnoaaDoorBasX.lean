/-
  THE WALK of DigestBase.
-/
import Derived.Test.YtloadoekdbjnoaaDoorRfB
import Derived.Test.YtloadoekdbjnoaaDoorAwk
import Derived.Test.YtloadoekdbjnoaaDoorSamL
set_option linter.unusedVariables false
namespace Go.Proofs.YtloadoekdbjnoaaDoor
open Go.RowKit

set_option maxRecDepth 100000 in
set_option maxHeartbeats 2000000 in
theorem digestBase_walk (a0 : Option Addr) (cap0 : Nat) (l0 : List UInt8) (w : World) (w0 : Bs w a0 cap0 l0) (hT : Tb w) :
    Calls Tryd.prog 7 #[.slice a0 l0.length cap0] w fun e w' => e = .returned (.bool true) ∧ Below w.heap.size w w' := by
  have hm0 : l0.length ≤ maxLen := Nat.le_trans w0.le w0.most
  unfold maxLen at hm0
  have HT := hide hT
  have H0 := hide w0
  clear w0 hT
  by_cases hb0 : 20000 < l0.length
  · go_enter Tryd.func7, Tryd.ntmps7
    go_wp2_with (go_at_call 9; refine (awake_any _ HT.out).mono ?_; rintro e w9 ⟨rfl, hb9⟩)
    go_ret
    exact ⟨rfl, hb9⟩
  have hd0 : decide ((20000 : Int) < (l0.length : Int)) = false := decide_eq_false (by omega)
  go_enter Tryd.func7, Tryd.ntmps7
  go_wp2_with fail
  refine (sclone_big a0 l0.length cap0 l0 w H0.out rfl (by omega)).mono ?_
  rintro e w2 ⟨a2, cap2, r, rfl, hr, ho2, hb2⟩
  have er : l0 = r := hr.out.symm
  subst er
  have HB2 := hide hb2
  have HO2 := hide ho2.toBs
  clear hr hb2 ho2
  go_wp2_with fail
  refine (base64_any a2 cap2 l0 w2 HO2.out (by omega)).mono ?_
  rintro e w3 ⟨rfl, hb3⟩
  have HB3 := hide (HB2.out.trans (hb3.mono HB2.out.size))
  have HO3 := hide (HO2.out.below hb3 (Nat.le_refl _))
  clear hb3 HB2 HO2
  go_wp2_with fail
  refine (rb64_any a0 cap0 l0 w3 (H0.out.below HB3.out (Nat.le_refl _)) (by omega)).mono ?_
  rintro e w4 ⟨rfl, hb4⟩
  have HB4 := hide (HB3.out.trans (hb4.mono HB3.out.size))
  have HO4 := hide (HO3.out.below hb4 (Nat.le_refl _))
  clear hb4 HB3 HO3
  generalize str (b64 l0) = S
  go_wp2_with fail
  refine (eqs_big a2 cap2 l0 a0 cap0 l0 l0.length l0.length w4 HO4.out.row (H0.out.row.below HB4.out (Nat.le_refl _)) rfl rfl (by omega) (by omega)).mono ?_
  rintro e w5 ⟨rfl, hb5⟩
  have HB5 := hide (HB4.out.trans (hb5.mono HB4.out.size))
  clear hb5 HB4 HO4
  rw [show (l0 == l0) = true by simp]
  go_wp2_with fail
  refine (awake_any _ (HT.out.below HB5.out HT.out.big)).mono ?_
  rintro e w6 ⟨rfl, hb6⟩
  have HB6 := hide (HB5.out.trans (hb6.mono HB5.out.size))
  clear hb6
  go_wp2
  go_ret
  exact ⟨rfl, HB6.out⟩
#print axioms digestBase_walk
end Go.Proofs.YtloadoekdbjnoaaDoor
