/-
  jsonx: the document's own chars.
-/
import Derived.Test.YtbnbngmnoffmkaaGreatDoorPkJsesav
import Derived.Test.YtbnbngmnoffmkaaGreatDoorPkJsesbg
import Derived.Test.YtbnbngmnoffmkaaGreatDoorPkJsesae
section
set_option linter.unusedVariables false
set_option maxRecDepth 1000000
namespace Go.Proofs.YtbnbngmnoffmkaaGreatDoor
open Go.RowKit

theorem says4 : FirstSays := fun b off cap l w hr hne hle hl hcm => first_any b off cap l w hr hne hle hl hcm
set_option maxHeartbeats 2000000 in
theorem rcha_any (l : List UInt8) (w : World) (hl : l.length ≤ 300000) :
  Calls Tryz.prog 89 #[.string (str l)] w fun e w' => e = .returned (.bool (decide (chr l = none))) ∧ Hid (Below w.heap.size w w') := by
 obtain ⟨V, c, hV, hbV, hBs⟩ := to_b4 l w hl
 have HC := hide (rchars_any says4 (some ⟨w.heap.size, 0, none⟩) l.length c l V hBs rfl (by omega))
 have HB := hide hbV
 have HD : Hid (decide (chI l < 0) = decide (chr l = none)) := decide_eq_decide.2 (ch_neg l)
 obtain ⟨X, hX⟩ : ∃ X, X = chI l := ⟨_, rfl⟩
 rw [← hX] at HC HD
 clear hbV hBs hX
 go_enter Tryz.func89, Tryz.ntmps89
 go_wp2_with fail
 refine (unhide HC).mono ?_
 rintro e w1 ⟨rfl, h1⟩
 have H1 : Hid (Below w.heap.size w w1) := (unhide HB).trans (h1.mono (unhide HB).size)
 clear h1 HC HB
 go_wp2_with fail
 go_ret
 refine ⟨?_, H1⟩
 rw [← unhide HD]
 rfl
#print axioms rcha_any
end Go.Proofs.YtbnbngmnoffmkaaGreatDoor
end
