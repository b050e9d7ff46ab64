/-
  wsock: isKey and Accept at one key.
-/
import Derived.Test.YtiiafkjdeoabaaaDoorWskJ
set_option linter.unusedVariables false
set_option maxRecDepth 1000000
namespace Go.Proofs.YtiiafkjdeoabaaaDoor
open Go.RowKit

set_option maxHeartbeats 1000000 in
theorem isKey_one (w : World) : Calls Tryd.prog 16 #[.string (str k24)] w fun e w' => e = .returned (.bool true) ∧ Hid (Below w.heap.size w w') := by
  have hsz : (str k24).size = 24 := rfl
  have hsl : ∀ w, (Instr.slice 9 (.string (str k24)) none (some (.int .i64 22)) none).run Tryd.prog w = .ok (.string (str k22)) w := fun w => by
    kernel_rfl
  have H43 := hide no43
  have H47 := hide no47
  have HUN := hide unspell_key
  have HBK := hide b64_keyc
  generalize hs24 : str k24 = s24 at *
  generalize hs22 : str k22 = s22 at *
  clear hs24 hs22
  go_enter Tryd.func16, Tryd.ntmps16
  go_wp2_with (first
    | (go_at_call 22; refine (replall_none s22 43 45 _ (by decide) (unhide H43)).mono ?_; rintro e w1 ⟨rfl, rfl⟩)
    | (go_at_call 22; refine (replall_none s22 47 95 _ (by decide) (unhide H47)).mono ?_; rintro e w1 ⟨rfl, rfl⟩)
    | (go_at_call 23; refine (unhide HUN _).mono ?_; rintro e w3 ⟨a3, c3, rfl, HO3, HB3⟩)
    | (go_at_call 18; refine (unhide HBK a3 c3 _ (unhide HO3).toBs).mono ?_; rintro e w4 ⟨rfl, hb4⟩; have HB4 := hide ((unhide HB3).trans (hb4.mono (unhide HB3).size)); clear hb4))
  go_ret
  exact ⟨rfl, HB4⟩
#print axioms isKey_one
end Go.Proofs.YtiiafkjdeoabaaaDoor
