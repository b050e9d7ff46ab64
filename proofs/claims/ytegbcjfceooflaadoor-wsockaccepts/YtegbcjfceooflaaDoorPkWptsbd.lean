/-
  wsock: one key: what it spells, its digest.; wsock: isKey and Accept at one key.
-/
import Derived.Test.YtegbcjfceooflaaDoorPkWptsbc
import Derived.Test.YtegbcjfceooflaaDoorPkWptsan
import Derived.Test.YtegbcjfceooflaaDoorPkWptsao
import Derived.Test.YtegbcjfceooflaaDoorPkWptsai
section
set_option linter.unusedVariables false
set_option maxRecDepth 1000000
namespace Go.Proofs.YtegbcjfceooflaaDoor
open Go.RowKit

def k22 : List UInt8 := [100, 71, 104, 108, 73, 72, 78, 104, 98, 88, 66, 115, 90, 83, 66, 117, 98, 50, 53, 106, 90, 81]
def k24 : List UInt8 := [100, 71, 104, 108, 73, 72, 78, 104, 98, 88, 66, 115, 90, 83, 66, 117, 98, 50, 53, 106, 90, 81, 61, 61]
def kNo : List UInt8 := [116, 104, 101, 32, 115, 97, 109, 112, 108, 101, 32, 110, 111, 110, 99, 101]
def k60 : List UInt8 := k24 ++ [50, 53, 56, 69, 65, 70, 65, 53, 45, 69, 57, 49, 52, 45, 52, 55, 68, 65, 45, 57, 53, 67, 65, 45, 67, 53, 65, 66, 48, 68, 67, 56, 53, 66, 49, 49]
def k28 : List UInt8 := [115, 51, 112, 80, 76, 77, 66, 105, 84, 120, 97, 81, 57, 107, 89, 71, 122, 122, 104, 90, 82, 98, 75, 43, 120, 79, 111, 61]
theorem un_key : unR k22 0 0 = some kNo := by decide +kernel
theorem b64_key : b64 kNo = k24 := by decide +kernel
theorem sha1_key : b64 (sha1 k60) = k28 := by decide +kernel
#print axioms sha1_key
theorem no43 : Lib.countByte (str k22).data.toList 43 = 0 := by decide +kernel
theorem no47 : Lib.countByte (str k22).data.toList 47 = 0 := by decide +kernel

theorem unspell_key (w : World) : Calls Tryd.prog 34 #[.string (str k22)] w fun e w' => ∃ a cap, e = .returned (.tuple #[.slice a 16 cap, .bool true]) ∧ Hid (OwnB w' w.heap.size a cap kNo) ∧ Hid (Below w.heap.size w w') := by
  refine (unspell_any (str k22) w (by decide)).mono ?_
  have hun : unR (str k22).data.toList 0 0 = some kNo := un_key
  rintro e w3 ⟨hb3, ⟨hu, _⟩ | ⟨a3, c3, r3, hu, rfl, ho3⟩⟩
  · rw [hun] at hu; cases hu
  · obtain rfl := Option.some.inj (hun.symm.trans hu)
    exact ⟨a3, c3, rfl, ho3, hb3⟩
theorem b64_keyc (a : Option Addr) (cap : Nat) (w : World) (hB : Bs w a cap kNo) : Calls Tryd.prog 18 #[.slice a 16 cap] w fun e w' => e = .returned (.string (str k24)) ∧ Below w.heap.size w w' := by
  have h := base64_any a cap kNo w hB (by decide)
  rw [b64_key] at h
  exact h
#print axioms b64_keyc
end Go.Proofs.YtegbcjfceooflaaDoor
end
section
set_option linter.unusedVariables false
set_option maxRecDepth 1000000
namespace Go.Proofs.YtegbcjfceooflaaDoor
open Go.RowKit

set_option maxHeartbeats 1000000 in
theorem isKey_one (w : World) : Calls Tryd.prog 16 #[.string (str k24)] w fun e w' => e = .returned (.bool true) ∧ Hid (Below w.heap.size w w') := by
  have hsz : (str k24).size = 24 := rfl
  have hsl : ∀ w, (Instr.slice 9 (.string (str k24)) none (some (.int .i64 22)) none).run Tryd.prog w = .ok (.string (str k22)) w := fun w => by
    kernel_rfl
  have H43 := hide no43
  have H47 := hide no47
  have HUN := hide unspell_key
  have HBK := hide b64_keyc
  generalize hs24 : str k24 = s24 at *
  generalize hs22 : str k22 = s22 at *
  clear hs24 hs22
  go_enter Tryd.func16, Tryd.ntmps16
  go_wp2_with (first
    | (go_at_call 33; refine (replall_none s22 43 45 _ (by decide) (unhide H43)).mono ?_; rintro e w1 ⟨rfl, rfl⟩)
    | (go_at_call 33; refine (replall_none s22 47 95 _ (by decide) (unhide H47)).mono ?_; rintro e w1 ⟨rfl, rfl⟩)
    | (go_at_call 34; refine (unhide HUN _).mono ?_; rintro e w3 ⟨a3, c3, rfl, HO3, HB3⟩)
    | (go_at_call 18; refine (unhide HBK a3 c3 _ (unhide HO3).toBs).mono ?_; rintro e w4 ⟨rfl, hb4⟩; have HB4 := hide ((unhide HB3).trans (hb4.mono (unhide HB3).size)); clear hb4))
  go_ret
  exact ⟨rfl, HB4⟩
#print axioms isKey_one
end Go.Proofs.YtegbcjfceooflaaDoor
end
