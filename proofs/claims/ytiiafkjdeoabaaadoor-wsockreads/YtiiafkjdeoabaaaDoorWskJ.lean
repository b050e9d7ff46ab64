/-
  wsock: one key: what it spells, its digest.
-/
import Derived.Test.YtiiafkjdeoabaaaDoorWskR
import Derived.Test.YtiiafkjdeoabaaaDoorSplX
import Derived.Test.YtiiafkjdeoabaaaDoorB64D
import Derived.Test.YtiiafkjdeoabaaaDoorShaK
set_option linter.unusedVariables false
set_option maxRecDepth 1000000
namespace Go.Proofs.YtiiafkjdeoabaaaDoor
open Go.RowKit

def k22 : List UInt8 := [100, 71, 104, 108, 73, 72, 78, 104, 98, 88, 66, 115, 90, 83, 66, 117, 98, 50, 53, 106, 90, 81]
def k24 : List UInt8 := [100, 71, 104, 108, 73, 72, 78, 104, 98, 88, 66, 115, 90, 83, 66, 117, 98, 50, 53, 106, 90, 81, 61, 61]
def kNo : List UInt8 := [116, 104, 101, 32, 115, 97, 109, 112, 108, 101, 32, 110, 111, 110, 99, 101]
def k60 : List UInt8 := k24 ++ [50, 53, 56, 69, 65, 70, 65, 53, 45, 69, 57, 49, 52, 45, 52, 55, 68, 65, 45, 57, 53, 67, 65, 45, 67, 53, 65, 66, 48, 68, 67, 56, 53, 66, 49, 49]
def k28 : List UInt8 := [115, 51, 112, 80, 76, 77, 66, 105, 84, 120, 97, 81, 57, 107, 89, 71, 122, 122, 104, 90, 82, 98, 75, 43, 120, 79, 111, 61]
theorem un_key : unR k22 0 0 = some kNo := by decide +kernel
theorem b64_key : b64 kNo = k24 := by decide +kernel
theorem sha1_key : b64 (sha1 k60) = k28 := by decide +kernel
#print axioms sha1_key
theorem no43 : Lib.countByte (str k22).data.toList 43 = 0 := by decide +kernel
theorem no47 : Lib.countByte (str k22).data.toList 47 = 0 := by decide +kernel

theorem unspell_key (w : World) : Calls Tryd.prog 23 #[.string (str k22)] w fun e w' => ∃ a cap, e = .returned (.tuple #[.slice a 16 cap, .bool true]) ∧ Hid (OwnB w' w.heap.size a cap kNo) ∧ Hid (Below w.heap.size w w') := by
  refine (unspell_any (str k22) w (by decide)).mono ?_
  have hun : unR (str k22).data.toList 0 0 = some kNo := un_key
  rintro e w3 ⟨hb3, ⟨hu, _⟩ | ⟨a3, c3, r3, hu, rfl, ho3⟩⟩
  · rw [hun] at hu; cases hu
  · obtain rfl := Option.some.inj (hun.symm.trans hu)
    exact ⟨a3, c3, rfl, ho3, hb3⟩
theorem b64_keyc (a : Option Addr) (cap : Nat) (w : World) (hB : Bs w a cap kNo) : Calls Tryd.prog 18 #[.slice a 16 cap] w fun e w' => e = .returned (.string (str k24)) ∧ Below w.heap.size w w' := by
  have h := base64_any a cap kNo w hB (by decide)
  rw [b64_key] at h
  exact h
#print axioms b64_keyc
end Go.Proofs.YtiiafkjdeoabaaaDoor
