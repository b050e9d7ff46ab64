/-
  wsock: strings.ReplaceAll of a byte that does not stand there; isKey and Accept at one key.
-/
import Derived.Test.YtiiafkjdeoabaaaDoorWskM
import Derived.Lib.Bytealg
import Derived.Lib.CountLaws
set_option linter.unusedVariables false
set_option maxRecDepth 1000000
namespace Go.Proofs.YtiiafkjdeoabaaaDoor
open Go.RowKit

set_option maxHeartbeats 1000000 in
theorem count_one (s : ByteArray) (c : UInt8) (w : World) (h : Lib.countByte s.data.toList c = 0) :
    Calls Tryd.prog 40 #[.string s, .string ⟨#[c]⟩] w fun e w' => e = .returned (.int .i64 0) ∧ w' = w := by
  have hrun : (Extern.BytealgCount.count #[.string s, .int .u8 (c.toNat : Int)]).run Tryd.prog w = .ok (.int .i64 0) w := by
    rw [Lib.run_countString]
    congr 2
    simpa using h
  have hsz : (⟨#[c]⟩ : ByteArray).size = 1 := rfl
  go_enter Tryd.func40, Tryd.ntmps40
  go_wp2
  rw [run_callFunc_extern Tryd.func49 (by kernel_rfl) (by kernel_rfl) (by kernel_rfl) (e := Extern.BytealgCount.count) (by kernel_rfl), show (ByteArray.mk #[c])[0] = c from rfl, hrun]
  simp only [Result.andThen]
  rw [Oper.upon_value]
  go_wp2
  go_ret
  exact ⟨rfl, rfl⟩
set_option maxHeartbeats 1000000 in
theorem repl_none (s : ByteArray) (c d : UInt8) (w : World) (hcd : c ≠ d) (h : Lib.countByte s.data.toList c = 0) :
    Calls Tryd.prog 32 #[.string s, .string ⟨#[c]⟩, .string ⟨#[d]⟩, .int .i64 (-1)] w fun e w' => e = .returned (.string s) ∧ w' = w := by
  have hne : (c == d) = false := beq_eq_false_iff_ne.2 hcd
  go_enter Tryd.func32, Tryd.ntmps32
  go_wp2_with (go_at_call 40; refine (count_one s c _ h).mono ?_; rintro e w2 ⟨rfl, rfl⟩)
  go_ret
  exact ⟨rfl, rfl⟩
set_option maxHeartbeats 1000000 in
theorem replall_none (s : ByteArray) (c d : UInt8) (w : World) (hcd : c ≠ d) (h : Lib.countByte s.data.toList c = 0) :
    Calls Tryd.prog 22 #[.string s, .string ⟨#[c]⟩, .string ⟨#[d]⟩] w fun e w' => e = .returned (.string s) ∧ w' = w := by
  go_enter Tryd.func22, Tryd.ntmps22
  go_wp2_with (go_at_call 32; refine (repl_none s c d _ hcd h).mono ?_; rintro e w2 ⟨rfl, rfl⟩)
  go_ret
  exact ⟨rfl, rfl⟩
#print axioms replall_none
end Go.Proofs.YtiiafkjdeoabaaaDoor
