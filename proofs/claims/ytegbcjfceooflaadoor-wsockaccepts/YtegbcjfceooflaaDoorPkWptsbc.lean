/-
  wsock: strings.ReplaceAll of a byte that does not stand there; isKey and Accept at one key.
-/
import Derived.Test.YtegbcjfceooflaaDoorPkWptsbb
import Derived.Lib.Bytealg
import Derived.Lib.CountLaws
section
set_option linter.unusedVariables false
set_option maxRecDepth 1000000
namespace Go.Proofs.YtegbcjfceooflaaDoor
open Go.RowKit

set_option maxHeartbeats 1000000 in
theorem count_one (s : ByteArray) (c : UInt8) (w : World) (h : Lib.countByte s.data.toList c = 0) :
    Calls Tryd.prog 72 #[.string s, .string ⟨#[c]⟩] w fun e w' => e = .returned (.int .i64 0) ∧ w' = w := by
  have hrun : (Extern.BytealgCount.count #[.string s, .int .u8 (c.toNat : Int)]).run Tryd.prog w = .ok (.int .i64 0) w := by
    rw [Lib.run_countString]
    congr 2
    simpa using h
  have hsz : (⟨#[c]⟩ : ByteArray).size = 1 := rfl
  go_enter Tryd.func72, Tryd.ntmps72
  go_wp2
  rw [run_callFunc_extern Tryd.func85 (by kernel_rfl) (by kernel_rfl) (by kernel_rfl) (e := Extern.BytealgCount.count) (by kernel_rfl), show (ByteArray.mk #[c])[0] = c from rfl, hrun]
  simp only [Result.andThen]
  rw [Oper.upon_value]
  go_wp2
  go_ret
  exact ⟨rfl, rfl⟩
set_option maxHeartbeats 1000000 in
theorem repl_none (s : ByteArray) (c d : UInt8) (w : World) (hcd : c ≠ d) (h : Lib.countByte s.data.toList c = 0) :
    Calls Tryd.prog 55 #[.string s, .string ⟨#[c]⟩, .string ⟨#[d]⟩, .int .i64 (-1)] w fun e w' => e = .returned (.string s) ∧ w' = w := by
  have hne : (c == d) = false := beq_eq_false_iff_ne.2 hcd
  go_enter Tryd.func55, Tryd.ntmps55
  go_wp2_with (go_at_call 72; refine (count_one s c _ h).mono ?_; rintro e w2 ⟨rfl, rfl⟩)
  go_ret
  exact ⟨rfl, rfl⟩
set_option maxHeartbeats 1000000 in
theorem replall_none (s : ByteArray) (c d : UInt8) (w : World) (hcd : c ≠ d) (h : Lib.countByte s.data.toList c = 0) :
    Calls Tryd.prog 33 #[.string s, .string ⟨#[c]⟩, .string ⟨#[d]⟩] w fun e w' => e = .returned (.string s) ∧ w' = w := by
  go_enter Tryd.func33, Tryd.ntmps33
  go_wp2_with (go_at_call 55; refine (repl_none s c d _ hcd h).mono ?_; rintro e w2 ⟨rfl, rfl⟩)
  go_ret
  exact ⟨rfl, rfl⟩
#print axioms replall_none
end Go.Proofs.YtegbcjfceooflaaDoor
end
