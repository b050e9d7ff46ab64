/-
  wsock: strings.ReplaceAll of a byte that does not stand there; isKey and Accept at one key.
-/
import Derived.Test.YtpomejeopmfcmaaDoorPkWtesat
import Derived.Lib.Bytealg
import Derived.Lib.CountLaws
section
set_option linter.unusedVariables false
set_option maxRecDepth 1000000
namespace Go.Proofs.YtpomejeopmfcmaaDoor
open Go.RowKit

set_option maxHeartbeats 1000000 in
theorem count_one (s : ByteArray) (c : UInt8) (w : World) (h : Lib.countByte s.data.toList c = 0) :
    Calls Tryd.prog 51 #[.string s, .string ⟨#[c]⟩] w fun e w' => e = .returned (.int .i64 0) ∧ w' = w := by
  have hrun : (Extern.BytealgCount.count #[.string s, .int .u8 (c.toNat : Int)]).run Tryd.prog w = .ok (.int .i64 0) w := by
    rw [Lib.run_countString]
    congr 2
    simpa using h
  have hsz : (⟨#[c]⟩ : ByteArray).size = 1 := rfl
  go_enter Tryd.func51, Tryd.ntmps51
  go_wp2
  rw [run_callFunc_extern Tryd.func60 (by kernel_rfl) (by kernel_rfl) (by kernel_rfl) (e := Extern.BytealgCount.count) (by kernel_rfl), show (ByteArray.mk #[c])[0] = c from rfl, hrun]
  simp only [Result.andThen]
  rw [Oper.upon_value]
  go_wp2
  go_ret
  exact ⟨rfl, rfl⟩
set_option maxHeartbeats 1000000 in
theorem repl_none (s : ByteArray) (c d : UInt8) (w : World) (hcd : c ≠ d) (h : Lib.countByte s.data.toList c = 0) :
    Calls Tryd.prog 42 #[.string s, .string ⟨#[c]⟩, .string ⟨#[d]⟩, .int .i64 (-1)] w fun e w' => e = .returned (.string s) ∧ w' = w := by
  have hne : (c == d) = false := beq_eq_false_iff_ne.2 hcd
  go_enter Tryd.func42, Tryd.ntmps42
  go_wp2_with (go_at_call 51; refine (count_one s c _ h).mono ?_; rintro e w2 ⟨rfl, rfl⟩)
  go_ret
  exact ⟨rfl, rfl⟩
set_option maxHeartbeats 1000000 in
theorem replall_none (s : ByteArray) (c d : UInt8) (w : World) (hcd : c ≠ d) (h : Lib.countByte s.data.toList c = 0) :
    Calls Tryd.prog 29 #[.string s, .string ⟨#[c]⟩, .string ⟨#[d]⟩] w fun e w' => e = .returned (.string s) ∧ w' = w := by
  go_enter Tryd.func29, Tryd.ntmps29
  go_wp2_with (go_at_call 42; refine (repl_none s c d _ hcd h).mono ?_; rintro e w2 ⟨rfl, rfl⟩)
  go_ret
  exact ⟨rfl, rfl⟩
#print axioms replall_none
end Go.Proofs.YtpomejeopmfcmaaDoor
end
