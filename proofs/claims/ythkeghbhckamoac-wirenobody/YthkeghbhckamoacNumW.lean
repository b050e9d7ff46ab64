/-
  THE WALKS of wire's numbers: bytesBehind, highestFirst.
-/
import Derived.Test.YthkeghbhckamoacLenW
set_option linter.unusedVariables false
namespace Go.Proofs.Ythkeghbhckamoac
open Go.RowKit

theorem behind_low (x : Int) (w : World) (_h0 : 0 ≤ x) (h1 : x ≤ 247) :
    Calls Try.prog 70 #[.int .u64 x] w fun e w' => e = .returned (.int .i64 0) ∧ w' = w := by
  go_enter Try.func70, Try.ntmps70
  go_wp2
  go_ret
  exact ⟨rfl, rfl⟩
set_option maxHeartbeats 400000 in
theorem behind_high (x : Int) (w : World) (h0 : 248 ≤ x) (h1 : x ≤ 18446744073709551615) :
    Calls Try.prog 70 #[.int .u64 x] w fun e w' => e = .returned (.int .i64 (nb x.toNat : Nat)) ∧ w' = w := by
  go_enter Try.func70, Try.ntmps70
  go_wp2_with fail
  refine (len64_any x w (by omega) h1).mono ?_
  rintro e w' ⟨r, rfl, ⟨hr1, hr2, hr3⟩, rfl⟩
  have HR : Hid ((r + 7) / 8 = (nb x.toNat : Nat)) := hr3
  clear hr3
  go_wp2
  go_ret
  exact ⟨ret_int (by have := HR.out; omega), rfl⟩

end Go.Proofs.Ythkeghbhckamoac
