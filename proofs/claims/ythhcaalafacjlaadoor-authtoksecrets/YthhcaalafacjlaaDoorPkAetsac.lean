/-
  THE WALKS of bits.RotateLeft32, digest.turned, choose, majority, mix, word.
-/
import Derived.Test.YthhcaalafacjlaaDoorPkAetsaa
import Derived.Test.YthhcaalafacjlaaDoorPkAetsab
section
set_option linter.unusedVariables false
namespace Go.Proofs.YthhcaalafacjlaaDoor
open Go.RowKit

theorem u_lt (x : UInt32) : x.toNat < 4294967296 := x.toNat_lt
theorem u_xor (x y : UInt32) : bits .xor .u32 (x.toNat : Int) (y.toNat : Int) = ((x ^^^ y).toNat : Int) := by
  rw [u32_xor_nat _ _ (u_lt x) (u_lt y), UInt32.toNat_xor]
theorem u_and (x y : UInt32) : bits .and .u32 (x.toNat : Int) (y.toNat : Int) = ((x &&& y).toNat : Int) := by
  rw [u32_and_nat _ _ (u_lt x) (u_lt y), UInt32.toNat_and]
theorem u_or (x y : UInt32) : bits .or .u32 (x.toNat : Int) (y.toNat : Int) = ((x ||| y).toNat : Int) := by
  rw [u32_or_nat _ _ (u_lt x) (u_lt y), UInt32.toNat_or]
theorem u_add (x y : UInt32) : IntKind.u32.wrap ((x.toNat : Int) + (y.toNat : Int)) = ((x + y).toNat : Int) := by
  rw [IntKind.wrap_u32', UInt32.toNat_add]; omega

theorem u_not (x : UInt32) : bits .xor .u32 IntKind.u32.max (x.toNat : Int) = ((~~~x).toNat : Int) := by
  have e : IntKind.u32.max = ((4294967295 : UInt32).toNat : Int) := rfl
  rw [e, u_xor]
  congr 2
theorem u_shl (x : UInt32) (s : Nat) (h : s ≤ 31) : (x.toNat : Int) * 2 ^ s % 4294967296 = ((x <<< UInt32.ofNat s).toNat : Int) := by
  rw [UInt32.toNat_shiftLeft]
  have e : (UInt32.ofNat s).toNat % 32 = s := by simp; omega
  rw [e, Nat.shiftLeft_eq]
  simp
theorem u_shr (x : UInt32) (s : Nat) (h : s ≤ 31) : (x.toNat : Int) / 2 ^ s = ((x >>> UInt32.ofNat s).toNat : Int) := by
  rw [UInt32.toNat_shiftRight]
  have e : (UInt32.ofNat s).toNat % 32 = s := by simp; omega
  rw [e, Nat.shiftRight_eq_div_pow]
  simp

set_option maxHeartbeats 400000 in
theorem choose_any (x y z : UInt32) (w : World) :
    Calls Tryd.prog 76 #[.int .u32 (x.toNat : Int), .int .u32 (y.toNat : Int), .int .u32 (z.toNat : Int)] w fun e w' => e = .returned (.int .u32 ((chs x y z).toNat : Int)) ∧ w' = w := by
  go_enter Tryd.func76, Tryd.ntmps76
  go_wp2
  go_ret
  exact ⟨ret_int (by rw [u_not, u_and, u_and, u_xor]; rfl), rfl⟩
set_option maxHeartbeats 400000 in
theorem maj_any (x y z : UInt32) (w : World) :
    Calls Tryd.prog 77 #[.int .u32 (x.toNat : Int), .int .u32 (y.toNat : Int), .int .u32 (z.toNat : Int)] w fun e w' => e = .returned (.int .u32 ((maj x y z).toNat : Int)) ∧ w' = w := by
  go_enter Tryd.func77, Tryd.ntmps77
  go_wp2
  go_ret
  exact ⟨ret_int (by rw [u_and, u_and, u_and, u_xor, u_xor]; rfl), rfl⟩
set_option maxHeartbeats 400000 in
theorem rot_any (x : UInt32) (k : Int) (s : Nat) (w : World) (hs : 1 ≤ s) (hs2 : s ≤ 31) (hb : bits .and .u64 (IntKind.u64.wrap k) 31 = (s : Int)) :
    Calls Tryd.prog 86 #[.int .u32 (x.toNat : Int), .int .i64 k] w fun e w' => e = .returned (.int .u32 ((rotl x s).toNat : Int)) ∧ w' = w := by
  go_enter Tryd.func86, Tryd.ntmps86
  go_wp2
  go_ret
  exact ⟨ret_int (by rw [u_shl x s hs2, u_shr x (32 - s) (by omega), u_or]; rfl), rfl⟩

theorem neg_and : ∀ n : Fin 31, bits .and .u64 (IntKind.u64.wrap (-((n.val + 1 : Nat) : Int))) 31 = ((32 - (n.val + 1) : Nat) : Int) := by decide +kernel
theorem pos_and : ∀ n : Fin 32, bits .and .u64 (IntKind.u64.wrap ((n.val : Nat) : Int)) 31 = ((n.val : Nat) : Int) := by decide +kernel
theorem rotl_any (x : UInt32) (k : Int) (s : Nat) (w : World) (hk : k = (s : Int)) (hs : 1 ≤ s) (hs2 : s ≤ 31) :
    Calls Tryd.prog 86 #[.int .u32 (x.toNat : Int), .int .i64 k] w fun e w' => e = .returned (.int .u32 ((rotl x s).toNat : Int)) ∧ w' = w := by
  subst hk
  exact rot_any x _ s w hs hs2 (pos_and ⟨s, by omega⟩)
set_option maxHeartbeats 400000 in
theorem turned_any (x : UInt32) (k : Int) (n : Nat) (w : World) (hk : k = (n : Int)) (hs : 1 ≤ n) (hs2 : n ≤ 31) :
    Calls Tryd.prog 75 #[.int .u32 (x.toNat : Int), .int .i64 k] w fun e w' => e = .returned (.int .u32 ((rotr x n).toNat : Int)) ∧ w' = w := by
  subst hk
  have HB : Hid (bits .and .u64 (IntKind.u64.wrap (-(n : Int))) 31 = ((32 - n : Nat) : Int)) := by
    have := neg_and ⟨n - 1, by omega⟩
    have e : n - 1 + 1 = n := by omega
    simp only [e] at this
    exact this
  go_enter Tryd.func75, Tryd.ntmps75
  go_wp2_with (go_at_call 86; refine (rot_any x _ (32 - n) _ (by omega) (by omega) HB.out).mono ?_; rintro e w' ⟨rfl, rfl⟩)
  go_ret
  exact ⟨rfl, rfl⟩

end Go.Proofs.YthhcaalafacjlaaDoor
end
