/-
  THE WALKS of bits.RotateLeft32, digest.turned, choose, majority, mix, word.
-/
import Derived.Test.YtegbcjfceooflaaDoorPkWptsaa
import Derived.Test.YtegbcjfceooflaaDoorPkWptsab
section
set_option linter.unusedVariables false
namespace Go.Proofs.YtegbcjfceooflaaDoor
open Go.RowKit

theorem u_lt (x : UInt32) : x.toNat < 4294967296 := x.toNat_lt
theorem u_xor (x y : UInt32) : bits .xor .u32 (x.toNat : Int) (y.toNat : Int) = ((x ^^^ y).toNat : Int) := by
  rw [u32_xor_nat _ _ (u_lt x) (u_lt y), UInt32.toNat_xor]
theorem u_and (x y : UInt32) : bits .and .u32 (x.toNat : Int) (y.toNat : Int) = ((x &&& y).toNat : Int) := by
  rw [u32_and_nat _ _ (u_lt x) (u_lt y), UInt32.toNat_and]
theorem u_or (x y : UInt32) : bits .or .u32 (x.toNat : Int) (y.toNat : Int) = ((x ||| y).toNat : Int) := by
  rw [u32_or_nat _ _ (u_lt x) (u_lt y), UInt32.toNat_or]
theorem u_add (x y : UInt32) : IntKind.u32.wrap ((x.toNat : Int) + (y.toNat : Int)) = ((x + y).toNat : Int) := by
  rw [IntKind.wrap_u32', UInt32.toNat_add]; omega

theorem u_not (x : UInt32) : bits .xor .u32 IntKind.u32.max (x.toNat : Int) = ((~~~x).toNat : Int) := by
  have e : IntKind.u32.max = ((4294967295 : UInt32).toNat : Int) := rfl
  rw [e, u_xor]
  congr 2
theorem u_shl (x : UInt32) (s : Nat) (h : s ≤ 31) : (x.toNat : Int) * 2 ^ s % 4294967296 = ((x <<< UInt32.ofNat s).toNat : Int) := by
  rw [UInt32.toNat_shiftLeft]
  have e : (UInt32.ofNat s).toNat % 32 = s := by simp; omega
  rw [e, Nat.shiftLeft_eq]
  simp
theorem u_shr (x : UInt32) (s : Nat) (h : s ≤ 31) : (x.toNat : Int) / 2 ^ s = ((x >>> UInt32.ofNat s).toNat : Int) := by
  rw [UInt32.toNat_shiftRight]
  have e : (UInt32.ofNat s).toNat % 32 = s := by simp; omega
  rw [e, Nat.shiftRight_eq_div_pow]
  simp

set_option maxHeartbeats 400000 in
theorem choose_any (x y z : UInt32) (w : World) :
    Calls Tryd.prog 77 #[.int .u32 (x.toNat : Int), .int .u32 (y.toNat : Int), .int .u32 (z.toNat : Int)] w fun e w' => e = .returned (.int .u32 ((chs x y z).toNat : Int)) ∧ w' = w := by
  go_enter Tryd.func77, Tryd.ntmps77
  go_wp2
  go_ret
  exact ⟨ret_int (by rw [u_not, u_and, u_and, u_xor]; rfl), rfl⟩
set_option maxHeartbeats 400000 in
theorem maj_any (x y z : UInt32) (w : World) :
    Calls Tryd.prog 78 #[.int .u32 (x.toNat : Int), .int .u32 (y.toNat : Int), .int .u32 (z.toNat : Int)] w fun e w' => e = .returned (.int .u32 ((maj x y z).toNat : Int)) ∧ w' = w := by
  go_enter Tryd.func78, Tryd.ntmps78
  go_wp2
  go_ret
  exact ⟨ret_int (by rw [u_and, u_and, u_and, u_xor, u_xor]; rfl), rfl⟩
set_option maxHeartbeats 400000 in
theorem rot_any (x : UInt32) (k : Int) (s : Nat) (w : World) (hs : 1 ≤ s) (hs2 : s ≤ 31) (hb : bits .and .u64 (IntKind.u64.wrap k) 31 = (s : Int)) :
    Calls Tryd.prog 60 #[.int .u32 (x.toNat : Int), .int .i64 k] w fun e w' => e = .returned (.int .u32 ((rotl x s).toNat : Int)) ∧ w' = w := by
  go_enter Tryd.func60, Tryd.ntmps60
  go_wp2
  go_ret
  exact ⟨ret_int (by rw [u_shl x s hs2, u_shr x (32 - s) (by omega), u_or]; rfl), rfl⟩

theorem neg_and : ∀ n : Fin 31, bits .and .u64 (IntKind.u64.wrap (-((n.val + 1 : Nat) : Int))) 31 = ((32 - (n.val + 1) : Nat) : Int) := by decide +kernel
theorem pos_and : ∀ n : Fin 32, bits .and .u64 (IntKind.u64.wrap ((n.val : Nat) : Int)) 31 = ((n.val : Nat) : Int) := by decide +kernel
theorem rotl_any (x : UInt32) (k : Int) (s : Nat) (w : World) (hk : k = (s : Int)) (hs : 1 ≤ s) (hs2 : s ≤ 31) :
    Calls Tryd.prog 60 #[.int .u32 (x.toNat : Int), .int .i64 k] w fun e w' => e = .returned (.int .u32 ((rotl x s).toNat : Int)) ∧ w' = w := by
  subst hk
  exact rot_any x _ s w hs hs2 (pos_and ⟨s, by omega⟩)
set_option maxHeartbeats 400000 in
theorem mix_any (t : Nat) (k : Int) (x y z : UInt32) (w : World) (hk : k = (t : Int)) :
    Calls Tryd.prog 61 #[.int .i64 k, .int .u32 (x.toNat : Int), .int .u32 (y.toNat : Int), .int .u32 (z.toNat : Int)] w fun e w' => e = .returned (.int .u32 ((mix1 t x y z).toNat : Int)) ∧ w' = w := by
  subst hk
  by_cases h0 : t = 0
  · subst h0
    go_enter Tryd.func61, Tryd.ntmps61
    go_wp2_with (go_at_call 77; refine (choose_any x y z _).mono ?_; rintro e w' ⟨rfl, rfl⟩)
    go_ret
    exact ⟨rfl, rfl⟩
  by_cases h2 : t = 2
  · subst h2
    go_enter Tryd.func61, Tryd.ntmps61
    go_wp2_with (go_at_call 78; refine (maj_any x y z _).mono ?_; rintro e w' ⟨rfl, rfl⟩)
    go_ret
    exact ⟨rfl, rfl⟩
  · have e0 : ((t : Int) == 0) = false := by simpa using h0
    have e2 : ((t : Int) == 2) = false := by simp; omega
    go_enter Tryd.func61, Tryd.ntmps61
    go_wp2
    go_ret
    exact ⟨ret_int (by rw [u_xor, u_xor]; simp [mix1, h0, h2]), rfl⟩
#print axioms mix_any
end Go.Proofs.YtegbcjfceooflaaDoor
end
