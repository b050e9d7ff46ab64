/-
  THE WALK OF WireOrder.
-/
import Derived.Test.YthkeghbhckamoabNumX
import Derived.Test.YthkeghbhckamoabOrd
import Derived.Test.YthkeghbhckamoabCmp
set_option linter.unusedVariables false
namespace Go.Proofs.Ythkeghbhckamoab
open Go.RowKit

theorem wf_i64 {n : Int} (h : (Lit.int .i64 n).wf = true) : -9223372036854775808 ≤ n ∧ n ≤ 9223372036854775807 := by
  simp [Lit.wf, IntKind.min, IntKind.max, IntKind.bits, IntKind.signed] at h
  omega

theorem bs_nil (w : World) : Bs w none 0 [] := ⟨fun h => absurd rfl h, Nat.le_refl _, by unfold maxLen; omega, fun _ => rfl⟩

set_option maxHeartbeats 2000000 in
theorem wireOrder_walk (m n : Int) (w : World) (w0 : (Lit.int .i64 m).wf = true) (w1 : (Lit.int .i64 n).wf = true) :
    Calls Try.prog 4 #[.int .i64 m, .int .i64 n] w fun e w' => e = .returned (.bool true) ∧ Below w.heap.size w w' := by
  obtain ⟨hm0, hm1⟩ := wf_i64 w0
  obtain ⟨hn0, hn1⟩ := wf_i64 w1
  clear w0 w1
  obtain ⟨M, hM⟩ : ∃ M, max m 0 = M := ⟨_, rfl⟩
  obtain ⟨N, hN⟩ : ∃ N, max n 0 = N := ⟨_, rfl⟩
  have hM0 : 0 ≤ M := by omega
  have hM1 : M ≤ 9223372036854775807 := by omega
  have hN0 : 0 ≤ N := by omega
  have hN1 : N ≤ 9223372036854775807 := by omega
  have HC0 : Hid (Lib.compareBytes (form M.toNat) (form N.toNat) = sgn M.toNat N.toNat) := cmp_form M.toNat N.toNat (by omega) (by omega)
  go_enter Try.func4, Try.ntmps4
  go_wp2_with fail
  refine (number_any none 0 [] M w (bs_nil w) (by simp) (by omega) (by omega)).mono ?_
  rintro e w1 ⟨a1, cap1, x, rfl, hr1, ho1, hb1⟩
  go_wp2_with fail
  refine (number_any none 0 [] N w1 (bs_nil w1) (by simp) (by omega) (by omega)).mono ?_
  rintro e w2 ⟨a2, cap2, y, rfl, hr2, ho2, hb2⟩
  have ho1 := ho1.below hb2 (Nat.le_refl _)
  have hW := hb1.trans (hb2.mono hb1.size)
  have ex : x = form M.toNat := hr1.out
  have ey : y = form N.toNat := hr2.out
  have hxl : 0 < x.length := by rw [ex]; exact (form_le _).1
  have hcmp := HC0.out
  rw [← ex, ← ey] at hcmp
  have HC : Hid (Lib.compareBytes x y = sgn M.toNat N.toNat) := hcmp
  have HP : Hid (M ≠ N → y.isPrefixOf x = false) := fun h => by rw [ex, ey]; exact form_prefix _ _ (by omega) (by omega) (by omega)
  have HP2 : Hid (M ≠ N → x.isPrefixOf y = false) := fun h => by rw [ex, ey]; exact form_prefix _ _ (by omega) (by omega) (by omega)
  clear hcmp HC0 ex ey hr1 hr2 hb1 hb2 hM hN
  go_wp2_with fail
  refine (compare_any a1 _ cap1 x a2 _ cap2 y w2 ho1.toBs.row ho2.toBs.row rfl rfl).mono ?_
  rintro e w2' ⟨rfl, rfl⟩
  rw [HC.out]
  rcases Int.lt_trichotomy M N with h | h | h
  · have hs : sgn M.toNat N.toNat = -1 := by unfold sgn; rw [if_pos (by omega)]
    rw [hs]
    have hne : (M == N) = false := by simp; omega
    have q1 := HP.out (by omega)
    have q2 := HP2.out (by omega)
    clear hs
    go_wp2_with fail
    refine (hasPrefix_any a1 _ cap1 x a2 _ cap2 y _ ho1.toBs ho2.toBs rfl rfl).mono ?_
    rintro e w3 ⟨rfl, rfl⟩
    go_wp2_with fail
    refine (hasPrefix_any a2 _ cap2 y a1 _ cap1 x _ ho2.toBs ho1.toBs rfl rfl).mono ?_
    rintro e w4 ⟨rfl, rfl⟩
    go_wp2
    go_ret
    exact ⟨rfl, hW⟩
  · subst h
    have hs : sgn M.toNat M.toNat = 0 := by unfold sgn; rw [if_neg (by omega), if_neg (by omega)]
    rw [hs]
    clear hs
    go_wp2
    go_ret
    exact ⟨rfl, hW⟩
  · have hs : sgn M.toNat N.toNat = 1 := by unfold sgn; rw [if_neg (by omega), if_pos (by omega)]
    rw [hs]
    have hne : (M == N) = false := by simp; omega
    have hdl : decide (M < N) = false := by simp; omega
    have q1 := HP.out (by omega)
    have q2 := HP2.out (by omega)
    clear hs
    go_wp2_with fail
    refine (hasPrefix_any a1 _ cap1 x a2 _ cap2 y _ ho1.toBs ho2.toBs rfl rfl).mono ?_
    rintro e w3 ⟨rfl, rfl⟩
    go_wp2_with fail
    refine (hasPrefix_any a2 _ cap2 y a1 _ cap1 x _ ho2.toBs ho1.toBs rfl rfl).mono ?_
    rintro e w4 ⟨rfl, rfl⟩
    go_wp2
    go_ret
    exact ⟨rfl, hW⟩
#print axioms wireOrder_walk
end Go.Proofs.Ythkeghbhckamoab
