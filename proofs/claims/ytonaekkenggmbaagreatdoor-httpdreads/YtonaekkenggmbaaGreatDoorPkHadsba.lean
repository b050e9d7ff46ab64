/-
  THE LIBRARY's slices.Grow of nil and slices.Concat of two lists of bytes.
-/
import Derived.Test.YtonaekkenggmbaaGreatDoorPkHadsac
import Derived.WalkSpells
import Derived.WalkLawsBesides
import Derived.Lib.AppendZeros
section
set_option linter.unusedVariables false
namespace Go.Proofs.YtonaekkenggmbaaGreatDoor
open Go.RowKit

set_option maxRecDepth 20000 in
set_option maxHeartbeats 1000000 in
theorem grow_nil (n : Nat) (w : World) (h0 : 1 ≤ n) (hn : n ≤ 100000000) :
    Calls Tryz.prog 69 #[.slice none 0 0, .int .i64 (n : Int)] w fun e w' => ∃ a' cap', e = .returned (.slice a' 0 cap') ∧ OwnB w' w.heap.size a' cap' [] ∧ Below w.heap.size w w' := by
  obtain ⟨i, hi, hz0, hz1, hz2⟩ := info_parts Tryz.infoB
  have hge := grownCap_ge w n 0 5
  have hle := grownCap_le_maxLen w n 0 5 (by unfold maxLen; omega)
  have hrun : ∀ ty, (Builtin.append_ #[28, 3] ty #[.slice none 0 0, .int .i64 (n : Int)]).run Tryz.prog w = _ := fun ty => Lib.run_append_nil_zeros w 28 3 ty 5 i (.int .u8 0) .i64 .i64 Tryz.underlying28 Tryz.underlying3 hi hz0 n h0 (by rw [hz1]; decide) (by omega) (by rw [hz2]; omega)
  generalize grownCap w n 0 5 = c at *
  have ho : Hid (OwnB (w.drew.alloc (.cells (Builtin.zeroCells (Value.int .u8 0).cells n ++ Builtin.zeroCells (Value.int .u8 0).cells (c - n)) 5)) w.heap.size (some ⟨w.heap.size, 0, none⟩) c []) := by
    refine World.ownsRow_made w.drew _ c (Nat.le_refl _) hle ?_
    simp only [Array.size_append, size_zeroCells]
    have : (Value.int .u8 0).cells.size = 1 := rfl
    rw [this]
    omega
  have hb : Hid (Below w.heap.size w (w.drew.alloc (.cells (Builtin.zeroCells (Value.int .u8 0).cells n ++ Builtin.zeroCells (Value.int .u8 0).cells (c - n)) 5))) := (Below.refl _ _).drew.alloc (Nat.le_refl _) _
  generalize w.drew.alloc (.cells (Builtin.zeroCells (Value.int .u8 0).cells n ++ Builtin.zeroCells (Value.int .u8 0).cells (c - n)) 5) = w1 at *
  have hrun2 := hide hrun
  clear hrun
  go_enter Tryz.func69, Tryz.ntmps69
  go_wp2_with (at_builtin; refine Lib.wpList_append_run _ rfl _ _ _ _ rfl _ _ rfl rfl _ _ (unhide hrun2 _) ?_)
  go_wp2
  go_ret
  exact ⟨_, c, rfl, unhide ho, unhide hb⟩

theorem grow_zero (w : World) :
    Calls Tryz.prog 69 #[.slice none 0 0, .int .i64 0] w fun e w' => e = .returned (.slice none 0 0) ∧ w' = w := by
  go_enter Tryz.func69, Tryz.ntmps69
  go_wp2
  go_ret
  exact ⟨rfl, rfl⟩

theorem grow_any (n : Nat) (w : World) (hn : n ≤ 100000000) :
    Calls Tryz.prog 69 #[.slice none 0 0, .int .i64 (n : Int)] w fun e w' => ∃ a' cap', e = .returned (.slice a' 0 cap') ∧ OwnB w' w.heap.size a' cap' [] ∧ Below w.heap.size w w' := by
  by_cases h : n = 0
  · subst h
    refine (grow_zero w).mono ?_
    rintro e w' ⟨rfl, rfl⟩
    exact ⟨none, 0, rfl, OwnB.nil _ _, Below.refl _ _⟩
  · exact grow_nil n w (by omega) hn

set_option maxHeartbeats 2000000 in
/-- slices.Concat of two. -/
theorem concat_two (V : Nat) (a1 : Option Addr) (cap1 : Nat) (l1 : List UInt8) (a2 : Option Addr) (cap2 : Nat) (l2 : List UInt8) (w : World) (h1 : Bs w a1 cap1 l1) (h2 : Bs w a2 cap2 l2)
    (v1 : w.cell? ⟨V, 0, none⟩ = some (.slice a1 l1.length cap1)) (v2 : w.cell? ⟨V, 1, none⟩ = some (.slice a2 l2.length cap2)) (hl1 : l1.length ≤ 10000000) (hl2 : l2.length ≤ 10000000) :
    Calls Tryz.prog 37 #[.slice (some ⟨V, 0, none⟩) 2 2] w fun e w' => ∃ a' cap' r, e = .returned (.slice a' r.length cap') ∧ Hid (r = l1 ++ l2) ∧ OwnB w' w.heap.size a' cap' r ∧ Below w.heap.size w w' := by
  have hV : V < w.heap.size := World.block_lt_of_cell? w _ v1
  obtain ⟨N, hN⟩ : ∃ N : Nat, N = l1.length + l2.length := ⟨_, rfl⟩
  have hN1 : (l1.length : Int) + (l2.length : Int) = (N : Int) := by omega
  have hN2 : N ≤ 20000000 := by omega
  clear hN
  go_enter Tryz.func37, Tryz.ntmps37
  go_wp2
  refine wp_loop_rounds 3 ?_
  rw [rounds_succ]
  go_wp2
  rw [rounds_succ]
  go_wp2
  rw [rounds_succ]
  go_wp2_with fail
  refine (grow_any N w (by omega)).mono ?_
  rintro e w1 ⟨a3, cap3, rfl, ho3, hb3⟩
  have v1' : w1.cell? ⟨V, 0, none⟩ = some (.slice a1 l1.length cap1) := by rw [hb3.cell hV]; exact v1
  have v2' : w1.cell? ⟨V, 1, none⟩ = some (.slice a2 l2.length cap2) := by rw [hb3.cell hV]; exact v2
  have h1' := h1.below hb3 (Nat.le_refl _)
  go_wp2
  refine wp_loop_rounds 3 ?_
  rw [rounds_succ]
  go_wp2_with (at_builtin; refine wp_app _ rfl _ _ rfl w.heap.size a3 cap3 [] rfl ho3 a1 cap1 l1 _ rfl rfl h1'.row h1'.nz ?c1 hb3.size ?_)
  case c1 => simp; omega
  intro a4 cap4 r4 w4 hr4 ho4 hg4
  have hb4 : Below w.heap.size w w4 := below_grown hb3 hg4 (Nat.le_refl _) (fun k hk => (ho3.lt k hk).1)
  have v2'' : w4.cell? ⟨V, 1, none⟩ = some (.slice a2 l2.length cap2) := by rw [hb4.cell hV]; exact v2
  have h2' := h2.below hb4 (Nat.le_refl _)
  have hrl : r4.length ≤ 10000000 := by rw [hr4.out]; simpa using hl1
  clear hg4 v1' v2' h1'
  go_wp2
  rw [rounds_succ]
  go_wp2_with (at_builtin; refine wp_app _ rfl _ _ rfl w.heap.size a4 cap4 r4 rfl ho4 a2 cap2 l2 _ rfl rfl h2'.row h2'.nz ?c2 hb4.size ?_)
  case c2 => omega
  intro a5 cap5 r5 w5 hr5 ho5 hg5
  have hb5 : Below w.heap.size w w5 := below_grown hb4 hg5 (Nat.le_refl _) (fun k hk => (ho4.lt k hk).1)
  have HR : Hid (r5 = l1 ++ l2) := by show _ = _; rw [hr5.out, hr4.out]; try simp
  clear hg5 hr4 hr5 v2''
  go_wp2
  rw [rounds_succ]
  go_wp2
  go_ret
  exact ⟨a5, cap5, r5, rfl, HR, ho5, hb5⟩
#print axioms concat_two
end Go.Proofs.YtonaekkenggmbaaGreatDoor
end
