/-
  THE WALK OF WireNobody.
-/
import Derived.Test.YthkeghbhckamoacCurB
set_option linter.unusedVariables false
namespace Go.Proofs.Ythkeghbhckamoac
open Go.RowKit

theorem bs_lit (w : World) (z : Int) (c : UInt8) (h : z = (c.toNat : Int)) : Bs (w.alloc (.cells #[.int .u8 z] 5)) (some ⟨w.heap.size, 0, none⟩) 1 [c] :=
  ⟨row_lit w z c h, by simp, by unfold maxLen; omega, fun h => by cases h⟩

theorem below_cur {B : Nat} {w0 w w' : World} {C : Nat} (h : Below B w0 w) (hg : w.grownBy w' (some C)) (hB : B ≤ w.heap.size) (hC : B ≤ C) : Below B w0 w' :=
  h.grown hg hB (fun k hk => by have := Option.some.inj hk; omega)

theorem nobody_two (w : World) (A : Array Value) (t : TypeId) : NoCur ((w.alloc (.cells #[.int .i64 0, .slice none 0 0, .bool false] 27)).alloc (.cells A t)) (some ⟨w.heap.size, 0, none⟩) := by
  refine .inr ⟨w.heap.size, rfl, ?_⟩
  have h : (w.alloc (.cells #[.int .i64 0, .slice none 0 0, .bool false] 27)).cell? ⟨w.heap.size, 2, none⟩ = some (.bool false) := by
    rw [cell_of_row _ w.heap.size _ _ _ _ (heap_alloc_new w _)]
    rfl
  have hb : Below (w.alloc (.cells #[.int .i64 0, .slice none 0 0, .bool false] 27)).heap.size (w.alloc (.cells #[.int .i64 0, .slice none 0 0, .bool false] 27)) ((w.alloc (.cells #[.int .i64 0, .slice none 0 0, .bool false] 27)).alloc (.cells A t)) := (Below.refl _ _).alloc (Nat.le_refl _) _
  rw [hb.cell (by simp)]
  exact h

set_option maxHeartbeats 4000000 in
theorem wireNobody_walk (m : Int) (w : World) (w0 : (Lit.int .i64 m).wf = true) :
    Calls Try.prog 3 #[.int .i64 m] w fun e w' => e = .returned (.bool true) ∧ Below w.heap.size w w' := by
  clear w0
  go_enter Try.func3, Try.ntmps3
  go_wp2
  refine wp_loop_rounds 3 ?_
  rw [rounds_succ]
  go_wp2_with (first
    | (go_at_call 7; refine (nbyte none _ (.inl rfl)).mono ?_; rintro e w' ⟨rfl, rfl⟩)
    | (go_at_call 8; refine (nnumber none _ (.inl rfl)).mono ?_; rintro e w' ⟨rfl, rfl⟩)
    | (go_at_call 9; refine (ntext none _ _ (.inl rfl)).mono ?_; rintro e w' ⟨rfl, rfl⟩)
    | (go_at_call 10; refine (nend none _ (.inl rfl)).mono ?_; rintro e w' ⟨rfl, rfl⟩)
    | (go_at_call 11; refine (nat0 none _ (.inl rfl)).mono ?_; rintro e w' ⟨rfl, rfl⟩)
    | (go_at_call 12; refine (nrest none _ (.inl rfl)).mono ?_; rintro e w' ⟨rfl, rfl⟩))
  rw [rounds_succ]
  go_wp2_with (first
    | (go_at_call 7; refine (nbyte _ _ (nobody_two _ _ _)).mono ?_; rintro e w' ⟨rfl, rfl⟩)
    | (go_at_call 8; refine (nnumber _ _ (nobody_two _ _ _)).mono ?_; rintro e w' ⟨rfl, rfl⟩)
    | (go_at_call 9; refine (ntext _ _ _ (nobody_two _ _ _)).mono ?_; rintro e w' ⟨rfl, rfl⟩)
    | (go_at_call 10; refine (nend _ _ (nobody_two _ _ _)).mono ?_; rintro e w' ⟨rfl, rfl⟩)
    | (go_at_call 11; refine (nat0 _ _ (nobody_two _ _ _)).mono ?_; rintro e w' ⟨rfl, rfl⟩)
    | (go_at_call 12; refine (nrest _ _ (nobody_two _ _ _)).mono ?_; rintro e w' ⟨rfl, rfl⟩))
  rw [rounds_succ]
  go_wp2_with fail
  have hb0 : Below w.heap.size w ((w.alloc (.cells #[.int .i64 0, .slice none 0 0, .bool false] 27)).alloc (.cells #[.pointer none, .pointer (some ⟨w.heap.size, 0, none⟩)] 22)) := ((Below.refl _ _).alloc (Nat.le_refl _) _).alloc (by simp) _
  have hvs : ((w.alloc (.cells #[.int .i64 0, .slice none 0 0, .bool false] 27)).alloc (.cells #[.pointer none, .pointer (some ⟨w.heap.size, 0, none⟩)] 22)).heap.size = w.heap.size + 1 + 1 := by simp
  generalize (w.alloc (.cells #[.int .i64 0, .slice none 0 0, .bool false] 27)).alloc (.cells #[.pointer none, .pointer (some ⟨w.heap.size, 0, none⟩)] 22) = v at *
  rw [← hvs]
  have hvs2 := hide hvs
  clear hvs
  refine (from_any (some ⟨v.heap.size, 0, none⟩) 1 1 [7] _ (bs_lit v 7 7 rfl) rfl (by simp)).mono ?_
  rintro e v1 ⟨C1, a1, cap1, rfl, hC1, hC1l, _, hb1⟩
  have hs := hb0.size
  have hW1 : Below w.heap.size w v1 := (hb0.alloc hs _).trans (hb1.mono (by simp; omega))
  have hC1g : w.heap.size ≤ C1 := by simp at hC1l; omega
  go_wp2_with fail
  refine (cbyte_any C1 a1 cap1 [7] 0 v1 hC1).mono ?_
  rintro e v2 ⟨N2, E2, S2, rfl, hr2, _, hg2⟩
  have hq := hr2.out
  have hq2 : by1 ([7].drop 0) = (7, 0, 1) := by decide
  rw [hq2] at hq
  simp only [Prod.mk.injEq] at hq
  obtain ⟨rfl, rfl, rfl⟩ := hq
  have hW2 := below_cur hW1 hg2 hW1.size hC1g
  clear hr2 hq2 hg2 hW1 hC1 hC1l hb1 hC1g
  go_wp2
  go_ret
  exact ⟨rfl, hW2⟩
#print axioms wireNobody_walk
end Go.Proofs.Ythkeghbhckamoac
