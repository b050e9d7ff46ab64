/-
  THE WALK of awake.
-/
import Derived.Test.YtohlmfiicfoimaaLnkW
import Derived.Lib.SlBytesConst
set_option linter.unusedVariables false
namespace Go.Proofs.Ytohlmfiicfoimaa
open Go.RowKit Go.Maps

theorem new_net (w : World) : Calls Try.prog 8 #[] w fun e w' => ∃ N bm, e = .returned (.pointer (some ⟨N, 0, none⟩)) ∧ w'.heap[N]? = some (.cells #[.map (some bm), .int .i64 0] 59 (0, 0)) ∧ w'.ownsMap Try.prog 3 ptrElem bm 0 (.map []) ∧ w.heap.size ≤ N ∧ w.heap.size ≤ bm ∧ Below w.heap.size w w' := by
  refine (new_any w).mono ?_
  rintro e w' ⟨rfl, rfl⟩
  refine ⟨w.heap.size + 1, w.heap.size, rfl, ?_, ?_, Nat.le_succ _, Nat.le_refl _, ((Below.refl _ _).alloc (Nat.le_refl _) _).alloc (by simp) _⟩
  · have := heap_alloc_new (w.alloc (.map #[] 0)) (.cells #[.map (some w.heap.size), .int .i64 0] 59)
    simpa using this
  · exact (World.ownsMap_made w Try.prog 3 ptrElem).alloc _

theorem lit_ab (w : World) (m : Nat × Nat) : Bs (w.alloc (.cells #[.int .u8 97, .int .u8 98] 5 m)) (some ⟨w.heap.size, 0, none⟩) 2 [97, 98] := by
  refine ⟨?_, by simp, by unfold maxLen; omega, fun h => by cases h⟩
  intro _
  refine ⟨w.heap.size, 0, rfl, fun i hi => ?_⟩
  have hi' : i < 2 := hi
  rw [World.cell?_alloc_mark]
  match i, hi' with
  | 0, _ => rfl
  | 1, _ => rfl

theorem bs_none (w : World) : Bs w none 0 [] := ⟨fun h => absurd rfl h, Nat.le_refl _, by unfold maxLen; omega, fun _ => rfl⟩

set_option maxRecDepth 20000 in
set_option maxHeartbeats 2000000 in
theorem awake_true (w : World) : Calls Try.prog 7 #[] w fun e w' => e = .returned (.bool true) ∧ Below w.heap.size w w' := by
  have kc := fun (w : World) (C : Array Value) (n c : Nat) => Lib.run_convert_bytes_const (P := Try.prog) w 31 5 C n c Try.underlying31 Try.underlying5
  go_enter Try.func7, Try.ntmps7
  go_wp2_with fail
  refine (new_net w).mono ?_
  rintro e w1 ⟨N, bm, rfl, hN, hm, hN0, hm0, hb1⟩
  have hs1 := hb1.size
  go_wp2_with fail
  refine (dial_new N bm 0 1 w1 (by omega) (by omega) (by omega) (by omega) (by omega) hN hm).mono ?_
  rintro e w2 ⟨rfl, C, hC, hL, hk⟩
  have hb2 : Below w.heap.size w w2 := hk.below hb1 hs1 (fun j hj => by rcases hj with rfl | rfl <;> omega)
  have hs2 := hb2.size
  clear hN hm hk hb1
  go_wp2_with fail
  refine (send_any N bm C 0 1 none 0 [] _ (some ⟨w2.heap.size, 0, none⟩) 2 [97, 98] _ (hL.below ((Below.refl _ _).alloc (Nat.le_refl _) _)) (OwnB.nil _ _) (lit_ab w2 _) (by simp) (Nat.le_refl _)).mono ?_
  rintro e w3 ⟨rfl, x, k, r, hr, hL3, ho3, hk3⟩
  have hr' := unhide hr
  simp only [List.nil_append] at hr'
  subst hr'
  have hb3 : Below w.heap.size w w3 := hk3.below (hb2.alloc hb2.size _) (by simp; omega) (fun j hj => by rcases hj with rfl | h; omega; simp [blk] at h)
  have hx := hL3.con.ne ho3
  have hxn := hL3.neNx ho3
  have hs3 := hb3.size
  clear hL hk3 hr hb2
  go_wp2_with fail
  refine (carry_any N bm C 0 1 x k [97, 98] 1 1 w3 hL3 hx hxn (by omega) (by simp) (by omega) (by omega) (by show _ = _; simp)).mono ?_
  rintro e w4 ⟨a5, cap5, r5, rfl, hr5, ho5, hk5, x', k', hbx, hL5⟩
  have hr5' := unhide hr5
  simp at hr5'
  subst hr5'
  have hb4 : Below w.heap.size w w4 := hk5.below hb3 hs3 (fun j hj => by subst hj; omega)
  have hstr := run_str w4 a5 1 cap5 [97] ho5.toBs.row rfl
  have hsa : str [97] = { data := #[97] } := rfl
  rw [hsa] at hstr
  rw [show [(97 : UInt8)].length = 1 from rfl]
  clear hL3 ho3 hL5 hk5 hr5 kc
  go_wp2
  go_ret
  exact ⟨rfl, hb4⟩
#print axioms awake_true

end Go.Proofs.Ytohlmfiicfoimaa
