/-
  msg: logged mutations as JSON: idMember, mutationMember, loggedValue, numberedValue.; msg: typeOf, kindOf; each: the values of a row of mutations.
-/
import Derived.Test.YtmpjeahibfdehaaGreatDoorPkMtesbg
import Derived.Deep.RegionHeld3
section
set_option linter.unusedVariables false
set_option maxRecDepth 1000000
namespace Go.Proofs.YtmpjeahibfdehaaGreatDoor
open Go.RowKit

/-- The JSON of a mutation, of a logged one, of one in a push. -/
def muJ (m : Mu) : Js := .mk 5 0 [] [[107, 105, 110, 100], [105, 115, 115, 117, 101], [110, 97, 109, 101], [116, 101, 120, 116]] [.mk 2 m.k [] [] [], .mk 3 0 m.i [] [], .mk 3 0 m.n [] [], .mk 3 0 m.t [] []]
def lgJ (x : Lg) : Js := .mk 5 0 [] [[99, 108, 105, 101, 110, 116], [105, 100], [109]] [.mk 3 0 x.c [] [], .mk 2 x.id [] [] [], muJ x.m]
def nuJ (x : Lg) : Js := .mk 5 0 [] [[105, 100], [109]] [.mk 2 x.id [] [] [], muJ x.m]
set_option maxHeartbeats 16000000 in
theorem idM_any (x : Lg) (w : World) :
  Calls Tryz.prog 69 #[lgV x] w fun e w' => e = .returned (.agg #[.string (str [105, 100]), .int .i64 2, .int .i64 x.id, .string ⟨#[]⟩, .slice none 0 0, .slice none 0 0]) ∧ Hid (Below w.heap.size w w') := by
 unfold lgV
 obtain ⟨X, hX⟩ : ∃ X, X = w.heap.size := ⟨_, rfl⟩
 obtain ⟨R, hR⟩ : ∃ R, R = w.heap.size + 1 := ⟨_, rfl⟩
 obtain ⟨W, hW⟩ : ∃ W, W = (w.alloc (.cells #[.string (str x.c), .int .i64 x.id, .int .i64 x.m.k, .string (str x.m.i), .string (str x.m.n), .string (str x.m.t)] 28)).alloc (.cells #[.string ⟨#[]⟩, .int .i64 0, .int .i64 0, .string ⟨#[]⟩, .slice none 0 0, .slice none 0 0] 85) := ⟨_, rfl⟩
 have bW : Below w.heap.size w W := by rw [hW]; exact below2 w _ _
 have rX : W.heap[X]? = some (.cells #[.string (str x.c), .int .i64 x.id, .int .i64 x.m.k, .string (str x.m.i), .string (str x.m.n), .string (str x.m.t)] 28 (0, 0)) := by
  rw [hW, hX, heap_alloc_old _ _ (by simp)]
  exact heap_alloc_new _ _
 have rR : W.heap[R]? = some (.cells #[.string ⟨#[]⟩, .int .i64 0, .int .i64 0, .string ⟨#[]⟩, .slice none 0 0, .slice none 0 0] 85 (0, 0)) := by
  rw [hW, hR]
  exact heap_alloc2_new _ _ _
 have HRX : Hid (X = w.heap.size ∧ R = w.heap.size + 1) := ⟨hX, hR⟩
 have HRR := hide rR
 have HSW : Hid (W.heap.size = w.heap.size + 2) := by show _ = _; rw [hW]; simp
 have HRXX := hide rX
 have HBW := hide bW
 obtain ⟨p0, p1, p2, p3, p4, p5⟩ := cells6 rX
 clear bW rX rR
 have HN := hide (numM_any [105, 100] x.id W)
 go_enter Tryz.func69, Tryz.ntmps69
 go_upto_region 1 with fail
 rw [← hW, ← hR, ← hX]
 clear hW hR hX
 go_wp2_with fail
 refine (uh HN).mono ?_
 rintro e u1 ⟨rfl, h1⟩
 obtain ⟨w9, h9⟩ : ∃ w9, w9 = (((((u1.setCell ⟨R, 0, none⟩ (.string (str [105, 100]))).setCell ⟨R, 1, none⟩ (.int .i64 2)).setCell ⟨R, 2, none⟩ (.int .i64 x.id)).setCell ⟨R, 3, none⟩ (.string ⟨#[]⟩)).setCell ⟨R, 4, none⟩ (.slice none 0 0)).setCell ⟨R, 5, none⟩ (.slice none 0 0) := ⟨_, rfl⟩
 have rR9 := ((uh h1).block R (aI (uh HRR)).1).trans (uh HRR)
 have r9 : w9.heap[R]? = some (.cells #[.string (str [105, 100]), .int .i64 2, .int .i64 x.id, .string ⟨#[]⟩, .slice none 0 0, .slice none 0 0] 85 (0, 0)) := by
  rw [h9]
  exact hS6 (hS6 (hS6 (hS6 (hS6 (hS6 rR9)))))
 have HB9 : Hid (Below w.heap.size w w9) := by
  show Below _ _ _
  rw [h9]
  have q : w.heap.size ≤ R := by have := uh HRX; omega
  have bu := (uh HBW).trans ((uh h1).mono (uh HBW).size)
  exact (((((bu.setCell q _).setCell q _).setCell q _).setCell q _).setCell q _).setCell q _
 obtain ⟨y0, y1, y2, y3, y4, y5⟩ := cells6 rR9
 obtain ⟨e0, e1, e2, e3, e4, e5⟩ := cells6 r9
 have z0 := frozen_of_row u1 R 0 _ _ rR9
 have z1 := frozen_of_row u1 R 1 _ _ rR9
 have z2 := frozen_of_row u1 R 2 _ _ rR9
 have z3 := frozen_of_row u1 R 3 _ _ rR9
 have z4 := frozen_of_row u1 R 4 _ _ rR9
 have z5 := frozen_of_row u1 R 5 _ _ rR9
 clear rR9 r9
 clear HN h1
 go_wp2_with fail
 rw [← h9]
 clear h9
 refine ⟨rfl, _, by simp [results, Tryz.results69, go_sem, e0, e1, e2, e3, e4, e5]; rfl, ?_⟩
 exact ⟨rfl, HB9⟩
set_option maxHeartbeats 16000000 in
theorem mutM_any (x : Lg) (w : World) :
  Calls Tryz.prog 70 #[lgV x] w fun e w' => ∃ v0 v1 v2 v3 v4, e = .returned (.agg #[.string (str [109]), v0, v1, v2, v3, v4]) ∧ Hid (JV w' (Nw w w') (.agg #[v0, v1, v2, v3, v4]) (muJ x.m)) ∧ Hid (Below w.heap.size w w') := by
 unfold lgV
 obtain ⟨X, hX⟩ : ∃ X, X = w.heap.size := ⟨_, rfl⟩
 obtain ⟨R, hR⟩ : ∃ R, R = w.heap.size + 1 := ⟨_, rfl⟩
 obtain ⟨W, hW⟩ : ∃ W, W = (w.alloc (.cells #[.string (str x.c), .int .i64 x.id, .int .i64 x.m.k, .string (str x.m.i), .string (str x.m.n), .string (str x.m.t)] 28)).alloc (.cells #[.string ⟨#[]⟩, .int .i64 0, .int .i64 0, .string ⟨#[]⟩, .slice none 0 0, .slice none 0 0] 85) := ⟨_, rfl⟩
 have bW : Below w.heap.size w W := by rw [hW]; exact below2 w _ _
 have rX : W.heap[X]? = some (.cells #[.string (str x.c), .int .i64 x.id, .int .i64 x.m.k, .string (str x.m.i), .string (str x.m.n), .string (str x.m.t)] 28 (0, 0)) := by
  rw [hW, hX, heap_alloc_old _ _ (by simp)]
  exact heap_alloc_new _ _
 have rR : W.heap[R]? = some (.cells #[.string ⟨#[]⟩, .int .i64 0, .int .i64 0, .string ⟨#[]⟩, .slice none 0 0, .slice none 0 0] 85 (0, 0)) := by
  rw [hW, hR]
  exact heap_alloc2_new _ _ _
 have HRX : Hid (X = w.heap.size ∧ R = w.heap.size + 1) := ⟨hX, hR⟩
 have HRR := hide rR
 have HSW : Hid (W.heap.size = w.heap.size + 2) := by show _ = _; rw [hW]; simp
 have HRXX := hide rX
 have HBW := hide bW
 obtain ⟨p0, p1, p2, p3, p4, p5⟩ := cells6 rX
 clear bW rX rR
 have HS0 : Hid (∀ u, Below W.heap.size W u → (u.cell? ⟨X, 2, none⟩ = some (.int .i64 x.m.k) ∧ u.cell? ⟨X, 3, none⟩ = some (.string (str x.m.i)) ∧ u.cell? ⟨X, 4, none⟩ = some (.string (str x.m.n)) ∧ u.cell? ⟨X, 5, none⟩ = some (.string (str x.m.t)))) := fun u hb => by
  obtain ⟨q0, q1, q2, q3, q4, q5⟩ := cells6 ((hb.block X (aI (uh HRXX)).1).trans (uh HRXX))
  exact ⟨q2, q3, q4, q5⟩
 have HTR : Hid (∀ u u', Hid (Below W.heap.size W u) → Hid (Below u.heap.size u u') → Hid (Below W.heap.size W u')) := fun u u' h h1 => (uh h).trans ((uh h1).mono (uh h).size)
 have HAB : Hid (∀ u ob, Hid (Below W.heap.size W u) → Hid (Below W.heap.size W (u.alloc ob))) := fun u ob h => (uh h).trans (((Below.refl _ _).alloc (Nat.le_refl _) ob).mono (uh h).size)
 have HTA : Hid (∀ u ob u', Hid (Below W.heap.size W u) → Hid (Below (u.alloc ob).heap.size (u.alloc ob) u') → Hid (Below W.heap.size W u')) := fun u ob u' h h1 => uh HTR _ _ (uh HAB u ob h) h1
 have HA0 : Hid (∀ u, Below W.heap.size W u → ∀ ob, ((u.alloc ob).cell? ⟨X, 2, none⟩ = some (.int .i64 x.m.k) ∧ (u.alloc ob).cell? ⟨X, 3, none⟩ = some (.string (str x.m.i)) ∧ (u.alloc ob).cell? ⟨X, 4, none⟩ = some (.string (str x.m.n)) ∧ (u.alloc ob).cell? ⟨X, 5, none⟩ = some (.string (str x.m.t)))) := fun u hb ob => uh HS0 _ (uh (uh HAB u ob hb))
 have HS5 : Hid (∀ (u : World) (y0 y1 y2 y3 y4 y5 : Value), (u.cell? ⟨X, 2, none⟩ = some (.int .i64 x.m.k) ∧ u.cell? ⟨X, 3, none⟩ = some (.string (str x.m.i)) ∧ u.cell? ⟨X, 4, none⟩ = some (.string (str x.m.n)) ∧ u.cell? ⟨X, 5, none⟩ = some (.string (str x.m.t))) → (((((((u.setCell ⟨R, 0, none⟩ y0).setCell ⟨R, 1, none⟩ y1).setCell ⟨R, 2, none⟩ y2).setCell ⟨R, 3, none⟩ y3).setCell ⟨R, 4, none⟩ y4).setCell ⟨R, 5, none⟩ y5).cell? ⟨X, 2, none⟩ = some (.int .i64 x.m.k) ∧ ((((((u.setCell ⟨R, 0, none⟩ y0).setCell ⟨R, 1, none⟩ y1).setCell ⟨R, 2, none⟩ y2).setCell ⟨R, 3, none⟩ y3).setCell ⟨R, 4, none⟩ y4).setCell ⟨R, 5, none⟩ y5).cell? ⟨X, 3, none⟩ = some (.string (str x.m.i)) ∧ ((((((u.setCell ⟨R, 0, none⟩ y0).setCell ⟨R, 1, none⟩ y1).setCell ⟨R, 2, none⟩ y2).setCell ⟨R, 3, none⟩ y3).setCell ⟨R, 4, none⟩ y4).setCell ⟨R, 5, none⟩ y5).cell? ⟨X, 4, none⟩ = some (.string (str x.m.n)) ∧ ((((((u.setCell ⟨R, 0, none⟩ y0).setCell ⟨R, 1, none⟩ y1).setCell ⟨R, 2, none⟩ y2).setCell ⟨R, 3, none⟩ y3).setCell ⟨R, 4, none⟩ y4).setCell ⟨R, 5, none⟩ y5).cell? ⟨X, 5, none⟩ = some (.string (str x.m.t)))) := fun u y0 y1 y2 y3 y4 y5 h => by
  have hXR : X ≠ R := by have := uh HRX; omega
  have e : ((((((u.setCell ⟨R, 0, none⟩ y0).setCell ⟨R, 1, none⟩ y1).setCell ⟨R, 2, none⟩ y2).setCell ⟨R, 3, none⟩ y3).setCell ⟨R, 4, none⟩ y4).setCell ⟨R, 5, none⟩ y5).heap[X]? = u.heap[X]? := by rw [Below.heap_setCell _ ⟨R, 5, none⟩ _ X hXR]; rw [Below.heap_setCell _ ⟨R, 4, none⟩ _ X hXR]; rw [Below.heap_setCell _ ⟨R, 3, none⟩ _ X hXR]; rw [Below.heap_setCell _ ⟨R, 2, none⟩ _ X hXR]; rw [Below.heap_setCell _ ⟨R, 1, none⟩ _ X hXR]; rw [Below.heap_setCell _ ⟨R, 0, none⟩ _ X hXR]
  obtain ⟨q2, q3, q4, q5⟩ := h
  exact ⟨cell_keep e q2, cell_keep e q3, cell_keep e q4, cell_keep e q5⟩
 have HJM : Hid (∀ u u' v j, Hid (Below W.heap.size W u) → Hid (JV u' (Nw u u') v j) → Hid (∃ z, Below W.heap.size W z ∧ JV u' (Nw z u') v j)) := fun u u' v j hb hj => ⟨u, uh hb, uh hj⟩
 have HKJ : Hid (∀ u ob v j, Hid (Below W.heap.size W u) → Hid (∃ z, Below W.heap.size W z ∧ JV u (Nw z u) v j) → JV (u.alloc ob) (Nw W (u.alloc ob)) v j) := fun u ob v j hb hj => by
  obtain ⟨z, hz, hj⟩ := uh hj
  exact JV.keep (fun k hk => ⟨⟨Nat.le_trans hz.size hk.1, Nat.lt_of_lt_of_le hk.2 (by simp)⟩, heap_alloc_old _ _ hk.2⟩) _ _ hj
 have B0 : Hid (Below W.heap.size W W.drew) := Below.drew (Below.refl _ _)
 have s0 := uh HS0 W.drew (uh B0)
 go_enter Tryz.func70, Tryz.ntmps70
 go_upto_region 1 with fail
 rw [← hW, ← hR, ← hX]
 clear hW hR hX
 go_region_held3 (fun w' => w'.cell? ⟨X, 2, none⟩ = some (.int .i64 x.m.k) ∧ w'.cell? ⟨X, 3, none⟩ = some (.string (str x.m.i)) ∧ w'.cell? ⟨X, 4, none⟩ = some (.string (str x.m.n)) ∧ w'.cell? ⟨X, 5, none⟩ = some (.string (str x.m.t))) (first | with_reducible exact aS | with_reducible exact s1 | with_reducible exact a1 _ | with_reducible exact s0) ((first
  | (go_at_call 59; refine (numM_any _ _ _).mono ?_; rintro e u1 ⟨rfl, h1⟩; have B1 := uh HTR _ _ ‹Hid (Below W.heap.size W _)› h1; have s1 := uh HS0 _ (uh B1); have a1 := uh HA0 _ (uh B1))
  | (go_at_call 57; refine (textM_any _ _ _).mono ?_; rintro e u1 ⟨rfl, h1⟩; have B1 := uh HTR _ _ ‹Hid (Below W.heap.size W _)› h1; have s1 := uh HS0 _ (uh B1); have a1 := uh HA0 _ (uh B1))
  | (go_at_call 60; refine (of_nw [nMm [107, 105, 110, 100] x.m.k, tMm [105, 115, 115, 117, 101] x.m.i, tMm [110, 97, 109, 101] x.m.n, tMm [116, 101, 120, 116] x.m.t] 4 _ 4 rfl _ (heap_alloc_new _ _) W (by exact (uh (uh HAB _ _ ‹Hid (Below W.heap.size W _)›)).size) (fun m hm => by simp at hm; rcases hm with rfl | rfl | rfl | rfl <;> first | exact nMm_ok _ _ _ _ | exact tMm_ok _ _ _ _) (by simp)).mono ?_; rintro e u9 ⟨v, rfl, hj, h1⟩; obtain ⟨jk, jn, jt, ja1, jn1, jc1, ja2, jn2, jc2, rfl⟩ := (uh hj).form; have B9 := uh HTA _ _ _ ‹Hid (Below W.heap.size W _)› h1; have s1 := uh HS0 _ (uh B9); have rR9 := ((uh B9).block R (aI (uh HRR)).1).trans (uh HRR); obtain ⟨y0, y1, y2, y3, y4, y5⟩ := cells6 rR9; have z0 := frozen_of_row u9 R 0 _ _ rR9; have z1 := frozen_of_row u9 R 1 _ _ rR9; have z2 := frozen_of_row u9 R 2 _ _ rR9; have z3 := frozen_of_row u9 R 3 _ _ rR9; have z4 := frozen_of_row u9 R 4 _ _ rR9; have z5 := frozen_of_row u9 R 5 _ _ rR9; have HR9 := hide rR9; have HJ9 := hide hj; have HB9 := B9; have aS := uh HS5 u9 (.string ⟨#[109]⟩) (.int .i64 jk) (.int .i64 jn) (.string (str jt)) (.slice ja1 jn1 jc1) (.slice ja2 jn2 jc2) s1; clear rR9)))
 obtain ⟨w9, h9⟩ : ∃ w9, w9 = (((((u9.setCell ⟨R, 0, none⟩ (.string ⟨#[109]⟩)).setCell ⟨R, 1, none⟩ (.int .i64 jk)).setCell ⟨R, 2, none⟩ (.int .i64 jn)).setCell ⟨R, 3, none⟩ (.string (str jt))).setCell ⟨R, 4, none⟩ (.slice ja1 jn1 jc1)).setCell ⟨R, 5, none⟩ (.slice ja2 jn2 jc2) := ⟨_, rfl⟩
 have rR9 := uh HR9
 have r9 : w9.heap[R]? = some (.cells #[.string ⟨#[109]⟩, .int .i64 jk, .int .i64 jn, .string (str jt), .slice ja1 jn1 jc1, .slice ja2 jn2 jc2] 85 (0, 0)) := by
  rw [h9]
  exact hS6 (hS6 (hS6 (hS6 (hS6 (hS6 rR9)))))
 have HBF : Hid (Below w.heap.size w w9) := by
  show Below _ _ _
  rw [h9]
  have q : w.heap.size ≤ R := by have := uh HRX; omega
  have bu := (uh HBW).trans ((uh HB9).mono (uh HBW).size)
  exact (((((bu.setCell q _).setCell q _).setCell q _).setCell q _).setCell q _).setCell q _
 obtain ⟨e0, e1, e2, e3, e4, e5⟩ := cells6 r9
 have k9 : ∀ k, k ≠ R → w9.heap[k]? = u9.heap[k]? := fun k hk => by rw [h9]; rw [Below.heap_setCell _ ⟨R, 5, none⟩ _ k hk]; rw [Below.heap_setCell _ ⟨R, 4, none⟩ _ k hk]; rw [Below.heap_setCell _ ⟨R, 3, none⟩ _ k hk]; rw [Below.heap_setCell _ ⟨R, 2, none⟩ _ k hk]; rw [Below.heap_setCell _ ⟨R, 1, none⟩ _ k hk]; rw [Below.heap_setCell _ ⟨R, 0, none⟩ _ k hk]
 have HJF := hide (show JV w9 (Nw w w9) _ _ from JV.keep (fun k hk => ⟨⟨by have := hk.1; have := (uh HBW).size; omega, by rw [h9]; simp only [siz1]; exact hk.2⟩, k9 k (by have := hk.1; have := uh HRX; have := uh HSW; omega)⟩) _ _ (uh HJ9))
 clear rR9 r9 k9
 rw [← h9]
 clear h9
 go_wp2_with fail
 refine ⟨rfl, _, by simp [results, Tryz.results70, go_sem, e0, e1, e2, e3, e4, e5]; rfl, ?_⟩
 exact ⟨_, _, _, _, _, rfl, HJF, HBF⟩
set_option maxHeartbeats 16000000 in
theorem lgV_any (x : Lg) (w : World) :
  Calls Tryz.prog 30 #[lgV x] w fun e w' => ∃ v, e = .returned v ∧ Hid (JV w' (Nw w w') v (lgJ x)) ∧ Hid (Below w.heap.size w w') := by
 unfold lgV
 obtain ⟨X, hX⟩ : ∃ X, X = w.heap.size := ⟨_, rfl⟩
 obtain ⟨R, hR⟩ : ∃ R, R = w.heap.size + 1 := ⟨_, rfl⟩
 obtain ⟨W, hW⟩ : ∃ W, W = (w.alloc (.cells #[.string (str x.c), .int .i64 x.id, .int .i64 x.m.k, .string (str x.m.i), .string (str x.m.n), .string (str x.m.t)] 28)).alloc (.cells #[.int .i64 0, .int .i64 0, .string ⟨#[]⟩, .slice none 0 0, .slice none 0 0] 44) := ⟨_, rfl⟩
 have bW : Below w.heap.size w W := by rw [hW]; exact below2 w _ _
 have rX : W.heap[X]? = some (.cells #[.string (str x.c), .int .i64 x.id, .int .i64 x.m.k, .string (str x.m.i), .string (str x.m.n), .string (str x.m.t)] 28 (0, 0)) := by
  rw [hW, hX, heap_alloc_old _ _ (by simp)]
  exact heap_alloc_new _ _
 have rR : W.heap[R]? = some (.cells #[.int .i64 0, .int .i64 0, .string ⟨#[]⟩, .slice none 0 0, .slice none 0 0] 44 (0, 0)) := by
  rw [hW, hR]
  exact heap_alloc2_new _ _ _
 have HRX : Hid (X = w.heap.size ∧ R = w.heap.size + 1) := ⟨hX, hR⟩
 have HRR := hide rR
 have HSW : Hid (W.heap.size = w.heap.size + 2) := by show _ = _; rw [hW]; simp
 have HRXX := hide rX
 have HBW := hide bW
 obtain ⟨p0, p1, p2, p3, p4, p5⟩ := cells6 rX
 clear bW rX rR
 have HS0 : Hid (∀ u, Below W.heap.size W u → (u.cell? ⟨X, 0, none⟩ = some (.string (str x.c)) ∧ u.cell? ⟨X, 1, none⟩ = some (.int .i64 x.id) ∧ u.cell? ⟨X, 2, none⟩ = some (.int .i64 x.m.k) ∧ u.cell? ⟨X, 3, none⟩ = some (.string (str x.m.i)) ∧ u.cell? ⟨X, 4, none⟩ = some (.string (str x.m.n)) ∧ u.cell? ⟨X, 5, none⟩ = some (.string (str x.m.t)))) := fun u hb => by
  obtain ⟨q0, q1, q2, q3, q4, q5⟩ := cells6 ((hb.block X (aI (uh HRXX)).1).trans (uh HRXX))
  exact ⟨q0, q1, q2, q3, q4, q5⟩
 have HTR : Hid (∀ u u', Hid (Below W.heap.size W u) → Hid (Below u.heap.size u u') → Hid (Below W.heap.size W u')) := fun u u' h h1 => (uh h).trans ((uh h1).mono (uh h).size)
 have HAB : Hid (∀ u ob, Hid (Below W.heap.size W u) → Hid (Below W.heap.size W (u.alloc ob))) := fun u ob h => (uh h).trans (((Below.refl _ _).alloc (Nat.le_refl _) ob).mono (uh h).size)
 have HTA : Hid (∀ u ob u', Hid (Below W.heap.size W u) → Hid (Below (u.alloc ob).heap.size (u.alloc ob) u') → Hid (Below W.heap.size W u')) := fun u ob u' h h1 => uh HTR _ _ (uh HAB u ob h) h1
 have HA0 : Hid (∀ u, Below W.heap.size W u → ∀ ob, ((u.alloc ob).cell? ⟨X, 0, none⟩ = some (.string (str x.c)) ∧ (u.alloc ob).cell? ⟨X, 1, none⟩ = some (.int .i64 x.id) ∧ (u.alloc ob).cell? ⟨X, 2, none⟩ = some (.int .i64 x.m.k) ∧ (u.alloc ob).cell? ⟨X, 3, none⟩ = some (.string (str x.m.i)) ∧ (u.alloc ob).cell? ⟨X, 4, none⟩ = some (.string (str x.m.n)) ∧ (u.alloc ob).cell? ⟨X, 5, none⟩ = some (.string (str x.m.t)))) := fun u hb ob => uh HS0 _ (uh (uh HAB u ob hb))
 have HS5 : Hid (∀ (u : World) (y0 y1 y2 y3 y4 : Value), (u.cell? ⟨X, 0, none⟩ = some (.string (str x.c)) ∧ u.cell? ⟨X, 1, none⟩ = some (.int .i64 x.id) ∧ u.cell? ⟨X, 2, none⟩ = some (.int .i64 x.m.k) ∧ u.cell? ⟨X, 3, none⟩ = some (.string (str x.m.i)) ∧ u.cell? ⟨X, 4, none⟩ = some (.string (str x.m.n)) ∧ u.cell? ⟨X, 5, none⟩ = some (.string (str x.m.t))) → ((((((u.setCell ⟨R, 0, none⟩ y0).setCell ⟨R, 1, none⟩ y1).setCell ⟨R, 2, none⟩ y2).setCell ⟨R, 3, none⟩ y3).setCell ⟨R, 4, none⟩ y4).cell? ⟨X, 0, none⟩ = some (.string (str x.c)) ∧ (((((u.setCell ⟨R, 0, none⟩ y0).setCell ⟨R, 1, none⟩ y1).setCell ⟨R, 2, none⟩ y2).setCell ⟨R, 3, none⟩ y3).setCell ⟨R, 4, none⟩ y4).cell? ⟨X, 1, none⟩ = some (.int .i64 x.id) ∧ (((((u.setCell ⟨R, 0, none⟩ y0).setCell ⟨R, 1, none⟩ y1).setCell ⟨R, 2, none⟩ y2).setCell ⟨R, 3, none⟩ y3).setCell ⟨R, 4, none⟩ y4).cell? ⟨X, 2, none⟩ = some (.int .i64 x.m.k) ∧ (((((u.setCell ⟨R, 0, none⟩ y0).setCell ⟨R, 1, none⟩ y1).setCell ⟨R, 2, none⟩ y2).setCell ⟨R, 3, none⟩ y3).setCell ⟨R, 4, none⟩ y4).cell? ⟨X, 3, none⟩ = some (.string (str x.m.i)) ∧ (((((u.setCell ⟨R, 0, none⟩ y0).setCell ⟨R, 1, none⟩ y1).setCell ⟨R, 2, none⟩ y2).setCell ⟨R, 3, none⟩ y3).setCell ⟨R, 4, none⟩ y4).cell? ⟨X, 4, none⟩ = some (.string (str x.m.n)) ∧ (((((u.setCell ⟨R, 0, none⟩ y0).setCell ⟨R, 1, none⟩ y1).setCell ⟨R, 2, none⟩ y2).setCell ⟨R, 3, none⟩ y3).setCell ⟨R, 4, none⟩ y4).cell? ⟨X, 5, none⟩ = some (.string (str x.m.t)))) := fun u y0 y1 y2 y3 y4 h => by
  have hXR : X ≠ R := by have := uh HRX; omega
  have e : (((((u.setCell ⟨R, 0, none⟩ y0).setCell ⟨R, 1, none⟩ y1).setCell ⟨R, 2, none⟩ y2).setCell ⟨R, 3, none⟩ y3).setCell ⟨R, 4, none⟩ y4).heap[X]? = u.heap[X]? := by rw [Below.heap_setCell _ ⟨R, 4, none⟩ _ X hXR]; rw [Below.heap_setCell _ ⟨R, 3, none⟩ _ X hXR]; rw [Below.heap_setCell _ ⟨R, 2, none⟩ _ X hXR]; rw [Below.heap_setCell _ ⟨R, 1, none⟩ _ X hXR]; rw [Below.heap_setCell _ ⟨R, 0, none⟩ _ X hXR]
  obtain ⟨q0, q1, q2, q3, q4, q5⟩ := h
  exact ⟨cell_keep e q0, cell_keep e q1, cell_keep e q2, cell_keep e q3, cell_keep e q4, cell_keep e q5⟩
 have HJM : Hid (∀ u u' v j, Hid (Below W.heap.size W u) → Hid (JV u' (Nw u u') v j) → Hid (∃ z, Below W.heap.size W z ∧ JV u' (Nw z u') v j)) := fun u u' v j hb hj => ⟨u, uh hb, uh hj⟩
 have HKJ : Hid (∀ u ob v j, Hid (Below W.heap.size W u) → Hid (∃ z, Below W.heap.size W z ∧ JV u (Nw z u) v j) → JV (u.alloc ob) (Nw W (u.alloc ob)) v j) := fun u ob v j hb hj => by
  obtain ⟨z, hz, hj⟩ := uh hj
  exact JV.keep (fun k hk => ⟨⟨Nat.le_trans hz.size hk.1, Nat.lt_of_lt_of_le hk.2 (by simp)⟩, heap_alloc_old _ _ hk.2⟩) _ _ hj
 have B0 : Hid (Below W.heap.size W W.drew) := Below.drew (Below.refl _ _)
 have s0 := uh HS0 W.drew (uh B0)
 go_enter Tryz.func30, Tryz.ntmps30
 go_upto_region 1 with fail
 rw [← hW, ← hR, ← hX]
 clear hW hR hX
 go_region_held3 (fun w' => w'.cell? ⟨X, 0, none⟩ = some (.string (str x.c)) ∧ w'.cell? ⟨X, 1, none⟩ = some (.int .i64 x.id) ∧ w'.cell? ⟨X, 2, none⟩ = some (.int .i64 x.m.k) ∧ w'.cell? ⟨X, 3, none⟩ = some (.string (str x.m.i)) ∧ w'.cell? ⟨X, 4, none⟩ = some (.string (str x.m.n)) ∧ w'.cell? ⟨X, 5, none⟩ = some (.string (str x.m.t))) (first | with_reducible exact aS | with_reducible exact s1 | with_reducible exact a1 _ | with_reducible exact s0) ((first
  | (go_at_call 57; refine (textM_any _ _ _).mono ?_; rintro e u1 ⟨rfl, h1⟩; have B1 := uh HTR _ _ ‹Hid (Below W.heap.size W _)› h1; have s1 := uh HS0 _ (uh B1); have a1 := uh HA0 _ (uh B1))
  | (go_at_call 69; refine (idM_any x _).mono ?_; rintro e u1 ⟨rfl, h1⟩; have B1 := uh HTR _ _ ‹Hid (Below W.heap.size W _)› h1; have s1 := uh HS0 _ (uh B1); have a1 := uh HA0 _ (uh B1))
  | (go_at_call 70; refine (mutM_any x _).mono ?_; rintro e u1 ⟨mv0, mv1, mv2, mv3, mv4, rfl, hjm0, h1⟩; have hjm := uh HJM _ _ _ _ ‹Hid (Below W.heap.size W _)› hjm0; obtain ⟨mk, mn, mt, ma1, mn1, mc1, ma2, mn2, mc2, hmf⟩ := (uh hjm0).form; simp only [Value.agg.injEq, Array.mk.injEq, List.cons.injEq, and_true] at hmf; obtain ⟨rfl, rfl, rfl, rfl, rfl⟩ := hmf; have B1 := uh HTR _ _ ‹Hid (Below W.heap.size W _)› h1; have s1 := uh HS0 _ (uh B1); have a1 := uh HA0 _ (uh B1))
  | (go_at_call 60; refine (of_nw [tMm [99, 108, 105, 101, 110, 116] x.c, nMm [105, 100] x.id, ⟨[109], .int .i64 mk, .int .i64 mn, .string (str mt), .slice ma1 mn1 mc1, .slice ma2 mn2 mc2, muJ x.m⟩] 3 _ 3 rfl _ (heap_alloc_new _ _) W (by exact (uh (uh HAB _ _ ‹Hid (Below W.heap.size W _)›)).size) (fun m hm => by simp at hm; rcases hm with rfl | rfl | rfl <;> first | exact nMm_ok _ _ _ _ | exact tMm_ok _ _ _ _ | exact ⟨uh HKJ _ _ _ _ ‹Hid (Below W.heap.size W _)› hjm, by simp [Mm.vs, Value.oneCell']⟩) (by simp)).mono ?_; rintro e u9 ⟨v, rfl, hj, h1⟩; obtain ⟨jk, jn, jt, ja1, jn1, jc1, ja2, jn2, jc2, rfl⟩ := (uh hj).form; have B9 := uh HTA _ _ _ ‹Hid (Below W.heap.size W _)› h1; have s1 := uh HS0 _ (uh B9); have rR9 := ((uh B9).block R (aI (uh HRR)).1).trans (uh HRR); obtain ⟨y0, y1, y2, y3, y4⟩ := cells5 rR9; have z0 := frozen_of_row u9 R 0 _ _ rR9; have z1 := frozen_of_row u9 R 1 _ _ rR9; have z2 := frozen_of_row u9 R 2 _ _ rR9; have z3 := frozen_of_row u9 R 3 _ _ rR9; have z4 := frozen_of_row u9 R 4 _ _ rR9; have HR9 := hide rR9; have HJ9 := hide hj; have HB9 := B9; have aS := uh HS5 u9 (.int .i64 jk) (.int .i64 jn) (.string (str jt)) (.slice ja1 jn1 jc1) (.slice ja2 jn2 jc2) s1; clear rR9)))
 obtain ⟨w9, h9⟩ : ∃ w9, w9 = ((((u9.setCell ⟨R, 0, none⟩ (.int .i64 jk)).setCell ⟨R, 1, none⟩ (.int .i64 jn)).setCell ⟨R, 2, none⟩ (.string (str jt))).setCell ⟨R, 3, none⟩ (.slice ja1 jn1 jc1)).setCell ⟨R, 4, none⟩ (.slice ja2 jn2 jc2) := ⟨_, rfl⟩
 have rR9 := uh HR9
 have r9 : w9.heap[R]? = some (.cells #[.int .i64 jk, .int .i64 jn, .string (str jt), .slice ja1 jn1 jc1, .slice ja2 jn2 jc2] 44 (0, 0)) := by
  rw [h9]
  exact hS6 (hS6 (hS6 (hS6 (hS6 rR9))))
 have HBF : Hid (Below w.heap.size w w9) := by
  show Below _ _ _
  rw [h9]
  have q : w.heap.size ≤ R := by have := uh HRX; omega
  have bu := (uh HBW).trans ((uh HB9).mono (uh HBW).size)
  exact ((((bu.setCell q _).setCell q _).setCell q _).setCell q _).setCell q _
 obtain ⟨e0, e1, e2, e3, e4⟩ := cells5 r9
 have k9 : ∀ k, k ≠ R → w9.heap[k]? = u9.heap[k]? := fun k hk => by rw [h9]; rw [Below.heap_setCell _ ⟨R, 4, none⟩ _ k hk]; rw [Below.heap_setCell _ ⟨R, 3, none⟩ _ k hk]; rw [Below.heap_setCell _ ⟨R, 2, none⟩ _ k hk]; rw [Below.heap_setCell _ ⟨R, 1, none⟩ _ k hk]; rw [Below.heap_setCell _ ⟨R, 0, none⟩ _ k hk]
 have HJF := hide (show JV w9 (Nw w w9) _ _ from JV.keep (fun k hk => ⟨⟨by have := hk.1; have := (uh HBW).size; omega, by rw [h9]; simp only [siz1]; exact hk.2⟩, k9 k (by have := hk.1; have := uh HRX; have := uh HSW; omega)⟩) _ _ (uh HJ9))
 clear rR9 r9 k9
 rw [← h9]
 clear h9
 go_wp2_with fail
 refine ⟨rfl, _, by simp [results, Tryz.results30, go_sem, e0, e1, e2, e3, e4]; rfl, ?_⟩
 exact ⟨_, rfl, HJF, HBF⟩
set_option maxHeartbeats 16000000 in
theorem nuV_any (x : Lg) (w : World) :
  Calls Tryz.prog 63 #[lgV x] w fun e w' => ∃ v, e = .returned v ∧ Hid (JV w' (Nw w w') v (nuJ x)) ∧ Hid (Below w.heap.size w w') := by
 unfold lgV
 obtain ⟨X, hX⟩ : ∃ X, X = w.heap.size := ⟨_, rfl⟩
 obtain ⟨R, hR⟩ : ∃ R, R = w.heap.size + 1 := ⟨_, rfl⟩
 obtain ⟨W, hW⟩ : ∃ W, W = (w.alloc (.cells #[.string (str x.c), .int .i64 x.id, .int .i64 x.m.k, .string (str x.m.i), .string (str x.m.n), .string (str x.m.t)] 28)).alloc (.cells #[.int .i64 0, .int .i64 0, .string ⟨#[]⟩, .slice none 0 0, .slice none 0 0] 44) := ⟨_, rfl⟩
 have bW : Below w.heap.size w W := by rw [hW]; exact below2 w _ _
 have rX : W.heap[X]? = some (.cells #[.string (str x.c), .int .i64 x.id, .int .i64 x.m.k, .string (str x.m.i), .string (str x.m.n), .string (str x.m.t)] 28 (0, 0)) := by
  rw [hW, hX, heap_alloc_old _ _ (by simp)]
  exact heap_alloc_new _ _
 have rR : W.heap[R]? = some (.cells #[.int .i64 0, .int .i64 0, .string ⟨#[]⟩, .slice none 0 0, .slice none 0 0] 44 (0, 0)) := by
  rw [hW, hR]
  exact heap_alloc2_new _ _ _
 have HRX : Hid (X = w.heap.size ∧ R = w.heap.size + 1) := ⟨hX, hR⟩
 have HRR := hide rR
 have HSW : Hid (W.heap.size = w.heap.size + 2) := by show _ = _; rw [hW]; simp
 have HRXX := hide rX
 have HBW := hide bW
 obtain ⟨p0, p1, p2, p3, p4, p5⟩ := cells6 rX
 clear bW rX rR
 have HS0 : Hid (∀ u, Below W.heap.size W u → (u.cell? ⟨X, 0, none⟩ = some (.string (str x.c)) ∧ u.cell? ⟨X, 1, none⟩ = some (.int .i64 x.id) ∧ u.cell? ⟨X, 2, none⟩ = some (.int .i64 x.m.k) ∧ u.cell? ⟨X, 3, none⟩ = some (.string (str x.m.i)) ∧ u.cell? ⟨X, 4, none⟩ = some (.string (str x.m.n)) ∧ u.cell? ⟨X, 5, none⟩ = some (.string (str x.m.t)))) := fun u hb => by
  obtain ⟨q0, q1, q2, q3, q4, q5⟩ := cells6 ((hb.block X (aI (uh HRXX)).1).trans (uh HRXX))
  exact ⟨q0, q1, q2, q3, q4, q5⟩
 have HTR : Hid (∀ u u', Hid (Below W.heap.size W u) → Hid (Below u.heap.size u u') → Hid (Below W.heap.size W u')) := fun u u' h h1 => (uh h).trans ((uh h1).mono (uh h).size)
 have HAB : Hid (∀ u ob, Hid (Below W.heap.size W u) → Hid (Below W.heap.size W (u.alloc ob))) := fun u ob h => (uh h).trans (((Below.refl _ _).alloc (Nat.le_refl _) ob).mono (uh h).size)
 have HTA : Hid (∀ u ob u', Hid (Below W.heap.size W u) → Hid (Below (u.alloc ob).heap.size (u.alloc ob) u') → Hid (Below W.heap.size W u')) := fun u ob u' h h1 => uh HTR _ _ (uh HAB u ob h) h1
 have HA0 : Hid (∀ u, Below W.heap.size W u → ∀ ob, ((u.alloc ob).cell? ⟨X, 0, none⟩ = some (.string (str x.c)) ∧ (u.alloc ob).cell? ⟨X, 1, none⟩ = some (.int .i64 x.id) ∧ (u.alloc ob).cell? ⟨X, 2, none⟩ = some (.int .i64 x.m.k) ∧ (u.alloc ob).cell? ⟨X, 3, none⟩ = some (.string (str x.m.i)) ∧ (u.alloc ob).cell? ⟨X, 4, none⟩ = some (.string (str x.m.n)) ∧ (u.alloc ob).cell? ⟨X, 5, none⟩ = some (.string (str x.m.t)))) := fun u hb ob => uh HS0 _ (uh (uh HAB u ob hb))
 have HS5 : Hid (∀ (u : World) (y0 y1 y2 y3 y4 : Value), (u.cell? ⟨X, 0, none⟩ = some (.string (str x.c)) ∧ u.cell? ⟨X, 1, none⟩ = some (.int .i64 x.id) ∧ u.cell? ⟨X, 2, none⟩ = some (.int .i64 x.m.k) ∧ u.cell? ⟨X, 3, none⟩ = some (.string (str x.m.i)) ∧ u.cell? ⟨X, 4, none⟩ = some (.string (str x.m.n)) ∧ u.cell? ⟨X, 5, none⟩ = some (.string (str x.m.t))) → ((((((u.setCell ⟨R, 0, none⟩ y0).setCell ⟨R, 1, none⟩ y1).setCell ⟨R, 2, none⟩ y2).setCell ⟨R, 3, none⟩ y3).setCell ⟨R, 4, none⟩ y4).cell? ⟨X, 0, none⟩ = some (.string (str x.c)) ∧ (((((u.setCell ⟨R, 0, none⟩ y0).setCell ⟨R, 1, none⟩ y1).setCell ⟨R, 2, none⟩ y2).setCell ⟨R, 3, none⟩ y3).setCell ⟨R, 4, none⟩ y4).cell? ⟨X, 1, none⟩ = some (.int .i64 x.id) ∧ (((((u.setCell ⟨R, 0, none⟩ y0).setCell ⟨R, 1, none⟩ y1).setCell ⟨R, 2, none⟩ y2).setCell ⟨R, 3, none⟩ y3).setCell ⟨R, 4, none⟩ y4).cell? ⟨X, 2, none⟩ = some (.int .i64 x.m.k) ∧ (((((u.setCell ⟨R, 0, none⟩ y0).setCell ⟨R, 1, none⟩ y1).setCell ⟨R, 2, none⟩ y2).setCell ⟨R, 3, none⟩ y3).setCell ⟨R, 4, none⟩ y4).cell? ⟨X, 3, none⟩ = some (.string (str x.m.i)) ∧ (((((u.setCell ⟨R, 0, none⟩ y0).setCell ⟨R, 1, none⟩ y1).setCell ⟨R, 2, none⟩ y2).setCell ⟨R, 3, none⟩ y3).setCell ⟨R, 4, none⟩ y4).cell? ⟨X, 4, none⟩ = some (.string (str x.m.n)) ∧ (((((u.setCell ⟨R, 0, none⟩ y0).setCell ⟨R, 1, none⟩ y1).setCell ⟨R, 2, none⟩ y2).setCell ⟨R, 3, none⟩ y3).setCell ⟨R, 4, none⟩ y4).cell? ⟨X, 5, none⟩ = some (.string (str x.m.t)))) := fun u y0 y1 y2 y3 y4 h => by
  have hXR : X ≠ R := by have := uh HRX; omega
  have e : (((((u.setCell ⟨R, 0, none⟩ y0).setCell ⟨R, 1, none⟩ y1).setCell ⟨R, 2, none⟩ y2).setCell ⟨R, 3, none⟩ y3).setCell ⟨R, 4, none⟩ y4).heap[X]? = u.heap[X]? := by rw [Below.heap_setCell _ ⟨R, 4, none⟩ _ X hXR]; rw [Below.heap_setCell _ ⟨R, 3, none⟩ _ X hXR]; rw [Below.heap_setCell _ ⟨R, 2, none⟩ _ X hXR]; rw [Below.heap_setCell _ ⟨R, 1, none⟩ _ X hXR]; rw [Below.heap_setCell _ ⟨R, 0, none⟩ _ X hXR]
  obtain ⟨q0, q1, q2, q3, q4, q5⟩ := h
  exact ⟨cell_keep e q0, cell_keep e q1, cell_keep e q2, cell_keep e q3, cell_keep e q4, cell_keep e q5⟩
 have HJM : Hid (∀ u u' v j, Hid (Below W.heap.size W u) → Hid (JV u' (Nw u u') v j) → Hid (∃ z, Below W.heap.size W z ∧ JV u' (Nw z u') v j)) := fun u u' v j hb hj => ⟨u, uh hb, uh hj⟩
 have HKJ : Hid (∀ u ob v j, Hid (Below W.heap.size W u) → Hid (∃ z, Below W.heap.size W z ∧ JV u (Nw z u) v j) → JV (u.alloc ob) (Nw W (u.alloc ob)) v j) := fun u ob v j hb hj => by
  obtain ⟨z, hz, hj⟩ := uh hj
  exact JV.keep (fun k hk => ⟨⟨Nat.le_trans hz.size hk.1, Nat.lt_of_lt_of_le hk.2 (by simp)⟩, heap_alloc_old _ _ hk.2⟩) _ _ hj
 have B0 : Hid (Below W.heap.size W W.drew) := Below.drew (Below.refl _ _)
 have s0 := uh HS0 W.drew (uh B0)
 go_enter Tryz.func63, Tryz.ntmps63
 go_upto_region 1 with fail
 rw [← hW, ← hR, ← hX]
 clear hW hR hX
 go_region_held3 (fun w' => w'.cell? ⟨X, 0, none⟩ = some (.string (str x.c)) ∧ w'.cell? ⟨X, 1, none⟩ = some (.int .i64 x.id) ∧ w'.cell? ⟨X, 2, none⟩ = some (.int .i64 x.m.k) ∧ w'.cell? ⟨X, 3, none⟩ = some (.string (str x.m.i)) ∧ w'.cell? ⟨X, 4, none⟩ = some (.string (str x.m.n)) ∧ w'.cell? ⟨X, 5, none⟩ = some (.string (str x.m.t))) (first | with_reducible exact aS | with_reducible exact s1 | with_reducible exact a1 _ | with_reducible exact s0) ((first
  | (go_at_call 69; refine (idM_any x _).mono ?_; rintro e u1 ⟨rfl, h1⟩; have B1 := uh HTR _ _ ‹Hid (Below W.heap.size W _)› h1; have s1 := uh HS0 _ (uh B1); have a1 := uh HA0 _ (uh B1))
  | (go_at_call 70; refine (mutM_any x _).mono ?_; rintro e u1 ⟨mv0, mv1, mv2, mv3, mv4, rfl, hjm0, h1⟩; have hjm := uh HJM _ _ _ _ ‹Hid (Below W.heap.size W _)› hjm0; obtain ⟨mk, mn, mt, ma1, mn1, mc1, ma2, mn2, mc2, hmf⟩ := (uh hjm0).form; simp only [Value.agg.injEq, Array.mk.injEq, List.cons.injEq, and_true] at hmf; obtain ⟨rfl, rfl, rfl, rfl, rfl⟩ := hmf; have B1 := uh HTR _ _ ‹Hid (Below W.heap.size W _)› h1; have s1 := uh HS0 _ (uh B1); have a1 := uh HA0 _ (uh B1))
  | (go_at_call 60; refine (of_nw [nMm [105, 100] x.id, ⟨[109], .int .i64 mk, .int .i64 mn, .string (str mt), .slice ma1 mn1 mc1, .slice ma2 mn2 mc2, muJ x.m⟩] 2 _ 2 rfl _ (heap_alloc_new _ _) W (by exact (uh (uh HAB _ _ ‹Hid (Below W.heap.size W _)›)).size) (fun m hm => by simp at hm; rcases hm with rfl | rfl <;> first | exact nMm_ok _ _ _ _ | exact tMm_ok _ _ _ _ | exact ⟨uh HKJ _ _ _ _ ‹Hid (Below W.heap.size W _)› hjm, by simp [Mm.vs, Value.oneCell']⟩) (by simp)).mono ?_; rintro e u9 ⟨v, rfl, hj, h1⟩; obtain ⟨jk, jn, jt, ja1, jn1, jc1, ja2, jn2, jc2, rfl⟩ := (uh hj).form; have B9 := uh HTA _ _ _ ‹Hid (Below W.heap.size W _)› h1; have s1 := uh HS0 _ (uh B9); have rR9 := ((uh B9).block R (aI (uh HRR)).1).trans (uh HRR); obtain ⟨y0, y1, y2, y3, y4⟩ := cells5 rR9; have z0 := frozen_of_row u9 R 0 _ _ rR9; have z1 := frozen_of_row u9 R 1 _ _ rR9; have z2 := frozen_of_row u9 R 2 _ _ rR9; have z3 := frozen_of_row u9 R 3 _ _ rR9; have z4 := frozen_of_row u9 R 4 _ _ rR9; have HR9 := hide rR9; have HJ9 := hide hj; have HB9 := B9; have aS := uh HS5 u9 (.int .i64 jk) (.int .i64 jn) (.string (str jt)) (.slice ja1 jn1 jc1) (.slice ja2 jn2 jc2) s1; clear rR9)))
 obtain ⟨w9, h9⟩ : ∃ w9, w9 = ((((u9.setCell ⟨R, 0, none⟩ (.int .i64 jk)).setCell ⟨R, 1, none⟩ (.int .i64 jn)).setCell ⟨R, 2, none⟩ (.string (str jt))).setCell ⟨R, 3, none⟩ (.slice ja1 jn1 jc1)).setCell ⟨R, 4, none⟩ (.slice ja2 jn2 jc2) := ⟨_, rfl⟩
 have rR9 := uh HR9
 have r9 : w9.heap[R]? = some (.cells #[.int .i64 jk, .int .i64 jn, .string (str jt), .slice ja1 jn1 jc1, .slice ja2 jn2 jc2] 44 (0, 0)) := by
  rw [h9]
  exact hS6 (hS6 (hS6 (hS6 (hS6 rR9))))
 have HBF : Hid (Below w.heap.size w w9) := by
  show Below _ _ _
  rw [h9]
  have q : w.heap.size ≤ R := by have := uh HRX; omega
  have bu := (uh HBW).trans ((uh HB9).mono (uh HBW).size)
  exact ((((bu.setCell q _).setCell q _).setCell q _).setCell q _).setCell q _
 obtain ⟨e0, e1, e2, e3, e4⟩ := cells5 r9
 have k9 : ∀ k, k ≠ R → w9.heap[k]? = u9.heap[k]? := fun k hk => by rw [h9]; rw [Below.heap_setCell _ ⟨R, 4, none⟩ _ k hk]; rw [Below.heap_setCell _ ⟨R, 3, none⟩ _ k hk]; rw [Below.heap_setCell _ ⟨R, 2, none⟩ _ k hk]; rw [Below.heap_setCell _ ⟨R, 1, none⟩ _ k hk]; rw [Below.heap_setCell _ ⟨R, 0, none⟩ _ k hk]
 have HJF := hide (show JV w9 (Nw w w9) _ _ from JV.keep (fun k hk => ⟨⟨by have := hk.1; have := (uh HBW).size; omega, by rw [h9]; simp only [siz1]; exact hk.2⟩, k9 k (by have := hk.1; have := uh HRX; have := uh HSW; omega)⟩) _ _ (uh HJ9))
 clear rR9 r9 k9
 rw [← h9]
 clear h9
 go_wp2_with fail
 refine ⟨rfl, _, by simp [results, Tryz.results63, go_sem, e0, e1, e2, e3, e4]; rfl, ?_⟩
 exact ⟨_, rfl, HJF, HBF⟩
end Go.Proofs.YtmpjeahibfdehaaGreatDoor
end
section
set_option linter.unusedVariables false
set_option maxRecDepth 1000000
namespace Go.Proofs.YtmpjeahibfdehaaGreatDoor
open Go.RowKit

def tyM (k : Int) : List UInt8 := if k = 1 then [112, 117, 115, 104] else if k = 2 then [112, 117, 115, 104, 101, 100] else if k = 3 then [112, 117, 108, 108] else if k = 4 then [112, 97, 116, 99, 104] else [112, 111, 107, 101]
def kdM (t : List UInt8) : Int := if tyM 1 = t then 1 else if tyM 2 = t then 2 else if tyM 3 = t then 3 else if tyM 4 = t then 4 else if tyM 5 = t then 5 else 0
theorem kd_at {t : List UInt8} {i : Int} (h1 : 1 ≤ i) (h5 : i ≤ 5) (h : tyM i = t) (hb : ∀ k : Int, 1 ≤ k → k < i → tyM k ≠ t) : kdM t = i := by
 unfold kdM
 rcases (show i = 1 ∨ i = 2 ∨ i = 3 ∨ i = 4 ∨ i = 5 by omega) with rfl | rfl | rfl | rfl | rfl
 ·rw [if_pos h]
 ·rw [if_neg (hb 1 (by omega) (by omega)), if_pos h]
 ·rw [if_neg (hb 1 (by omega) (by omega)), if_neg (hb 2 (by omega) (by omega)), if_pos h]
 ·rw [if_neg (hb 1 (by omega) (by omega)), if_neg (hb 2 (by omega) (by omega)), if_neg (hb 3 (by omega) (by omega)), if_pos h]
 ·rw [if_neg (hb 1 (by omega) (by omega)), if_neg (hb 2 (by omega) (by omega)), if_neg (hb 3 (by omega) (by omega)), if_neg (hb 4 (by omega) (by omega)), if_pos h]
theorem kd_no {t : List UInt8} (hb : ∀ k : Int, 1 ≤ k → k < 6 → tyM k ≠ t) : kdM t = 0 := by
 unfold kdM
 rw [if_neg (hb 1 (by omega) (by omega)), if_neg (hb 2 (by omega) (by omega)), if_neg (hb 3 (by omega) (by omega)), if_neg (hb 4 (by omega) (by omega)), if_neg (hb 5 (by omega) (by omega))]
set_option maxHeartbeats 2000000 in
theorem typeOf_any (k : Int) (w : World) :
  Calls Tryz.prog 58 #[.int .i64 k] w fun e w' => e = .returned (.string (str (tyM k))) ∧ w' = w := by
 by_cases h1 : k = 1
 ·have HE : Hid (tyM k = [112, 117, 115, 104]) := by show _ = _; rw [h1]; rfl
  have q1 : (k == 1) = true := by rw [beq_iff_eq]; omega
  clear h1
  go_enter Tryz.func58, Tryz.ntmps58
  go_wp2_with fail
  go_ret
  exact ⟨by rw [uh HE]; try rfl, rfl⟩
 by_cases h2 : k = 2
 ·have HE : Hid (tyM k = [112, 117, 115, 104, 101, 100]) := by show _ = _; rw [h2]; rfl
  have q1 : (k == 1) = false := by rw [beq_eq_false_iff_ne]; omega
  have q2 : (k == 2) = true := by rw [beq_iff_eq]; omega
  clear h2 h1
  go_enter Tryz.func58, Tryz.ntmps58
  go_wp2_with fail
  go_ret
  exact ⟨by rw [uh HE]; try rfl, rfl⟩
 by_cases h3 : k = 3
 ·have HE : Hid (tyM k = [112, 117, 108, 108]) := by show _ = _; rw [h3]; rfl
  have q1 : (k == 1) = false := by rw [beq_eq_false_iff_ne]; omega
  have q2 : (k == 2) = false := by rw [beq_eq_false_iff_ne]; omega
  have q3 : (k == 3) = true := by rw [beq_iff_eq]; omega
  clear h3 h2 h1
  go_enter Tryz.func58, Tryz.ntmps58
  go_wp2_with fail
  go_ret
  exact ⟨by rw [uh HE]; try rfl, rfl⟩
 by_cases h4 : k = 4
 ·have HE : Hid (tyM k = [112, 97, 116, 99, 104]) := by show _ = _; rw [h4]; rfl
  have q1 : (k == 1) = false := by rw [beq_eq_false_iff_ne]; omega
  have q2 : (k == 2) = false := by rw [beq_eq_false_iff_ne]; omega
  have q3 : (k == 3) = false := by rw [beq_eq_false_iff_ne]; omega
  have q4 : (k == 4) = true := by rw [beq_iff_eq]; omega
  clear h4 h3 h2 h1
  go_enter Tryz.func58, Tryz.ntmps58
  go_wp2_with fail
  go_ret
  exact ⟨by rw [uh HE]; try rfl, rfl⟩
 have q1 : (k == 1) = false := by rw [beq_eq_false_iff_ne]; omega
 have q2 : (k == 2) = false := by rw [beq_eq_false_iff_ne]; omega
 have q3 : (k == 3) = false := by rw [beq_eq_false_iff_ne]; omega
 have q4 : (k == 4) = false := by rw [beq_eq_false_iff_ne]; omega
 have HE : Hid (tyM k = [112, 111, 107, 101]) := by show _ = _; unfold tyM; rw [if_neg h1, if_neg h2, if_neg h3, if_neg h4]
 clear h1 h2 h3 h4
 go_enter Tryz.func58, Tryz.ntmps58
 go_wp2_with fail
 go_ret
 exact ⟨by rw [uh HE]; try rfl, rfl⟩
set_option maxHeartbeats 4000000 in
theorem kindOf_any (t : List UInt8) (w : World) :
  Calls Tryz.prog 64 #[.string (str t)] w fun e w' => e = .returned (.int .i64 (kdM t)) ∧ w' = w := by
 obtain ⟨R, hR⟩ : ∃ R, R = kdM t := ⟨_, rfl⟩
 rw [← hR]
 have HR := hide hR
 clear hR
 have HT : Hid (∀ (k : Int) (u : World), Calls Tryz.prog 58 #[.int .i64 k] u fun e w' => e = .returned (.string (str (tyM k))) ∧ w' = u) := fun k u => typeOf_any k u
 go_enter Tryz.func64, Tryz.ntmps64
 go_wp2_with fail
 go_loopw [3] (fun v wr => ∃ i : Nat, 1 ≤ i ∧ i ≤ 6 ∧ v = .int .i64 (i : Int) ∧ Hid (∀ k : Int, 1 ≤ k → k < i → tyM k ≠ t) ∧ wr = w) (fun v _ => 6 - (intOf v).toNat)
 case atStart => exact ⟨1, by omega, by omega, rfl, fun k h1 h2 => absurd h2 (by omega), rfl⟩
 case round =>
  obtain ⟨i, hi1, hi6, rfl, HB, rfl⟩ := hrel
  by_cases hlt : i ≤ 5
  ·have hlt' : (i : Int) ≤ (5 : Int) := by omega
   have HT1 := hide (uh HT (i : Int) wr)
   have HF : Hid (tyM (i : Int) = t → R = (i : Int)) := fun h => by rw [uh HR]; exact kd_at (by omega) hlt' h (uh HB)
   have e0 : ((str (tyM (i : Int))).toList == (str t).toList) = decide (tyM (i : Int) = t) := by rw [toList_str, toList_str, Bool.eq_iff_iff]; simp
   have HB1 : Hid (tyM (i : Int) ≠ t → ∀ k : Int, 1 ≤ k → k < ((i + 1 : Nat) : Int) → tyM k ≠ t) := fun h k h1 h2 => by
    by_cases hk : k = (i : Int)
    ·rw [hk]; exact h
    ·exact uh HB k h1 (by omega)
   generalize tyM (i : Int) = s at e0 HT1 HF HB1
   clear HT HB
   by_cases hs : s = t
   ·have HE := hide (uh HF hs)
    rw [decide_eq_true hs] at e0
    clear HF HB1 hs
    go_wp2_with fail
    refine (uh HT1).mono ?_
    rintro e w1 ⟨rfl, rfl⟩
    clear HT1
    go_wp2_with fail
    go_ret
    exact ⟨by rw [uh HE]; rfl, rfl⟩
   ·have HE := hide (uh HB1 hs)
    rw [decide_eq_false hs] at e0
    clear HF HB1 hs
    go_wp2_with fail
    refine (uh HT1).mono ?_
    rintro e w1 ⟨rfl, rfl⟩
    clear HT1
    go_wp2_with fail
    go_round
    case rel => exact ⟨i + 1, by omega, by omega, by go_num, HE, by trivial⟩
    case measure => simp [intOf]; omega
  ·have hlt' : ¬ (i : Int) ≤ (5 : Int) := by omega
   have HE : Hid (R = 0) := by show _ = _; rw [uh HR]; exact kd_no (fun k h1 h2 => uh HB k h1 (by omega))
   clear HT HB HR
   go_wp2_with fail
   go_ret
   exact ⟨by rw [uh HE]; try rfl, rfl⟩
def lgC (x : Lg) : List Value := [.string (str x.c), .int .i64 x.id, .int .i64 x.m.k, .string (str x.m.i), .string (str x.m.n), .string (str x.m.t)]
/-- A row of logged mutations in memory. -/
def LRow (w : World) (a : Option Addr) (n : Nat) (l : List Lg) : Prop := n = l.length ∧ (l ≠ [] → ∃ b off, a = some ⟨b, off, none⟩ ∧ b < w.heap.size ∧ ∀ i x, l[i]? = some x → ∀ r v, (lgC x)[r]? = some v → w.cell? ⟨b, off + i * 6 + r, none⟩ = some v)
theorem LRow.below {w w' : World} {a : Option Addr} {n : Nat} {l : List Lg} (h : LRow w a n l) (hb : Below w.heap.size w w') : LRow w' a n l := by
 refine ⟨h.1, fun hne => ?_⟩
 obtain ⟨b, off, e, hlt, hc⟩ := h.2 hne
 exact ⟨b, off, e, Nat.lt_of_lt_of_le hlt hb.size, fun i x hx r v hv => cell_keep (hb.block b hlt) (hc i x hx r v hv)⟩
/-- The values of the first q. -/
def EaI (w : World) (J : Lg → Js) (l : List Lg) (q : Nat) (wr : World) (a2 : Option Addr) (c2 : Nat) (xs : List Value) : Prop :=
 wr.ownsRow w.heap.size 44 5 (.slice a2 q c2) q xs ∧ (∀ i x, i < q → l[i]? = some x → ∃ v, At5 xs i v ∧ JV wr (fun k => Nw w wr k ∧ blk a2 ≠ some k) v (J x)) ∧ Below w.heap.size w wr
/-- A row of values that were made since W. -/
def JsR (W w : World) (a : Option Addr) (n c : Nat) (is : List Js) : Prop := n = is.length ∧ n ≤ c ∧ c ≤ maxLen ∧ (a = none → c = 0) ∧ JVs w (Nw W w) a 0 is
theorem EaI.done {w wr : World} {J : Lg → Js} {l : List Lg} {a2 : Option Addr} {c2 : Nat} {xs : List Value} (h : EaI w J l l.length wr a2 c2 xs) : JsR w wr a2 l.length c2 (l.map J) := by
 obtain ⟨h2, hel, hb⟩ := h
 obtain ⟨u1, u2, u3⟩ := owns_cap h2
 refine ⟨by simp, u1, u2, u3, (jvs_iff _ _ _ _ _).2 (fun i j hj => ?_)⟩
 rw [List.getElem?_map] at hj
 cases hx : l[i]? with
 | none => rw [hx] at hj; cases hj
 | some x =>
  rw [hx] at hj
  obtain rfl := Option.some.inj hj
  have hi := (List.getElem?_eq_some_iff.1 hx).1
  obtain ⟨v, ⟨v0, v1, v2, v3, v4, rfl, q0, q1, q2, q3, q4⟩, hv⟩ := hel i x hi hx
  rcases owns_cases h2 with ⟨_, _, h3, _⟩ | ⟨g, cur, rfl, hb2, hg, hle, hm2, hs2, ht, hl⟩
  ·omega
  ·refine ⟨g, 0, v0, v1, v2, v3, v4, rfl, ⟨hb2, (aI hg).1⟩, ?_, ?_, ?_, ?_, ?_, ?_⟩
   ·rw [Nat.zero_add, Nat.zero_add]; exact (owns_cell h2 (i * 5) _ q0).1
   ·rw [Nat.zero_add, Nat.zero_add]; exact (owns_cell h2 (i * 5 + 1) _ q1).1
   ·rw [Nat.zero_add, Nat.zero_add]; exact (owns_cell h2 (i * 5 + 2) _ q2).1
   ·rw [Nat.zero_add, Nat.zero_add]; exact (owns_cell h2 (i * 5 + 3) _ q3).1
   ·rw [Nat.zero_add, Nat.zero_add]; exact (owns_cell h2 (i * 5 + 4) _ q4).1
   ·exact JV.keep (fun k hk => ⟨hk.1, rfl⟩) _ _ hv
theorem EaI.step {w wr W5 u U w' : World} {J : Lg → Js} {l : List Lg} {q : Nat} {a2 : Option Addr} {c2 : Nat} {xs : List Value} {x : Lg} {v0 v1 v2 v3 v4 : Value} {g cap : Nat} (h : EaI w J l q wr a2 c2 xs) (hx : l[q]? = some x) (b5 : Below wr.heap.size wr W5) (bu : Below W5.heap.size W5 u) (hj : JV u (Nw W5 u) (.agg #[v0, v1, v2, v3, v4]) (J x)) (eU : U = u.alloc (.cells #[v0, v1, v2, v3, v4] 44))
  (ho : w'.ownsRow w.heap.size 44 5 (.slice (some ⟨g, 0, none⟩) (q + 1) cap) (q + 1) (xs ++ [v0, v1, v2, v3, v4])) (hg : U.grownBy w' (blk a2)) (hat : blk a2 = some g ∨ g = U.heap.size) : EaI w J l (q + 1) w' (some ⟨g, 0, none⟩) cap (xs ++ [v0, v1, v2, v3, v4]) := by
 obtain ⟨h2, hel, hb⟩ := h
 have bU : Below u.heap.size u U := by rw [eU]; exact bA _
 have s1 := b5.size
 have s2 := bu.size
 have s3 := bU.size
 have s4 := hg.size
 have hxl : xs.length = q * 5 := h2.1
 have l2 : ∀ k, blk a2 = some k → w.heap.size ≤ k ∧ k < wr.heap.size := fun k hk => owns_lt h2 k hk
 have old : ∀ k, k < u.heap.size → blk a2 ≠ some k → w'.heap[k]? = u.heap[k]? := fun k hk hn => (hg.block k (by omega) (fun e => hn e.symm)).trans (bU.block k hk)
 have old2 : ∀ k, k < wr.heap.size → blk a2 ≠ some k → w'.heap[k]? = wr.heap[k]? := fun k hk hn => (old k (by omega) hn).trans ((bu.block k (by omega)).trans (b5.block k hk))
 have gn : ∀ k, k < u.heap.size → blk a2 ≠ some k → g ≠ k := fun k hk hn e => by
  rcases hat with h | h
  ·exact hn (by rw [h, e])
  ·omega
 refine ⟨ho, fun i y hi hy => ?_, ?_⟩
 ·by_cases hlt : i < q
  ·obtain ⟨v, ⟨z0, z1, z2, z3, z4, e0, q0, q1, q2, q3, q4⟩, hv⟩ := hel i y hlt hy
   refine ⟨v, ⟨z0, z1, z2, z3, z4, e0, ?_, ?_, ?_, ?_, ?_⟩, JV.keep (fun k hk => ⟨⟨⟨hk.1.1, by have := hk.1.2; omega⟩, fun e => gn k (by have := hk.1.2; omega) hk.2 (by simpa [blk] using e)⟩, old2 k hk.1.2 hk.2⟩) _ _ hv⟩
   ·rw [List.getElem?_append_left (by omega)]; exact q0
   ·rw [List.getElem?_append_left (by omega)]; exact q1
   ·rw [List.getElem?_append_left (by omega)]; exact q2
   ·rw [List.getElem?_append_left (by omega)]; exact q3
   ·rw [List.getElem?_append_left (by omega)]; exact q4
  ·obtain rfl : i = q := by omega
   rw [hx] at hy
   obtain rfl := Option.some.inj hy
   have nz : ∀ k, Nw W5 u k → blk a2 ≠ some k := fun k hk e => by have := (l2 k e).2; have := hk.1; omega
   refine ⟨_, ⟨v0, v1, v2, v3, v4, rfl, ?_, ?_, ?_, ?_, ?_⟩, JV.keep (fun k hk => ⟨⟨⟨by have := hk.1; have := hb.size; omega, by have := hk.2; omega⟩, fun e => gn k hk.2 (nz k hk) (by simpa [blk] using e)⟩, old k hk.2 (nz k hk)⟩) _ _ hj⟩
   ·rw [List.getElem?_append_right (by omega), show i * 5 - xs.length = 0 by omega]; rfl
   ·rw [List.getElem?_append_right (by omega), show i * 5 + 1 - xs.length = 1 by omega]; rfl
   ·rw [List.getElem?_append_right (by omega), show i * 5 + 2 - xs.length = 2 by omega]; rfl
   ·rw [List.getElem?_append_right (by omega), show i * 5 + 3 - xs.length = 3 by omega]; rfl
   ·rw [List.getElem?_append_right (by omega), show i * 5 + 4 - xs.length = 4 by omega]; rfl
 ·have bwU : Below w.heap.size w U := ((hb.trans (b5.mono hb.size)).trans (bu.mono (by have := hb.size; omega))).trans (bU.mono (by have := hb.size; omega))
  exact bwU.grown hg bwU.size (fun k hk => (l2 k hk).1)
set_option maxHeartbeats 8000000 in
theorem eachNu_any (a : Option Addr) (n c : Nat) (l : List Lg) (w : World) (hl : LRow w a n l) (hn9 : n ≤ 1000000) :
  Calls Tryz.prog 62 #[.slice a n c, .func (.func 63) #[] #[]] w fun e w' => ∃ a' c', e = .returned (.slice a' n c') ∧ Hid (JsR w w' a' n c' (l.map nuJ)) ∧ Hid (Below w.heap.size w w') := by
 have HL := hide hl
 have I0 : Hid (EaI w nuJ l 0 w none 0 []) := ⟨World.ownsRow_nil _ _ _ _, fun i x hi => absurd hi (Nat.not_lt_zero _), Below.refl _ _⟩
 clear hl
 go_enter Tryz.func62, Tryz.ntmps62
 go_wp2_with fail
 go_loopw [5, 10] (fun vo v wr => ∃ (q : Nat) (a2 : Option Addr) (c2 : Nat) (xs : List Value), q ≤ n ∧ vo = .slice a2 q c2 ∧ v = .int .i64 (q : Int) ∧ Hid (EaI w nuJ l q wr a2 c2 xs)) (fun _ v _ => n - (intOf v).toNat)
 case atStart => exact ⟨0, none, 0, [], Nat.zero_le _, rfl, rfl, I0⟩
 case round =>
  obtain ⟨q, a2, c2, xs, hq, rfl, rfl, HI⟩ := hrel
  clear I0
  by_cases hlt : q < n
  ·have hlt' : (q : Int) < (n : Int) := by omega
   have hLb := (uh HL).below (uh HI).2.2
   obtain ⟨x, hx⟩ : ∃ x, l[q]? = some x := ⟨_, List.getElem?_eq_getElem (by have := (uh HL).1; omega)⟩
   obtain ⟨b, off, rfl, hbl, hc⟩ := hLb.2 (fun e => by rw [e] at hx; simp at hx)
   have g0 := hc q x hx 0 _ rfl
   have g1 := hc q x hx 1 _ rfl
   have g2 := hc q x hx 2 _ rfl
   have g3 := hc q x hx 3 _ rfl
   have g4 := hc q x hx 4 _ rfl
   have g5 := hc q x hx 5 _ rfl
   rw [Nat.add_zero] at g0
   obtain ⟨E, hE⟩ : ∃ E, E = wr.heap.size := ⟨_, rfl⟩
   obtain ⟨W5, h5⟩ : ∃ W5, W5 = wr.alloc (.cells #[.string (str x.c), .int .i64 x.id, .int .i64 x.m.k, .string (str x.m.i), .string (str x.m.n), .string (str x.m.t)] 28) := ⟨_, rfl⟩
   have b5 : Below wr.heap.size wr W5 := by rw [h5]; exact bA _
   have r5 : W5.heap[E]? = some (.cells #[.string (str x.c), .int .i64 x.id, .int .i64 x.m.k, .string (str x.m.i), .string (str x.m.n), .string (str x.m.t)] 28 (0, 0)) := by rw [h5, hE]; exact heap_alloc_new _ _
   obtain ⟨e0, e1, e2, e3, e4, e5⟩ := cells6 r5
   have HB5 := hide b5
   have HX := hide hx
   have HC := hide (nuV_any x W5)
   unfold lgV at HC
   clear hLb hx hbl hc b5 r5
   go_upto_region 5 with fail
   rw [← h5, ← hE]
   clear h5 hE g0 g1 g2 g3 g4 g5
   go_wp2_with fail
   refine (uh HC).mono ?_
   rintro e u ⟨v, rfl, hj, hbu⟩
   obtain ⟨jk, jn, jt, ja1, jn1, jc1, ja2, jn2, jc2, rfl⟩ := (uh hj).form
   obtain ⟨U, hU⟩ : ∃ U, U = u.alloc (.cells #[.int .i64 jk, .int .i64 jn, .string (str jt), .slice ja1 jn1 jc1, .slice ja2 jn2 jc2] 44) := ⟨_, rfl⟩
   have HU := hide hU
   have HR := hide (show U.heap[u.heap.size]? = some (.cells #[.int .i64 jk, .int .i64 jn, .string (str jt), .slice ja1 jn1 jc1, .slice ja2 jn2 jc2] 44 (0, 0)) by rw [hU]; exact heap_alloc_new _ _)
   have bU : Below u.heap.size u U := by rw [hU]; exact bA _
   have HO := hide (show U.ownsRow w.heap.size 44 5 (.slice a2 q c2) q xs from owns_same (uh HI).1 (fun k hk => by
    have h1 := (owns_lt (uh HI).1 k hk).2
    have h2 := (uh HB5).size
    have h3 := (uh hbu).size
    exact (bU.block k (by omega)).trans (((uh hbu).block k (by omega)).trans ((uh HB5).block k h1))))
   have HZ : Hid (w.heap.size ≤ U.heap.size) := by
    have h1 := (uh HI).2.2.size
    have h2 := (uh HB5).size
    have h3 := (uh hbu).size
    have h4 := bU.size
    show _ ≤ _
    omega
   have hq9 : q ≤ 1000000 := by omega
   clear hU bU HC e0 e1 e2 e3 e4 e5
   go_wp2_with (at_builtin; rw [← uh HU]; refine wp_appJ U rfl _ _ rfl w.heap.size a2 c2 q xs rfl (uh HO) u.heap.size 1 [.int .i64 jk, .int .i64 jn, .string (str jt), .slice ja1 jn1 jc1, .slice ja2 jn2 jc2] rfl (by simp [Value.oneCell']) rfl (uh HR) hq9 (uh HZ) ?_)
   intro g cap w' ho hg hat hgl
   have HN : Hid (EaI w nuJ l (q + 1) w' (some ⟨g, 0, none⟩) cap (xs ++ [.int .i64 jk, .int .i64 jn, .string (str jt), .slice ja1 jn1 jc1, .slice ja2 jn2 jc2])) := (uh HI).step (uh HX) (uh HB5) (uh hbu) (uh hj) (uh HU) (uh ho) (uh hg) (uh hat)
   clear HI ho hg hat hgl HU HR HO HZ hj hbu HX HB5
   go_wp2_with fail
   go_round
   case rel => exact ⟨q + 1, _, _, _, by omega, rfl, by go_num, HN⟩
   case measure => simp [intOf]; omega
  ·have hlt' : ¬ (q : Int) < (n : Int) := by omega
   obtain rfl : q = n := by omega
   have HD : Hid (JsR w wr a2 q c2 (l.map nuJ) ∧ Below w.heap.size w wr) := by
    have h := uh HI
    have e := (uh HL).1
    rw [e] at h ⊢
    exact ⟨h.done, h.2.2⟩
   clear HI HL
   go_wp2_with fail
   go_ret
   exact ⟨_, _, rfl, (uh HD).1, (uh HD).2⟩
set_option maxHeartbeats 8000000 in
theorem eachLg_any (a : Option Addr) (n c : Nat) (l : List Lg) (w : World) (hl : LRow w a n l) (hn9 : n ≤ 1000000) :
  Calls Tryz.prog 62 #[.slice a n c, .func (.func 30) #[] #[]] w fun e w' => ∃ a' c', e = .returned (.slice a' n c') ∧ Hid (JsR w w' a' n c' (l.map lgJ)) ∧ Hid (Below w.heap.size w w') := by
 have HL := hide hl
 have I0 : Hid (EaI w lgJ l 0 w none 0 []) := ⟨World.ownsRow_nil _ _ _ _, fun i x hi => absurd hi (Nat.not_lt_zero _), Below.refl _ _⟩
 clear hl
 go_enter Tryz.func62, Tryz.ntmps62
 go_wp2_with fail
 go_loopw [5, 10] (fun vo v wr => ∃ (q : Nat) (a2 : Option Addr) (c2 : Nat) (xs : List Value), q ≤ n ∧ vo = .slice a2 q c2 ∧ v = .int .i64 (q : Int) ∧ Hid (EaI w lgJ l q wr a2 c2 xs)) (fun _ v _ => n - (intOf v).toNat)
 case atStart => exact ⟨0, none, 0, [], Nat.zero_le _, rfl, rfl, I0⟩
 case round =>
  obtain ⟨q, a2, c2, xs, hq, rfl, rfl, HI⟩ := hrel
  clear I0
  by_cases hlt : q < n
  ·have hlt' : (q : Int) < (n : Int) := by omega
   have hLb := (uh HL).below (uh HI).2.2
   obtain ⟨x, hx⟩ : ∃ x, l[q]? = some x := ⟨_, List.getElem?_eq_getElem (by have := (uh HL).1; omega)⟩
   obtain ⟨b, off, rfl, hbl, hc⟩ := hLb.2 (fun e => by rw [e] at hx; simp at hx)
   have g0 := hc q x hx 0 _ rfl
   have g1 := hc q x hx 1 _ rfl
   have g2 := hc q x hx 2 _ rfl
   have g3 := hc q x hx 3 _ rfl
   have g4 := hc q x hx 4 _ rfl
   have g5 := hc q x hx 5 _ rfl
   rw [Nat.add_zero] at g0
   obtain ⟨E, hE⟩ : ∃ E, E = wr.heap.size := ⟨_, rfl⟩
   obtain ⟨W5, h5⟩ : ∃ W5, W5 = wr.alloc (.cells #[.string (str x.c), .int .i64 x.id, .int .i64 x.m.k, .string (str x.m.i), .string (str x.m.n), .string (str x.m.t)] 28) := ⟨_, rfl⟩
   have b5 : Below wr.heap.size wr W5 := by rw [h5]; exact bA _
   have r5 : W5.heap[E]? = some (.cells #[.string (str x.c), .int .i64 x.id, .int .i64 x.m.k, .string (str x.m.i), .string (str x.m.n), .string (str x.m.t)] 28 (0, 0)) := by rw [h5, hE]; exact heap_alloc_new _ _
   obtain ⟨e0, e1, e2, e3, e4, e5⟩ := cells6 r5
   have HB5 := hide b5
   have HX := hide hx
   have HC := hide (lgV_any x W5)
   unfold lgV at HC
   clear hLb hx hbl hc b5 r5
   go_upto_region 5 with fail
   rw [← h5, ← hE]
   clear h5 hE g0 g1 g2 g3 g4 g5
   go_wp2_with fail
   refine (uh HC).mono ?_
   rintro e u ⟨v, rfl, hj, hbu⟩
   obtain ⟨jk, jn, jt, ja1, jn1, jc1, ja2, jn2, jc2, rfl⟩ := (uh hj).form
   obtain ⟨U, hU⟩ : ∃ U, U = u.alloc (.cells #[.int .i64 jk, .int .i64 jn, .string (str jt), .slice ja1 jn1 jc1, .slice ja2 jn2 jc2] 44) := ⟨_, rfl⟩
   have HU := hide hU
   have HR := hide (show U.heap[u.heap.size]? = some (.cells #[.int .i64 jk, .int .i64 jn, .string (str jt), .slice ja1 jn1 jc1, .slice ja2 jn2 jc2] 44 (0, 0)) by rw [hU]; exact heap_alloc_new _ _)
   have bU : Below u.heap.size u U := by rw [hU]; exact bA _
   have HO := hide (show U.ownsRow w.heap.size 44 5 (.slice a2 q c2) q xs from owns_same (uh HI).1 (fun k hk => by
    have h1 := (owns_lt (uh HI).1 k hk).2
    have h2 := (uh HB5).size
    have h3 := (uh hbu).size
    exact (bU.block k (by omega)).trans (((uh hbu).block k (by omega)).trans ((uh HB5).block k h1))))
   have HZ : Hid (w.heap.size ≤ U.heap.size) := by
    have h1 := (uh HI).2.2.size
    have h2 := (uh HB5).size
    have h3 := (uh hbu).size
    have h4 := bU.size
    show _ ≤ _
    omega
   have hq9 : q ≤ 1000000 := by omega
   clear hU bU HC e0 e1 e2 e3 e4 e5
   go_wp2_with (at_builtin; rw [← uh HU]; refine wp_appJ U rfl _ _ rfl w.heap.size a2 c2 q xs rfl (uh HO) u.heap.size 1 [.int .i64 jk, .int .i64 jn, .string (str jt), .slice ja1 jn1 jc1, .slice ja2 jn2 jc2] rfl (by simp [Value.oneCell']) rfl (uh HR) hq9 (uh HZ) ?_)
   intro g cap w' ho hg hat hgl
   have HN : Hid (EaI w lgJ l (q + 1) w' (some ⟨g, 0, none⟩) cap (xs ++ [.int .i64 jk, .int .i64 jn, .string (str jt), .slice ja1 jn1 jc1, .slice ja2 jn2 jc2])) := (uh HI).step (uh HX) (uh HB5) (uh hbu) (uh hj) (uh HU) (uh ho) (uh hg) (uh hat)
   clear HI ho hg hat hgl HU HR HO HZ hj hbu HX HB5
   go_wp2_with fail
   go_round
   case rel => exact ⟨q + 1, _, _, _, by omega, rfl, by go_num, HN⟩
   case measure => simp [intOf]; omega
  ·have hlt' : ¬ (q : Int) < (n : Int) := by omega
   obtain rfl : q = n := by omega
   have HD : Hid (JsR w wr a2 q c2 (l.map lgJ) ∧ Below w.heap.size w wr) := by
    have h := uh HI
    have e := (uh HL).1
    rw [e] at h ⊢
    exact ⟨h.done, h.2.2⟩
   clear HI HL
   go_wp2_with fail
   go_ret
   exact ⟨_, _, rfl, (uh HD).1, (uh HD).2⟩
end Go.Proofs.YtmpjeahibfdehaaGreatDoor
end
