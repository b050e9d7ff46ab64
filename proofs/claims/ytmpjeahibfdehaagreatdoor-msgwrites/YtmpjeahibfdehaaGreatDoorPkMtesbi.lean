/-
  msg: a message as JSON.; msg: the statements' fine, and Same of two messages that are the same.; msg: the document's Same of two messages whose lists are the same, or one of which has none.; msg: what a value tells of a logged mutation.
-/
import Derived.Test.YtmpjeahibfdehaaGreatDoorPkMtesbh
import Derived.Deep.QuietTactic
section
set_option linter.unusedVariables false
set_option maxRecDepth 1000000
namespace Go.Proofs.YtmpjeahibfdehaaGreatDoor
open Go.RowKit

structure Mg where
 k : Int
 c : List UInt8
 fr : Int
 co : Int
 la : Int
 top : Int
 l : List Lg
def mgV (m : Mg) (a : Option Addr) (n c : Nat) : Value := .agg #[.int .i64 m.k, .string (str m.c), .int .i64 m.fr, .int .i64 m.co, .int .i64 m.la, .int .i64 m.top, .slice a n c]
def vlJ (m : Mg) : Js :=
 if m.k = 1 then .mk 5 0 [] [[116, 121, 112, 101], [99, 108, 105, 101, 110, 116], [108, 105, 115, 116]] [.mk 3 0 (tyM m.k) [] [], .mk 3 0 (m.c) [] [], .mk 4 0 [] [] (m.l.map nuJ)]
 else if m.k = 2 then .mk 5 0 [] [[116, 121, 112, 101], [108, 97, 115, 116], [116, 111, 112]] [.mk 3 0 (tyM m.k) [] [], .mk 2 m.la [] [] [], .mk 2 m.top [] [] []]
 else if m.k = 3 then .mk 5 0 [] [[116, 121, 112, 101], [99, 108, 105, 101, 110, 116], [99, 111, 111, 107, 105, 101]] [.mk 3 0 (tyM m.k) [] [], .mk 3 0 (m.c) [] [], .mk 2 m.co [] [] []]
 else if m.k = 4 then .mk 5 0 [] [[116, 121, 112, 101], [102, 114, 111, 109], [99, 111, 111, 107, 105, 101], [108, 97, 115, 116], [116, 111, 112], [108, 105, 115, 116]] [.mk 3 0 (tyM m.k) [] [], .mk 2 m.fr [] [] [], .mk 2 m.co [] [] [], .mk 2 m.la [] [] [], .mk 2 m.top [] [] [], .mk 4 0 [] [] (m.l.map lgJ)]
 else .mk 5 0 [] [[116, 121, 112, 101], [116, 111, 112]] [.mk 3 0 (tyM m.k) [] [], .mk 2 m.top [] [] []]
theorem cells7 {u : World} {V : Nat} {x0 x1 x2 x3 x4 x5 x6 : Value} {T : TypeId} {m : Nat × Nat} (h : u.heap[V]? = some (.cells #[x0, x1, x2, x3, x4, x5, x6] T m)) : u.cell? ⟨V, 0, none⟩ = some x0 ∧ u.cell? ⟨V, 1, none⟩ = some x1 ∧ u.cell? ⟨V, 2, none⟩ = some x2 ∧ u.cell? ⟨V, 3, none⟩ = some x3 ∧ u.cell? ⟨V, 4, none⟩ = some x4 ∧ u.cell? ⟨V, 5, none⟩ = some x5 ∧ u.cell? ⟨V, 6, none⟩ = some x6 :=
 ⟨cR6 h, cR6 h, cR6 h, cR6 h, cR6 h, cR6 h, cR6 h⟩
theorem js_list {Z U V : World} {a : Option Addr} {n c : Nat} {is : List Js} (h : JsR Z U a n c is) {Wd : World} (hz : Below Wd.heap.size Wd Z) (hv : Below U.heap.size U V) : JV V (Nw Wd V) (.agg #[.int .i64 4, .int .i64 0, .string ⟨#[]⟩, .slice none 0 0, .slice a n c]) (.mk 4 0 [] [] is) := by
 obtain ⟨h1, h2, h3, h4, h5⟩ := h
 simp only [JV]
 refine ⟨none, 0, a, c, by rw [h1]; rfl, fun e => absurd rfl e, Nat.le_refl _, Nat.zero_le _, fun _ => rfl, by rw [← h1]; exact h2, h3, h4, JVs.keep (fun k hk => ⟨⟨Nat.le_trans hz.size hk.1, Nat.lt_of_lt_of_le hk.2 hv.size⟩, hv.block k hk.2⟩) _ _ _ h5⟩
set_option maxHeartbeats 32000000 in
theorem value_any2 (m : Mg) (a : Option Addr) (n c : Nat) (w : World) (hl : LRow w a n m.l) (hn9 : n ≤ 1000000) :
  Calls Tryz.prog 27 #[mgV m a n c] w fun e w' => ∃ v, e = .returned v ∧ Hid (JV w' (Nw w w') v (vlJ m)) ∧ Hid (Below w.heap.size w w') := by
 unfold mgV
 obtain ⟨E, hE⟩ : ∃ E, E = vlJ m := ⟨_, rfl⟩
 rw [← hE]
 unfold vlJ at hE
 have HE0 := hide hE
 clear hE
 obtain ⟨X, hX⟩ : ∃ X, X = w.heap.size := ⟨_, rfl⟩
 obtain ⟨R, hR⟩ : ∃ R, R = w.heap.size + 1 := ⟨_, rfl⟩
 obtain ⟨W, hW⟩ : ∃ W, W = (w.alloc (.cells #[.int .i64 m.k, .string (str m.c), .int .i64 m.fr, .int .i64 m.co, .int .i64 m.la, .int .i64 m.top, .slice a n c] 24)).alloc (.cells #[.int .i64 0, .int .i64 0, .string ⟨#[]⟩, .slice none 0 0, .slice none 0 0] 44) := ⟨_, rfl⟩
 have bW : Below w.heap.size w W := by rw [hW]; exact below2 w _ _
 have rX : W.heap[X]? = some (.cells #[.int .i64 m.k, .string (str m.c), .int .i64 m.fr, .int .i64 m.co, .int .i64 m.la, .int .i64 m.top, .slice a n c] 24 (0, 0)) := by
  rw [hW, hX, heap_alloc_old _ _ (by simp)]
  exact heap_alloc_new _ _
 have rR : W.heap[R]? = some (.cells #[.int .i64 0, .int .i64 0, .string ⟨#[]⟩, .slice none 0 0, .slice none 0 0] 44 (0, 0)) := by
  rw [hW, hR]
  exact heap_alloc2_new _ _ _
 have HZ0 : Hid (X = w.heap.size ∧ R = w.heap.size + 1 ∧ W.heap.size = w.heap.size + 2) := ⟨hX, hR, by rw [hW]; simp⟩
 have HL := hide hl
 have HX0 := hide rX
 have HR0 := hide rR
 have HBW := hide bW
 have BB0 : Hid (Below W.heap.size W W) := Below.refl _ _
 have HTY := hide (typeOf_any m.k)
 obtain ⟨c0, c1, c2, c3, c4, c5, c6⟩ := cells7 rX
 clear bW rX rR hl
 go_enter Tryz.func27, Tryz.ntmps27
 go_upto_region 1 with fail
 rw [← hW, ← hR, ← hX]
 clear hW hR hX
 go_wp2_with fail
 refine (uh HTY _).mono ?_
 rintro e ut ⟨rfl, rfl⟩
 clear HTY
 go_wp2_with fail
 refine (textM_any [116, 121, 112, 101] _ _).mono ?_
 rintro e u1 ⟨rfl, h1⟩
 obtain ⟨b1, hb1⟩ : ∃ b, b = u1.heap.size := ⟨_, rfl⟩
 obtain ⟨w1, hw1⟩ : ∃ x, x = u1.alloc (.cells #[.string (str [116, 121, 112, 101]), .int .i64 3, .int .i64 0, .string (str (tyM m.k)), .slice none 0 0, .slice none 0 0] 85) := ⟨_, rfl⟩
 have HM1 := hide (show w1.heap[b1]? = some (.cells #[.string (str [116, 121, 112, 101]), .int .i64 3, .int .i64 0, .string (str (tyM m.k)), .slice none 0 0, .slice none 0 0] 85 (0, 0)) by rw [hw1, hb1]; exact heap_alloc_new _ _)
 have BS1 : Hid (Below ut.heap.size ut w1) := (uh h1).trans (by rw [hw1]; exact (bA _).mono (uh h1).size)
 have BB1 : Hid (Below ut.heap.size ut w1) := BS1
 have HG1 : Hid (ut.heap.size ≤ b1) := by
  have h2 := (uh h1).size
  show _ ≤ _
  rw [hb1]
  exact h2
 clear c0 c1 c2 c3 c4 c5 c6 h1
 obtain ⟨c0, c1, c2, c3, c4, c5, c6⟩ := cells7 (((uh BB1).block X (aI (uh HX0)).1).trans (uh HX0))
 go_upto_region 2 with fail
 rw [← hw1, ← hb1]
 clear hw1 hb1
 go_wp2_with fail
 refine (textM_any [99, 108, 105, 101, 110, 116] _ _).mono ?_
 rintro e u2 ⟨rfl, h1⟩
 obtain ⟨b2, hb2⟩ : ∃ b, b = u2.heap.size := ⟨_, rfl⟩
 obtain ⟨w2, hw2⟩ : ∃ x, x = u2.alloc (.cells #[.string (str [99, 108, 105, 101, 110, 116]), .int .i64 3, .int .i64 0, .string (str (m.c)), .slice none 0 0, .slice none 0 0] 85) := ⟨_, rfl⟩
 have HM2 := hide (show w2.heap[b2]? = some (.cells #[.string (str [99, 108, 105, 101, 110, 116]), .int .i64 3, .int .i64 0, .string (str (m.c)), .slice none 0 0, .slice none 0 0] 85 (0, 0)) by rw [hw2, hb2]; exact heap_alloc_new _ _)
 have BS2 : Hid (Below w1.heap.size w1 w2) := (uh h1).trans (by rw [hw2]; exact (bA _).mono (uh h1).size)
 have BB2 : Hid (Below ut.heap.size ut w2) := (uh BB1).trans ((uh BS2).mono (uh BB1).size)
 have HG2 : Hid (ut.heap.size ≤ b2) := by
  have h2 := (uh h1).size
  show _ ≤ _
  rw [hb2]
  exact Nat.le_trans (uh BB1).size h2
 clear c0 c1 c2 c3 c4 c5 c6 h1
 obtain ⟨c0, c1, c2, c3, c4, c5, c6⟩ := cells7 (((uh BB2).block X (aI (uh HX0)).1).trans (uh HX0))
 go_upto_region 3 with fail
 rw [← hw2, ← hb2]
 clear hw2 hb2
 go_wp2_with fail
 refine (numM_any [99, 111, 111, 107, 105, 101] _ _).mono ?_
 rintro e u3 ⟨rfl, h1⟩
 obtain ⟨b3, hb3⟩ : ∃ b, b = u3.heap.size := ⟨_, rfl⟩
 obtain ⟨w3, hw3⟩ : ∃ x, x = u3.alloc (.cells #[.string (str [99, 111, 111, 107, 105, 101]), .int .i64 2, .int .i64 m.co, .string ⟨#[]⟩, .slice none 0 0, .slice none 0 0] 85) := ⟨_, rfl⟩
 have HM3 := hide (show w3.heap[b3]? = some (.cells #[.string (str [99, 111, 111, 107, 105, 101]), .int .i64 2, .int .i64 m.co, .string ⟨#[]⟩, .slice none 0 0, .slice none 0 0] 85 (0, 0)) by rw [hw3, hb3]; exact heap_alloc_new _ _)
 have BS3 : Hid (Below w2.heap.size w2 w3) := (uh h1).trans (by rw [hw3]; exact (bA _).mono (uh h1).size)
 have BB3 : Hid (Below ut.heap.size ut w3) := (uh BB2).trans ((uh BS3).mono (uh BB2).size)
 have HG3 : Hid (ut.heap.size ≤ b3) := by
  have h2 := (uh h1).size
  show _ ≤ _
  rw [hb3]
  exact Nat.le_trans (uh BB2).size h2
 clear c0 c1 c2 c3 c4 c5 c6 h1
 obtain ⟨c0, c1, c2, c3, c4, c5, c6⟩ := cells7 (((uh BB3).block X (aI (uh HX0)).1).trans (uh HX0))
 go_upto_region 4 with fail
 rw [← hw3, ← hb3]
 clear hw3 hb3
 go_wp2_with fail
 refine (numM_any [108, 97, 115, 116] _ _).mono ?_
 rintro e u4 ⟨rfl, h1⟩
 obtain ⟨b4, hb4⟩ : ∃ b, b = u4.heap.size := ⟨_, rfl⟩
 obtain ⟨w4, hw4⟩ : ∃ x, x = u4.alloc (.cells #[.string (str [108, 97, 115, 116]), .int .i64 2, .int .i64 m.la, .string ⟨#[]⟩, .slice none 0 0, .slice none 0 0] 85) := ⟨_, rfl⟩
 have HM4 := hide (show w4.heap[b4]? = some (.cells #[.string (str [108, 97, 115, 116]), .int .i64 2, .int .i64 m.la, .string ⟨#[]⟩, .slice none 0 0, .slice none 0 0] 85 (0, 0)) by rw [hw4, hb4]; exact heap_alloc_new _ _)
 have BS4 : Hid (Below w3.heap.size w3 w4) := (uh h1).trans (by rw [hw4]; exact (bA _).mono (uh h1).size)
 have BB4 : Hid (Below ut.heap.size ut w4) := (uh BB3).trans ((uh BS4).mono (uh BB3).size)
 have HG4 : Hid (ut.heap.size ≤ b4) := by
  have h2 := (uh h1).size
  show _ ≤ _
  rw [hb4]
  exact Nat.le_trans (uh BB3).size h2
 clear c0 c1 c2 c3 c4 c5 c6 h1
 obtain ⟨c0, c1, c2, c3, c4, c5, c6⟩ := cells7 (((uh BB4).block X (aI (uh HX0)).1).trans (uh HX0))
 go_upto_region 5 with fail
 rw [← hw4, ← hb4]
 clear hw4 hb4
 go_wp2_with fail
 refine (numM_any [116, 111, 112] _ _).mono ?_
 rintro e u5 ⟨rfl, h1⟩
 obtain ⟨b5, hb5⟩ : ∃ b, b = u5.heap.size := ⟨_, rfl⟩
 obtain ⟨w5, hw5⟩ : ∃ x, x = u5.alloc (.cells #[.string (str [116, 111, 112]), .int .i64 2, .int .i64 m.top, .string ⟨#[]⟩, .slice none 0 0, .slice none 0 0] 85) := ⟨_, rfl⟩
 have HM5 := hide (show w5.heap[b5]? = some (.cells #[.string (str [116, 111, 112]), .int .i64 2, .int .i64 m.top, .string ⟨#[]⟩, .slice none 0 0, .slice none 0 0] 85 (0, 0)) by rw [hw5, hb5]; exact heap_alloc_new _ _)
 have BS5 : Hid (Below w4.heap.size w4 w5) := (uh h1).trans (by rw [hw5]; exact (bA _).mono (uh h1).size)
 have BB5 : Hid (Below ut.heap.size ut w5) := (uh BB4).trans ((uh BS5).mono (uh BB4).size)
 have HG5 : Hid (ut.heap.size ≤ b5) := by
  have h2 := (uh h1).size
  show _ ≤ _
  rw [hb5]
  exact Nat.le_trans (uh BB4).size h2
 clear c0 c1 c2 c3 c4 c5 c6 h1
 obtain ⟨c0, c1, c2, c3, c4, c5, c6⟩ := cells7 (((uh BB5).block X (aI (uh HX0)).1).trans (uh HX0))
 go_upto_region 6 with fail
 rw [← hw5, ← hb5]
 clear hw5 hb5
 have HRR := hide (((uh BB5).block R (aI (uh HR0)).1).trans (uh HR0))
 have HXX := hide (((uh BB5).block X (aI (uh HX0)).1).trans (uh HX0))
 have K5 := hide ((Below.refl w5.heap.size w5))
 have K4 : Hid (Below w4.heap.size w4 w5) := BS5
 have K3 : Hid (Below w3.heap.size w3 w5) := (uh BS4).trans ((uh K4).mono (uh BS4).size)
 have K2 : Hid (Below w2.heap.size w2 w5) := (uh BS3).trans ((uh K3).mono (uh BS3).size)
 have K1 : Hid (Below w1.heap.size w1 w5) := (uh BS2).trans ((uh K2).mono (uh BS2).size)
 have HMM1 := hide (((uh K1).block b1 (aI (uh HM1)).1).trans (uh HM1))
 have HMM2 := hide (((uh K2).block b2 (aI (uh HM2)).1).trans (uh HM2))
 have HMM3 := hide (((uh K3).block b3 (aI (uh HM3)).1).trans (uh HM3))
 have HMM4 := hide (((uh K4).block b4 (aI (uh HM4)).1).trans (uh HM4))
 have HMM5 := hide (((uh K5).block b5 (aI (uh HM5)).1).trans (uh HM5))
 have HNE : Hid (X = w.heap.size ∧ R = w.heap.size + 1 ∧ ut.heap.size = w.heap.size + 2 ∧ ut.heap.size ≤ b1 ∧ ut.heap.size ≤ b2 ∧ ut.heap.size ≤ b3 ∧ ut.heap.size ≤ b4 ∧ ut.heap.size ≤ b5 ∧ ut.heap.size ≤ w5.heap.size) := ⟨(uh HZ0).1, (uh HZ0).2.1, (uh HZ0).2.2, uh HG1, uh HG2, uh HG3, uh HG4, uh HG5, (uh BB5).size⟩
 have HBW5 : Hid (Below w.heap.size w w5) := (uh HBW).trans ((uh BB5).mono (uh HBW).size)
 have HLR : Hid (∀ u, Below w5.heap.size w5 u → LRow u a n m.l) := fun u hb => ((uh HL).below (uh HBW5)).below hb
 clear HZ0 HG1 HG2 HG3 HG4 HG5 K1 K2 K3 K4 K5 HM1 HM2 HM3 HM4 HM5 BS1 BS2 BS3 BS4 BS5 BB0 BB1 BB2 BB3 BB4 BB5 HX0 HR0 HBW HL
 have HALB : Hid (∀ (u u' : World), Hid (Below u.heap.size u u') → ∀ ob, Hid (Below u.heap.size u (u'.alloc ob))) := fun u u' h ob => (uh h).trans (((Below.refl _ _).alloc (Nat.le_refl _) ob).mono (uh h).size)
 by_cases h1 : m.k = 1
 ·have q1 : (m.k == 1) = true := by rw [beq_iff_eq]; omega
  have HE := hide (uh HE0)
  rw [if_pos h1] at HE
  clear HE0 h1
  have HS0 : Hid (∀ u, Below w5.heap.size w5 u → (u.cell? ⟨b1, 0, none⟩ = some (.string (str [116, 121, 112, 101])) ∧ u.cell? ⟨b1, 1, none⟩ = some (.int .i64 3) ∧ u.cell? ⟨b1, 2, none⟩ = some (.int .i64 0) ∧ u.cell? ⟨b1, 3, none⟩ = some (.string (str (tyM m.k))) ∧ u.cell? ⟨b1, 4, none⟩ = some (.slice none 0 0) ∧ u.cell? ⟨b1, 5, none⟩ = some (.slice none 0 0) ∧ u.cell? ⟨b2, 0, none⟩ = some (.string (str [99, 108, 105, 101, 110, 116])) ∧ u.cell? ⟨b2, 1, none⟩ = some (.int .i64 3) ∧ u.cell? ⟨b2, 2, none⟩ = some (.int .i64 0) ∧ u.cell? ⟨b2, 3, none⟩ = some (.string (str (m.c))) ∧ u.cell? ⟨b2, 4, none⟩ = some (.slice none 0 0) ∧ u.cell? ⟨b2, 5, none⟩ = some (.slice none 0 0) ∧ u.cell? ⟨X, 6, none⟩ = some (Value.slice a n c))) := fun u hb => by
   have r_b1 := (hb.block b1 (aI (uh HMM1)).1).trans (uh HMM1)
   have r_b2 := (hb.block b2 (aI (uh HMM2)).1).trans (uh HMM2)
   have r_X := (hb.block X (aI (uh HXX)).1).trans (uh HXX)
   exact ⟨(cR6 r_b1), (cR6 r_b1), (cR6 r_b1), (cR6 r_b1), (cR6 r_b1), (cR6 r_b1), (cR6 r_b2), (cR6 r_b2), (cR6 r_b2), (cR6 r_b2), (cR6 r_b2), (cR6 r_b2), (cR6 r_X)⟩
  have HTR : Hid (∀ u u', Hid (Below w5.heap.size w5 u) → Hid (Below u.heap.size u u') → Hid (Below w5.heap.size w5 u')) := fun u u' h h1 => (uh h).trans ((uh h1).mono (uh h).size)
  have HAB : Hid (∀ u ob, Hid (Below w5.heap.size w5 u) → Hid (Below w5.heap.size w5 (u.alloc ob))) := fun u ob h => (uh h).trans (((Below.refl _ _).alloc (Nat.le_refl _) ob).mono (uh h).size)
  have HTA : Hid (∀ u ob u', Hid (Below w5.heap.size w5 u) → Hid (Below (u.alloc ob).heap.size (u.alloc ob) u') → Hid (Below w5.heap.size w5 u')) := fun u ob u' h h1 => uh HTR _ _ (uh HAB u ob h) h1
  have HA0 : Hid (∀ u, Below w5.heap.size w5 u → ∀ ob, ((u.alloc ob).cell? ⟨b1, 0, none⟩ = some (.string (str [116, 121, 112, 101])) ∧ (u.alloc ob).cell? ⟨b1, 1, none⟩ = some (.int .i64 3) ∧ (u.alloc ob).cell? ⟨b1, 2, none⟩ = some (.int .i64 0) ∧ (u.alloc ob).cell? ⟨b1, 3, none⟩ = some (.string (str (tyM m.k))) ∧ (u.alloc ob).cell? ⟨b1, 4, none⟩ = some (.slice none 0 0) ∧ (u.alloc ob).cell? ⟨b1, 5, none⟩ = some (.slice none 0 0) ∧ (u.alloc ob).cell? ⟨b2, 0, none⟩ = some (.string (str [99, 108, 105, 101, 110, 116])) ∧ (u.alloc ob).cell? ⟨b2, 1, none⟩ = some (.int .i64 3) ∧ (u.alloc ob).cell? ⟨b2, 2, none⟩ = some (.int .i64 0) ∧ (u.alloc ob).cell? ⟨b2, 3, none⟩ = some (.string (str (m.c))) ∧ (u.alloc ob).cell? ⟨b2, 4, none⟩ = some (.slice none 0 0) ∧ (u.alloc ob).cell? ⟨b2, 5, none⟩ = some (.slice none 0 0) ∧ (u.alloc ob).cell? ⟨X, 6, none⟩ = some (Value.slice a n c))) := fun u hb ob => uh HS0 _ (uh (uh HAB u ob hb))
  have HS5 : Hid (∀ (u : World) (y0 y1 y2 y3 y4 : Value), (u.cell? ⟨b1, 0, none⟩ = some (.string (str [116, 121, 112, 101])) ∧ u.cell? ⟨b1, 1, none⟩ = some (.int .i64 3) ∧ u.cell? ⟨b1, 2, none⟩ = some (.int .i64 0) ∧ u.cell? ⟨b1, 3, none⟩ = some (.string (str (tyM m.k))) ∧ u.cell? ⟨b1, 4, none⟩ = some (.slice none 0 0) ∧ u.cell? ⟨b1, 5, none⟩ = some (.slice none 0 0) ∧ u.cell? ⟨b2, 0, none⟩ = some (.string (str [99, 108, 105, 101, 110, 116])) ∧ u.cell? ⟨b2, 1, none⟩ = some (.int .i64 3) ∧ u.cell? ⟨b2, 2, none⟩ = some (.int .i64 0) ∧ u.cell? ⟨b2, 3, none⟩ = some (.string (str (m.c))) ∧ u.cell? ⟨b2, 4, none⟩ = some (.slice none 0 0) ∧ u.cell? ⟨b2, 5, none⟩ = some (.slice none 0 0) ∧ u.cell? ⟨X, 6, none⟩ = some (Value.slice a n c)) → ((((((u.setCell ⟨R, 0, none⟩ y0).setCell ⟨R, 1, none⟩ y1).setCell ⟨R, 2, none⟩ y2).setCell ⟨R, 3, none⟩ y3).setCell ⟨R, 4, none⟩ y4).cell? ⟨b1, 0, none⟩ = some (.string (str [116, 121, 112, 101])) ∧ (((((u.setCell ⟨R, 0, none⟩ y0).setCell ⟨R, 1, none⟩ y1).setCell ⟨R, 2, none⟩ y2).setCell ⟨R, 3, none⟩ y3).setCell ⟨R, 4, none⟩ y4).cell? ⟨b1, 1, none⟩ = some (.int .i64 3) ∧ (((((u.setCell ⟨R, 0, none⟩ y0).setCell ⟨R, 1, none⟩ y1).setCell ⟨R, 2, none⟩ y2).setCell ⟨R, 3, none⟩ y3).setCell ⟨R, 4, none⟩ y4).cell? ⟨b1, 2, none⟩ = some (.int .i64 0) ∧ (((((u.setCell ⟨R, 0, none⟩ y0).setCell ⟨R, 1, none⟩ y1).setCell ⟨R, 2, none⟩ y2).setCell ⟨R, 3, none⟩ y3).setCell ⟨R, 4, none⟩ y4).cell? ⟨b1, 3, none⟩ = some (.string (str (tyM m.k))) ∧ (((((u.setCell ⟨R, 0, none⟩ y0).setCell ⟨R, 1, none⟩ y1).setCell ⟨R, 2, none⟩ y2).setCell ⟨R, 3, none⟩ y3).setCell ⟨R, 4, none⟩ y4).cell? ⟨b1, 4, none⟩ = some (.slice none 0 0) ∧ (((((u.setCell ⟨R, 0, none⟩ y0).setCell ⟨R, 1, none⟩ y1).setCell ⟨R, 2, none⟩ y2).setCell ⟨R, 3, none⟩ y3).setCell ⟨R, 4, none⟩ y4).cell? ⟨b1, 5, none⟩ = some (.slice none 0 0) ∧ (((((u.setCell ⟨R, 0, none⟩ y0).setCell ⟨R, 1, none⟩ y1).setCell ⟨R, 2, none⟩ y2).setCell ⟨R, 3, none⟩ y3).setCell ⟨R, 4, none⟩ y4).cell? ⟨b2, 0, none⟩ = some (.string (str [99, 108, 105, 101, 110, 116])) ∧ (((((u.setCell ⟨R, 0, none⟩ y0).setCell ⟨R, 1, none⟩ y1).setCell ⟨R, 2, none⟩ y2).setCell ⟨R, 3, none⟩ y3).setCell ⟨R, 4, none⟩ y4).cell? ⟨b2, 1, none⟩ = some (.int .i64 3) ∧ (((((u.setCell ⟨R, 0, none⟩ y0).setCell ⟨R, 1, none⟩ y1).setCell ⟨R, 2, none⟩ y2).setCell ⟨R, 3, none⟩ y3).setCell ⟨R, 4, none⟩ y4).cell? ⟨b2, 2, none⟩ = some (.int .i64 0) ∧ (((((u.setCell ⟨R, 0, none⟩ y0).setCell ⟨R, 1, none⟩ y1).setCell ⟨R, 2, none⟩ y2).setCell ⟨R, 3, none⟩ y3).setCell ⟨R, 4, none⟩ y4).cell? ⟨b2, 3, none⟩ = some (.string (str (m.c))) ∧ (((((u.setCell ⟨R, 0, none⟩ y0).setCell ⟨R, 1, none⟩ y1).setCell ⟨R, 2, none⟩ y2).setCell ⟨R, 3, none⟩ y3).setCell ⟨R, 4, none⟩ y4).cell? ⟨b2, 4, none⟩ = some (.slice none 0 0) ∧ (((((u.setCell ⟨R, 0, none⟩ y0).setCell ⟨R, 1, none⟩ y1).setCell ⟨R, 2, none⟩ y2).setCell ⟨R, 3, none⟩ y3).setCell ⟨R, 4, none⟩ y4).cell? ⟨b2, 5, none⟩ = some (.slice none 0 0) ∧ (((((u.setCell ⟨R, 0, none⟩ y0).setCell ⟨R, 1, none⟩ y1).setCell ⟨R, 2, none⟩ y2).setCell ⟨R, 3, none⟩ y3).setCell ⟨R, 4, none⟩ y4).cell? ⟨X, 6, none⟩ = some (Value.slice a n c))) := fun u y0 y1 y2 y3 y4 h => by
   have ne := uh HNE
   obtain ⟨q0, q1, q2, q3, q4, q5, q6, q7, q8, q9, q10, q11, q12⟩ := h
   have e_b1 : (((((u.setCell ⟨R, 0, none⟩ y0).setCell ⟨R, 1, none⟩ y1).setCell ⟨R, 2, none⟩ y2).setCell ⟨R, 3, none⟩ y3).setCell ⟨R, 4, none⟩ y4).heap[b1]? = u.heap[b1]? := by rw [Below.heap_setCell _ ⟨R, 4, none⟩ _ b1 (show b1 ≠ R by omega)]; rw [Below.heap_setCell _ ⟨R, 3, none⟩ _ b1 (show b1 ≠ R by omega)]; rw [Below.heap_setCell _ ⟨R, 2, none⟩ _ b1 (show b1 ≠ R by omega)]; rw [Below.heap_setCell _ ⟨R, 1, none⟩ _ b1 (show b1 ≠ R by omega)]; rw [Below.heap_setCell _ ⟨R, 0, none⟩ _ b1 (show b1 ≠ R by omega)]
   have e_b2 : (((((u.setCell ⟨R, 0, none⟩ y0).setCell ⟨R, 1, none⟩ y1).setCell ⟨R, 2, none⟩ y2).setCell ⟨R, 3, none⟩ y3).setCell ⟨R, 4, none⟩ y4).heap[b2]? = u.heap[b2]? := by rw [Below.heap_setCell _ ⟨R, 4, none⟩ _ b2 (show b2 ≠ R by omega)]; rw [Below.heap_setCell _ ⟨R, 3, none⟩ _ b2 (show b2 ≠ R by omega)]; rw [Below.heap_setCell _ ⟨R, 2, none⟩ _ b2 (show b2 ≠ R by omega)]; rw [Below.heap_setCell _ ⟨R, 1, none⟩ _ b2 (show b2 ≠ R by omega)]; rw [Below.heap_setCell _ ⟨R, 0, none⟩ _ b2 (show b2 ≠ R by omega)]
   have e_X : (((((u.setCell ⟨R, 0, none⟩ y0).setCell ⟨R, 1, none⟩ y1).setCell ⟨R, 2, none⟩ y2).setCell ⟨R, 3, none⟩ y3).setCell ⟨R, 4, none⟩ y4).heap[X]? = u.heap[X]? := by rw [Below.heap_setCell _ ⟨R, 4, none⟩ _ X (show X ≠ R by omega)]; rw [Below.heap_setCell _ ⟨R, 3, none⟩ _ X (show X ≠ R by omega)]; rw [Below.heap_setCell _ ⟨R, 2, none⟩ _ X (show X ≠ R by omega)]; rw [Below.heap_setCell _ ⟨R, 1, none⟩ _ X (show X ≠ R by omega)]; rw [Below.heap_setCell _ ⟨R, 0, none⟩ _ X (show X ≠ R by omega)]
   exact ⟨cell_keep e_b1 q0, cell_keep e_b1 q1, cell_keep e_b1 q2, cell_keep e_b1 q3, cell_keep e_b1 q4, cell_keep e_b1 q5, cell_keep e_b2 q6, cell_keep e_b2 q7, cell_keep e_b2 q8, cell_keep e_b2 q9, cell_keep e_b2 q10, cell_keep e_b2 q11, cell_keep e_X q12⟩
  have B0 : Hid (Below w5.heap.size w5 w5.drew) := Below.drew (Below.refl _ _)
  have s0 := uh HS0 w5.drew (uh B0)
  go_upto_region 8 with fail
  go_region_held3 (fun w' => w'.cell? ⟨b1, 0, none⟩ = some (.string (str [116, 121, 112, 101])) ∧ w'.cell? ⟨b1, 1, none⟩ = some (.int .i64 3) ∧ w'.cell? ⟨b1, 2, none⟩ = some (.int .i64 0) ∧ w'.cell? ⟨b1, 3, none⟩ = some (.string (str (tyM m.k))) ∧ w'.cell? ⟨b1, 4, none⟩ = some (.slice none 0 0) ∧ w'.cell? ⟨b1, 5, none⟩ = some (.slice none 0 0) ∧ w'.cell? ⟨b2, 0, none⟩ = some (.string (str [99, 108, 105, 101, 110, 116])) ∧ w'.cell? ⟨b2, 1, none⟩ = some (.int .i64 3) ∧ w'.cell? ⟨b2, 2, none⟩ = some (.int .i64 0) ∧ w'.cell? ⟨b2, 3, none⟩ = some (.string (str (m.c))) ∧ w'.cell? ⟨b2, 4, none⟩ = some (.slice none 0 0) ∧ w'.cell? ⟨b2, 5, none⟩ = some (.slice none 0 0) ∧ w'.cell? ⟨X, 6, none⟩ = some (Value.slice a n c)) (first | with_reducible exact aS | with_reducible exact s1 | with_reducible exact a1 _ | with_reducible exact s0) ((first
   | (go_at_call 62; refine (eachNu_any _ _ _ m.l _ (uh HLR _ (by exact uh ‹Hid (Below w5.heap.size w5 _)›)) hn9).mono ?_; rintro e u1 ⟨x1, y1, rfl, hjr, h1⟩; have hzr := ‹Hid (Below w5.heap.size w5 _)›; have B1 := uh HTR _ _ ‹Hid (Below w5.heap.size w5 _)› h1; have s1 := uh HS0 _ (uh B1); have a1 := uh HA0 _ (uh B1))
   | (go_at_call 61; refine (listM_any _ _ _ _ _).mono ?_; rintro e u1 ⟨rfl, h1⟩; have B1 := uh HTR _ _ ‹Hid (Below w5.heap.size w5 _)› h1; have s1 := uh HS0 _ (uh B1); have a1 := uh HA0 _ (uh B1))
   | (go_at_call 60; refine (of_nw [tMm [116, 121, 112, 101] (tyM m.k), tMm [99, 108, 105, 101, 110, 116] m.c, ⟨[108, 105, 115, 116], .int .i64 4, .int .i64 0, .string ⟨#[]⟩, .slice none 0 0, .slice x1 n y1, .mk 4 0 [] [] (m.l.map nuJ)⟩] 3 _ 3 rfl _ (heap_alloc_new _ _) w5 (by exact (uh (uh HAB _ _ ‹Hid (Below w5.heap.size w5 _)›)).size) (fun z hz => by simp at hz; rcases hz with rfl | rfl | rfl <;> first | exact nMm_ok _ _ _ _ | exact tMm_ok _ _ _ _ | exact ⟨js_list (uh hjr) (uh hzr) (by exact uh (uh HALB _ _ (by assumption) _)), by simp [Mm.vs, Value.oneCell']⟩) (by simp)).mono ?_; rintro e u9 ⟨v, rfl, HJ9, h1⟩; obtain ⟨jk, jn, jt, ja1, jn1, jc1, ja2, jn2, jc2, rfl⟩ := (uh HJ9).form; have B9 := uh HTA _ _ _ ‹Hid (Below w5.heap.size w5 _)› h1; have s1 := uh HS0 _ (uh B9); have rR9 := ((uh B9).block R (aI (uh HRR)).1).trans (uh HRR); obtain ⟨y0, y1, y2, y3, y4⟩ : u9.cell? ⟨R, 0, none⟩ = some (.int .i64 0) ∧ u9.cell? ⟨R, 1, none⟩ = some (.int .i64 0) ∧ u9.cell? ⟨R, 2, none⟩ = some (.string ⟨#[]⟩) ∧ u9.cell? ⟨R, 3, none⟩ = some (.slice none 0 0) ∧ u9.cell? ⟨R, 4, none⟩ = some (.slice none 0 0) := ⟨cR6 rR9, cR6 rR9, cR6 rR9, cR6 rR9, cR6 rR9⟩; have z0 := frozen_of_row u9 R 0 _ _ rR9; have z1 := frozen_of_row u9 R 1 _ _ rR9; have z2 := frozen_of_row u9 R 2 _ _ rR9; have z3 := frozen_of_row u9 R 3 _ _ rR9; have z4 := frozen_of_row u9 R 4 _ _ rR9; have HR9 := hide rR9; have HB9 := B9; have aS := uh HS5 u9 (.int .i64 jk) (.int .i64 jn) (.string (str jt)) (.slice ja1 jn1 jc1) (.slice ja2 jn2 jc2) s1; clear rR9)))
  obtain ⟨w9, h9⟩ : ∃ w9, w9 = ((((u9.setCell ⟨R, 0, none⟩ (.int .i64 jk)).setCell ⟨R, 1, none⟩ (.int .i64 jn)).setCell ⟨R, 2, none⟩ (.string (str jt))).setCell ⟨R, 3, none⟩ (.slice ja1 jn1 jc1)).setCell ⟨R, 4, none⟩ (.slice ja2 jn2 jc2) := ⟨_, rfl⟩
  have rR9 := uh HR9
  have r9 : w9.heap[R]? = some (.cells #[.int .i64 jk, .int .i64 jn, .string (str jt), .slice ja1 jn1 jc1, .slice ja2 jn2 jc2] 44 (0, 0)) := by
   rw [h9]
   exact hS6 (hS6 (hS6 (hS6 (hS6 rR9))))
  have HBF : Hid (Below w.heap.size w w9) := by
   show Below _ _ _
   rw [h9]
   have q : w.heap.size ≤ R := by have := uh HNE; omega
   have bu := (uh HBW5).trans ((uh HB9).mono (uh HBW5).size)
   exact ((((bu.setCell q _).setCell q _).setCell q _).setCell q _).setCell q _
  obtain ⟨e0, e1, e2, e3, e4⟩ : w9.cell? ⟨R, 0, none⟩ = some (.int .i64 jk) ∧ w9.cell? ⟨R, 1, none⟩ = some (.int .i64 jn) ∧ w9.cell? ⟨R, 2, none⟩ = some (.string (str jt)) ∧ w9.cell? ⟨R, 3, none⟩ = some (.slice ja1 jn1 jc1) ∧ w9.cell? ⟨R, 4, none⟩ = some (.slice ja2 jn2 jc2) := ⟨cR6 r9, cR6 r9, cR6 r9, cR6 r9, cR6 r9⟩
  have k9 : ∀ k, k ≠ R → w9.heap[k]? = u9.heap[k]? := fun k hk => by rw [h9]; rw [Below.heap_setCell _ ⟨R, 4, none⟩ _ k hk]; rw [Below.heap_setCell _ ⟨R, 3, none⟩ _ k hk]; rw [Below.heap_setCell _ ⟨R, 2, none⟩ _ k hk]; rw [Below.heap_setCell _ ⟨R, 1, none⟩ _ k hk]; rw [Below.heap_setCell _ ⟨R, 0, none⟩ _ k hk]
  have HJF := hide (show JV w9 (Nw w w9) _ _ from JV.keep (fun k hk => ⟨⟨by have := hk.1; have := (uh HBW5).size; omega, by rw [h9]; simp only [siz1]; exact hk.2⟩, k9 k (by have := hk.1; have := uh HNE; omega)⟩) _ _ (uh HJ9))
  clear rR9 r9 k9
  rw [← h9]
  clear h9
  go_wp2_with fail
  refine ⟨rfl, _, by simp [results, Tryz.results27, go_sem, e0, e1, e2, e3, e4]; rfl, ?_⟩
  rw [uh HE]
  exact ⟨_, rfl, HJF, HBF⟩
 by_cases h2 : m.k = 2
 ·have q1 : (m.k == 1) = false := by rw [beq_eq_false_iff_ne]; omega
  have q2 : (m.k == 2) = true := by rw [beq_iff_eq]; omega
  have HE := hide (uh HE0)
  rw [if_neg h1] at HE
  rw [if_pos h2] at HE
  clear HE0 h1 h2
  obtain ⟨d10, d11, d12, d13, d14, d15⟩ := cells6 (uh HMM1)
  obtain ⟨d40, d41, d42, d43, d44, d45⟩ := cells6 (uh HMM4)
  obtain ⟨d50, d51, d52, d53, d54, d55⟩ := cells6 (uh HMM5)
  obtain ⟨U, hU⟩ : ∃ U, U = w5.alloc (.cells #[.string (str [116, 121, 112, 101]), .int .i64 3, .int .i64 0, .string (str (tyM m.k)), .slice none 0 0, .slice none 0 0, .string (str [108, 97, 115, 116]), .int .i64 2, .int .i64 m.la, .string ⟨#[]⟩, .slice none 0 0, .slice none 0 0, .string (str [116, 111, 112]), .int .i64 2, .int .i64 m.top, .string ⟨#[]⟩, .slice none 0 0, .slice none 0 0] 85) := ⟨_, rfl⟩
  obtain ⟨B, hB⟩ : ∃ B, B = w5.heap.size := ⟨_, rfl⟩
  have bU : Below w5.heap.size w5 U := by rw [hU]; exact bA _
  have HO := hide (of_nw [tMm [116, 121, 112, 101] (tyM m.k), nMm [108, 97, 115, 116] m.la, nMm [116, 111, 112] m.top] 3 B 3 rfl U (by rw [hU, hB]; exact heap_alloc_new _ _) w5 bU.size (fun z hz => by simp at hz; rcases hz with rfl | rfl | rfl <;> first | exact nMm_ok _ _ _ _ | exact tMm_ok _ _ _ _) (by simp))
  have HBU := hide bU
  have HU := hide hU
  have HUB := hide hB
  clear bU hU hB HLR
  go_wp2_with (go_at_call 60; rw [← uh HU, ← uh HUB]; refine (uh HO).mono ?_; rintro e u9 ⟨v, rfl, HJ9, h1⟩; obtain ⟨jk, jn, jt, ja1, jn1, jc1, ja2, jn2, jc2, rfl⟩ := (uh HJ9).form; have HB9 : Hid (Below w5.heap.size w5 u9) := (uh HBU).trans ((uh h1).mono (uh HBU).size); have rR9 := ((uh HB9).block R (aI (uh HRR)).1).trans (uh HRR); obtain ⟨y0, y1, y2, y3, y4⟩ := cells5 rR9; have z0 := frozen_of_row u9 R 0 _ _ rR9; have z1 := frozen_of_row u9 R 1 _ _ rR9; have z2 := frozen_of_row u9 R 2 _ _ rR9; have z3 := frozen_of_row u9 R 3 _ _ rR9; have z4 := frozen_of_row u9 R 4 _ _ rR9; have HR9 := hide rR9; clear rR9 h1 HO HBU HU HUB)
  obtain ⟨w9, h9⟩ : ∃ w9, w9 = ((((u9.setCell ⟨R, 0, none⟩ (.int .i64 jk)).setCell ⟨R, 1, none⟩ (.int .i64 jn)).setCell ⟨R, 2, none⟩ (.string (str jt))).setCell ⟨R, 3, none⟩ (.slice ja1 jn1 jc1)).setCell ⟨R, 4, none⟩ (.slice ja2 jn2 jc2) := ⟨_, rfl⟩
  have rR9 := uh HR9
  have r9 : w9.heap[R]? = some (.cells #[.int .i64 jk, .int .i64 jn, .string (str jt), .slice ja1 jn1 jc1, .slice ja2 jn2 jc2] 44 (0, 0)) := by
   rw [h9]
   exact hS6 (hS6 (hS6 (hS6 (hS6 rR9))))
  have HBF : Hid (Below w.heap.size w w9) := by
   show Below _ _ _
   rw [h9]
   have q : w.heap.size ≤ R := by have := uh HNE; omega
   have bu := (uh HBW5).trans ((uh HB9).mono (uh HBW5).size)
   exact ((((bu.setCell q _).setCell q _).setCell q _).setCell q _).setCell q _
  obtain ⟨e0, e1, e2, e3, e4⟩ : w9.cell? ⟨R, 0, none⟩ = some (.int .i64 jk) ∧ w9.cell? ⟨R, 1, none⟩ = some (.int .i64 jn) ∧ w9.cell? ⟨R, 2, none⟩ = some (.string (str jt)) ∧ w9.cell? ⟨R, 3, none⟩ = some (.slice ja1 jn1 jc1) ∧ w9.cell? ⟨R, 4, none⟩ = some (.slice ja2 jn2 jc2) := ⟨cR6 r9, cR6 r9, cR6 r9, cR6 r9, cR6 r9⟩
  have k9 : ∀ k, k ≠ R → w9.heap[k]? = u9.heap[k]? := fun k hk => by rw [h9]; rw [Below.heap_setCell _ ⟨R, 4, none⟩ _ k hk]; rw [Below.heap_setCell _ ⟨R, 3, none⟩ _ k hk]; rw [Below.heap_setCell _ ⟨R, 2, none⟩ _ k hk]; rw [Below.heap_setCell _ ⟨R, 1, none⟩ _ k hk]; rw [Below.heap_setCell _ ⟨R, 0, none⟩ _ k hk]
  have HJF := hide (show JV w9 (Nw w w9) _ _ from JV.keep (fun k hk => ⟨⟨by have := hk.1; have := (uh HBW5).size; omega, by rw [h9]; simp only [siz1]; exact hk.2⟩, k9 k (by have := hk.1; have := uh HNE; omega)⟩) _ _ (uh HJ9))
  clear rR9 r9 k9
  rw [← h9]
  clear h9
  refine ⟨rfl, _, by simp [results, Tryz.results27, go_sem, e0, e1, e2, e3, e4]; rfl, ?_⟩
  rw [uh HE]
  exact ⟨_, rfl, HJF, HBF⟩
 by_cases h3 : m.k = 3
 ·have q1 : (m.k == 1) = false := by rw [beq_eq_false_iff_ne]; omega
  have q2 : (m.k == 2) = false := by rw [beq_eq_false_iff_ne]; omega
  have q3 : (m.k == 3) = true := by rw [beq_iff_eq]; omega
  have HE := hide (uh HE0)
  rw [if_neg h1] at HE
  rw [if_neg h2] at HE
  rw [if_pos h3] at HE
  clear HE0 h1 h2 h3
  obtain ⟨d10, d11, d12, d13, d14, d15⟩ := cells6 (uh HMM1)
  obtain ⟨d20, d21, d22, d23, d24, d25⟩ := cells6 (uh HMM2)
  obtain ⟨d30, d31, d32, d33, d34, d35⟩ := cells6 (uh HMM3)
  obtain ⟨U, hU⟩ : ∃ U, U = w5.alloc (.cells #[.string (str [116, 121, 112, 101]), .int .i64 3, .int .i64 0, .string (str (tyM m.k)), .slice none 0 0, .slice none 0 0, .string (str [99, 108, 105, 101, 110, 116]), .int .i64 3, .int .i64 0, .string (str (m.c)), .slice none 0 0, .slice none 0 0, .string (str [99, 111, 111, 107, 105, 101]), .int .i64 2, .int .i64 m.co, .string ⟨#[]⟩, .slice none 0 0, .slice none 0 0] 85) := ⟨_, rfl⟩
  obtain ⟨B, hB⟩ : ∃ B, B = w5.heap.size := ⟨_, rfl⟩
  have bU : Below w5.heap.size w5 U := by rw [hU]; exact bA _
  have HO := hide (of_nw [tMm [116, 121, 112, 101] (tyM m.k), tMm [99, 108, 105, 101, 110, 116] m.c, nMm [99, 111, 111, 107, 105, 101] m.co] 3 B 3 rfl U (by rw [hU, hB]; exact heap_alloc_new _ _) w5 bU.size (fun z hz => by simp at hz; rcases hz with rfl | rfl | rfl <;> first | exact nMm_ok _ _ _ _ | exact tMm_ok _ _ _ _) (by simp))
  have HBU := hide bU
  have HU := hide hU
  have HUB := hide hB
  clear bU hU hB HLR
  go_wp2_with (go_at_call 60; rw [← uh HU, ← uh HUB]; refine (uh HO).mono ?_; rintro e u9 ⟨v, rfl, HJ9, h1⟩; obtain ⟨jk, jn, jt, ja1, jn1, jc1, ja2, jn2, jc2, rfl⟩ := (uh HJ9).form; have HB9 : Hid (Below w5.heap.size w5 u9) := (uh HBU).trans ((uh h1).mono (uh HBU).size); have rR9 := ((uh HB9).block R (aI (uh HRR)).1).trans (uh HRR); obtain ⟨y0, y1, y2, y3, y4⟩ := cells5 rR9; have z0 := frozen_of_row u9 R 0 _ _ rR9; have z1 := frozen_of_row u9 R 1 _ _ rR9; have z2 := frozen_of_row u9 R 2 _ _ rR9; have z3 := frozen_of_row u9 R 3 _ _ rR9; have z4 := frozen_of_row u9 R 4 _ _ rR9; have HR9 := hide rR9; clear rR9 h1 HO HBU HU HUB)
  obtain ⟨w9, h9⟩ : ∃ w9, w9 = ((((u9.setCell ⟨R, 0, none⟩ (.int .i64 jk)).setCell ⟨R, 1, none⟩ (.int .i64 jn)).setCell ⟨R, 2, none⟩ (.string (str jt))).setCell ⟨R, 3, none⟩ (.slice ja1 jn1 jc1)).setCell ⟨R, 4, none⟩ (.slice ja2 jn2 jc2) := ⟨_, rfl⟩
  have rR9 := uh HR9
  have r9 : w9.heap[R]? = some (.cells #[.int .i64 jk, .int .i64 jn, .string (str jt), .slice ja1 jn1 jc1, .slice ja2 jn2 jc2] 44 (0, 0)) := by
   rw [h9]
   exact hS6 (hS6 (hS6 (hS6 (hS6 rR9))))
  have HBF : Hid (Below w.heap.size w w9) := by
   show Below _ _ _
   rw [h9]
   have q : w.heap.size ≤ R := by have := uh HNE; omega
   have bu := (uh HBW5).trans ((uh HB9).mono (uh HBW5).size)
   exact ((((bu.setCell q _).setCell q _).setCell q _).setCell q _).setCell q _
  obtain ⟨e0, e1, e2, e3, e4⟩ : w9.cell? ⟨R, 0, none⟩ = some (.int .i64 jk) ∧ w9.cell? ⟨R, 1, none⟩ = some (.int .i64 jn) ∧ w9.cell? ⟨R, 2, none⟩ = some (.string (str jt)) ∧ w9.cell? ⟨R, 3, none⟩ = some (.slice ja1 jn1 jc1) ∧ w9.cell? ⟨R, 4, none⟩ = some (.slice ja2 jn2 jc2) := ⟨cR6 r9, cR6 r9, cR6 r9, cR6 r9, cR6 r9⟩
  have k9 : ∀ k, k ≠ R → w9.heap[k]? = u9.heap[k]? := fun k hk => by rw [h9]; rw [Below.heap_setCell _ ⟨R, 4, none⟩ _ k hk]; rw [Below.heap_setCell _ ⟨R, 3, none⟩ _ k hk]; rw [Below.heap_setCell _ ⟨R, 2, none⟩ _ k hk]; rw [Below.heap_setCell _ ⟨R, 1, none⟩ _ k hk]; rw [Below.heap_setCell _ ⟨R, 0, none⟩ _ k hk]
  have HJF := hide (show JV w9 (Nw w w9) _ _ from JV.keep (fun k hk => ⟨⟨by have := hk.1; have := (uh HBW5).size; omega, by rw [h9]; simp only [siz1]; exact hk.2⟩, k9 k (by have := hk.1; have := uh HNE; omega)⟩) _ _ (uh HJ9))
  clear rR9 r9 k9
  rw [← h9]
  clear h9
  refine ⟨rfl, _, by simp [results, Tryz.results27, go_sem, e0, e1, e2, e3, e4]; rfl, ?_⟩
  rw [uh HE]
  exact ⟨_, rfl, HJF, HBF⟩
 by_cases h4 : m.k = 4
 ·have q1 : (m.k == 1) = false := by rw [beq_eq_false_iff_ne]; omega
  have q2 : (m.k == 2) = false := by rw [beq_eq_false_iff_ne]; omega
  have q3 : (m.k == 3) = false := by rw [beq_eq_false_iff_ne]; omega
  have q4 : (m.k == 4) = true := by rw [beq_iff_eq]; omega
  have HE := hide (uh HE0)
  rw [if_neg h1] at HE
  rw [if_neg h2] at HE
  rw [if_neg h3] at HE
  rw [if_pos h4] at HE
  clear HE0 h1 h2 h3 h4
  have HS0 : Hid (∀ u, Below w5.heap.size w5 u → (u.cell? ⟨b1, 0, none⟩ = some (.string (str [116, 121, 112, 101])) ∧ u.cell? ⟨b1, 1, none⟩ = some (.int .i64 3) ∧ u.cell? ⟨b1, 2, none⟩ = some (.int .i64 0) ∧ u.cell? ⟨b1, 3, none⟩ = some (.string (str (tyM m.k))) ∧ u.cell? ⟨b1, 4, none⟩ = some (.slice none 0 0) ∧ u.cell? ⟨b1, 5, none⟩ = some (.slice none 0 0) ∧ u.cell? ⟨b3, 0, none⟩ = some (.string (str [99, 111, 111, 107, 105, 101])) ∧ u.cell? ⟨b3, 1, none⟩ = some (.int .i64 2) ∧ u.cell? ⟨b3, 2, none⟩ = some (.int .i64 m.co) ∧ u.cell? ⟨b3, 3, none⟩ = some (.string ⟨#[]⟩) ∧ u.cell? ⟨b3, 4, none⟩ = some (.slice none 0 0) ∧ u.cell? ⟨b3, 5, none⟩ = some (.slice none 0 0) ∧ u.cell? ⟨b4, 0, none⟩ = some (.string (str [108, 97, 115, 116])) ∧ u.cell? ⟨b4, 1, none⟩ = some (.int .i64 2) ∧ u.cell? ⟨b4, 2, none⟩ = some (.int .i64 m.la) ∧ u.cell? ⟨b4, 3, none⟩ = some (.string ⟨#[]⟩) ∧ u.cell? ⟨b4, 4, none⟩ = some (.slice none 0 0) ∧ u.cell? ⟨b4, 5, none⟩ = some (.slice none 0 0) ∧ u.cell? ⟨b5, 0, none⟩ = some (.string (str [116, 111, 112])) ∧ u.cell? ⟨b5, 1, none⟩ = some (.int .i64 2) ∧ u.cell? ⟨b5, 2, none⟩ = some (.int .i64 m.top) ∧ u.cell? ⟨b5, 3, none⟩ = some (.string ⟨#[]⟩) ∧ u.cell? ⟨b5, 4, none⟩ = some (.slice none 0 0) ∧ u.cell? ⟨b5, 5, none⟩ = some (.slice none 0 0) ∧ u.cell? ⟨X, 2, none⟩ = some (Value.int .i64 m.fr) ∧ u.cell? ⟨X, 6, none⟩ = some (Value.slice a n c))) := fun u hb => by
   have r_b1 := (hb.block b1 (aI (uh HMM1)).1).trans (uh HMM1)
   have r_b3 := (hb.block b3 (aI (uh HMM3)).1).trans (uh HMM3)
   have r_b4 := (hb.block b4 (aI (uh HMM4)).1).trans (uh HMM4)
   have r_b5 := (hb.block b5 (aI (uh HMM5)).1).trans (uh HMM5)
   have r_X := (hb.block X (aI (uh HXX)).1).trans (uh HXX)
   exact ⟨(cR6 r_b1), (cR6 r_b1), (cR6 r_b1), (cR6 r_b1), (cR6 r_b1), (cR6 r_b1), (cR6 r_b3), (cR6 r_b3), (cR6 r_b3), (cR6 r_b3), (cR6 r_b3), (cR6 r_b3), (cR6 r_b4), (cR6 r_b4), (cR6 r_b4), (cR6 r_b4), (cR6 r_b4), (cR6 r_b4), (cR6 r_b5), (cR6 r_b5), (cR6 r_b5), (cR6 r_b5), (cR6 r_b5), (cR6 r_b5), (cR6 r_X), (cR6 r_X)⟩
  have HTR : Hid (∀ u u', Hid (Below w5.heap.size w5 u) → Hid (Below u.heap.size u u') → Hid (Below w5.heap.size w5 u')) := fun u u' h h1 => (uh h).trans ((uh h1).mono (uh h).size)
  have HAB : Hid (∀ u ob, Hid (Below w5.heap.size w5 u) → Hid (Below w5.heap.size w5 (u.alloc ob))) := fun u ob h => (uh h).trans (((Below.refl _ _).alloc (Nat.le_refl _) ob).mono (uh h).size)
  have HTA : Hid (∀ u ob u', Hid (Below w5.heap.size w5 u) → Hid (Below (u.alloc ob).heap.size (u.alloc ob) u') → Hid (Below w5.heap.size w5 u')) := fun u ob u' h h1 => uh HTR _ _ (uh HAB u ob h) h1
  have HA0 : Hid (∀ u, Below w5.heap.size w5 u → ∀ ob, ((u.alloc ob).cell? ⟨b1, 0, none⟩ = some (.string (str [116, 121, 112, 101])) ∧ (u.alloc ob).cell? ⟨b1, 1, none⟩ = some (.int .i64 3) ∧ (u.alloc ob).cell? ⟨b1, 2, none⟩ = some (.int .i64 0) ∧ (u.alloc ob).cell? ⟨b1, 3, none⟩ = some (.string (str (tyM m.k))) ∧ (u.alloc ob).cell? ⟨b1, 4, none⟩ = some (.slice none 0 0) ∧ (u.alloc ob).cell? ⟨b1, 5, none⟩ = some (.slice none 0 0) ∧ (u.alloc ob).cell? ⟨b3, 0, none⟩ = some (.string (str [99, 111, 111, 107, 105, 101])) ∧ (u.alloc ob).cell? ⟨b3, 1, none⟩ = some (.int .i64 2) ∧ (u.alloc ob).cell? ⟨b3, 2, none⟩ = some (.int .i64 m.co) ∧ (u.alloc ob).cell? ⟨b3, 3, none⟩ = some (.string ⟨#[]⟩) ∧ (u.alloc ob).cell? ⟨b3, 4, none⟩ = some (.slice none 0 0) ∧ (u.alloc ob).cell? ⟨b3, 5, none⟩ = some (.slice none 0 0) ∧ (u.alloc ob).cell? ⟨b4, 0, none⟩ = some (.string (str [108, 97, 115, 116])) ∧ (u.alloc ob).cell? ⟨b4, 1, none⟩ = some (.int .i64 2) ∧ (u.alloc ob).cell? ⟨b4, 2, none⟩ = some (.int .i64 m.la) ∧ (u.alloc ob).cell? ⟨b4, 3, none⟩ = some (.string ⟨#[]⟩) ∧ (u.alloc ob).cell? ⟨b4, 4, none⟩ = some (.slice none 0 0) ∧ (u.alloc ob).cell? ⟨b4, 5, none⟩ = some (.slice none 0 0) ∧ (u.alloc ob).cell? ⟨b5, 0, none⟩ = some (.string (str [116, 111, 112])) ∧ (u.alloc ob).cell? ⟨b5, 1, none⟩ = some (.int .i64 2) ∧ (u.alloc ob).cell? ⟨b5, 2, none⟩ = some (.int .i64 m.top) ∧ (u.alloc ob).cell? ⟨b5, 3, none⟩ = some (.string ⟨#[]⟩) ∧ (u.alloc ob).cell? ⟨b5, 4, none⟩ = some (.slice none 0 0) ∧ (u.alloc ob).cell? ⟨b5, 5, none⟩ = some (.slice none 0 0) ∧ (u.alloc ob).cell? ⟨X, 2, none⟩ = some (Value.int .i64 m.fr) ∧ (u.alloc ob).cell? ⟨X, 6, none⟩ = some (Value.slice a n c))) := fun u hb ob => uh HS0 _ (uh (uh HAB u ob hb))
  have HS5 : Hid (∀ (u : World) (y0 y1 y2 y3 y4 : Value), (u.cell? ⟨b1, 0, none⟩ = some (.string (str [116, 121, 112, 101])) ∧ u.cell? ⟨b1, 1, none⟩ = some (.int .i64 3) ∧ u.cell? ⟨b1, 2, none⟩ = some (.int .i64 0) ∧ u.cell? ⟨b1, 3, none⟩ = some (.string (str (tyM m.k))) ∧ u.cell? ⟨b1, 4, none⟩ = some (.slice none 0 0) ∧ u.cell? ⟨b1, 5, none⟩ = some (.slice none 0 0) ∧ u.cell? ⟨b3, 0, none⟩ = some (.string (str [99, 111, 111, 107, 105, 101])) ∧ u.cell? ⟨b3, 1, none⟩ = some (.int .i64 2) ∧ u.cell? ⟨b3, 2, none⟩ = some (.int .i64 m.co) ∧ u.cell? ⟨b3, 3, none⟩ = some (.string ⟨#[]⟩) ∧ u.cell? ⟨b3, 4, none⟩ = some (.slice none 0 0) ∧ u.cell? ⟨b3, 5, none⟩ = some (.slice none 0 0) ∧ u.cell? ⟨b4, 0, none⟩ = some (.string (str [108, 97, 115, 116])) ∧ u.cell? ⟨b4, 1, none⟩ = some (.int .i64 2) ∧ u.cell? ⟨b4, 2, none⟩ = some (.int .i64 m.la) ∧ u.cell? ⟨b4, 3, none⟩ = some (.string ⟨#[]⟩) ∧ u.cell? ⟨b4, 4, none⟩ = some (.slice none 0 0) ∧ u.cell? ⟨b4, 5, none⟩ = some (.slice none 0 0) ∧ u.cell? ⟨b5, 0, none⟩ = some (.string (str [116, 111, 112])) ∧ u.cell? ⟨b5, 1, none⟩ = some (.int .i64 2) ∧ u.cell? ⟨b5, 2, none⟩ = some (.int .i64 m.top) ∧ u.cell? ⟨b5, 3, none⟩ = some (.string ⟨#[]⟩) ∧ u.cell? ⟨b5, 4, none⟩ = some (.slice none 0 0) ∧ u.cell? ⟨b5, 5, none⟩ = some (.slice none 0 0) ∧ u.cell? ⟨X, 2, none⟩ = some (Value.int .i64 m.fr) ∧ u.cell? ⟨X, 6, none⟩ = some (Value.slice a n c)) → ((((((u.setCell ⟨R, 0, none⟩ y0).setCell ⟨R, 1, none⟩ y1).setCell ⟨R, 2, none⟩ y2).setCell ⟨R, 3, none⟩ y3).setCell ⟨R, 4, none⟩ y4).cell? ⟨b1, 0, none⟩ = some (.string (str [116, 121, 112, 101])) ∧ (((((u.setCell ⟨R, 0, none⟩ y0).setCell ⟨R, 1, none⟩ y1).setCell ⟨R, 2, none⟩ y2).setCell ⟨R, 3, none⟩ y3).setCell ⟨R, 4, none⟩ y4).cell? ⟨b1, 1, none⟩ = some (.int .i64 3) ∧ (((((u.setCell ⟨R, 0, none⟩ y0).setCell ⟨R, 1, none⟩ y1).setCell ⟨R, 2, none⟩ y2).setCell ⟨R, 3, none⟩ y3).setCell ⟨R, 4, none⟩ y4).cell? ⟨b1, 2, none⟩ = some (.int .i64 0) ∧ (((((u.setCell ⟨R, 0, none⟩ y0).setCell ⟨R, 1, none⟩ y1).setCell ⟨R, 2, none⟩ y2).setCell ⟨R, 3, none⟩ y3).setCell ⟨R, 4, none⟩ y4).cell? ⟨b1, 3, none⟩ = some (.string (str (tyM m.k))) ∧ (((((u.setCell ⟨R, 0, none⟩ y0).setCell ⟨R, 1, none⟩ y1).setCell ⟨R, 2, none⟩ y2).setCell ⟨R, 3, none⟩ y3).setCell ⟨R, 4, none⟩ y4).cell? ⟨b1, 4, none⟩ = some (.slice none 0 0) ∧ (((((u.setCell ⟨R, 0, none⟩ y0).setCell ⟨R, 1, none⟩ y1).setCell ⟨R, 2, none⟩ y2).setCell ⟨R, 3, none⟩ y3).setCell ⟨R, 4, none⟩ y4).cell? ⟨b1, 5, none⟩ = some (.slice none 0 0) ∧ (((((u.setCell ⟨R, 0, none⟩ y0).setCell ⟨R, 1, none⟩ y1).setCell ⟨R, 2, none⟩ y2).setCell ⟨R, 3, none⟩ y3).setCell ⟨R, 4, none⟩ y4).cell? ⟨b3, 0, none⟩ = some (.string (str [99, 111, 111, 107, 105, 101])) ∧ (((((u.setCell ⟨R, 0, none⟩ y0).setCell ⟨R, 1, none⟩ y1).setCell ⟨R, 2, none⟩ y2).setCell ⟨R, 3, none⟩ y3).setCell ⟨R, 4, none⟩ y4).cell? ⟨b3, 1, none⟩ = some (.int .i64 2) ∧ (((((u.setCell ⟨R, 0, none⟩ y0).setCell ⟨R, 1, none⟩ y1).setCell ⟨R, 2, none⟩ y2).setCell ⟨R, 3, none⟩ y3).setCell ⟨R, 4, none⟩ y4).cell? ⟨b3, 2, none⟩ = some (.int .i64 m.co) ∧ (((((u.setCell ⟨R, 0, none⟩ y0).setCell ⟨R, 1, none⟩ y1).setCell ⟨R, 2, none⟩ y2).setCell ⟨R, 3, none⟩ y3).setCell ⟨R, 4, none⟩ y4).cell? ⟨b3, 3, none⟩ = some (.string ⟨#[]⟩) ∧ (((((u.setCell ⟨R, 0, none⟩ y0).setCell ⟨R, 1, none⟩ y1).setCell ⟨R, 2, none⟩ y2).setCell ⟨R, 3, none⟩ y3).setCell ⟨R, 4, none⟩ y4).cell? ⟨b3, 4, none⟩ = some (.slice none 0 0) ∧ (((((u.setCell ⟨R, 0, none⟩ y0).setCell ⟨R, 1, none⟩ y1).setCell ⟨R, 2, none⟩ y2).setCell ⟨R, 3, none⟩ y3).setCell ⟨R, 4, none⟩ y4).cell? ⟨b3, 5, none⟩ = some (.slice none 0 0) ∧ (((((u.setCell ⟨R, 0, none⟩ y0).setCell ⟨R, 1, none⟩ y1).setCell ⟨R, 2, none⟩ y2).setCell ⟨R, 3, none⟩ y3).setCell ⟨R, 4, none⟩ y4).cell? ⟨b4, 0, none⟩ = some (.string (str [108, 97, 115, 116])) ∧ (((((u.setCell ⟨R, 0, none⟩ y0).setCell ⟨R, 1, none⟩ y1).setCell ⟨R, 2, none⟩ y2).setCell ⟨R, 3, none⟩ y3).setCell ⟨R, 4, none⟩ y4).cell? ⟨b4, 1, none⟩ = some (.int .i64 2) ∧ (((((u.setCell ⟨R, 0, none⟩ y0).setCell ⟨R, 1, none⟩ y1).setCell ⟨R, 2, none⟩ y2).setCell ⟨R, 3, none⟩ y3).setCell ⟨R, 4, none⟩ y4).cell? ⟨b4, 2, none⟩ = some (.int .i64 m.la) ∧ (((((u.setCell ⟨R, 0, none⟩ y0).setCell ⟨R, 1, none⟩ y1).setCell ⟨R, 2, none⟩ y2).setCell ⟨R, 3, none⟩ y3).setCell ⟨R, 4, none⟩ y4).cell? ⟨b4, 3, none⟩ = some (.string ⟨#[]⟩) ∧ (((((u.setCell ⟨R, 0, none⟩ y0).setCell ⟨R, 1, none⟩ y1).setCell ⟨R, 2, none⟩ y2).setCell ⟨R, 3, none⟩ y3).setCell ⟨R, 4, none⟩ y4).cell? ⟨b4, 4, none⟩ = some (.slice none 0 0) ∧ (((((u.setCell ⟨R, 0, none⟩ y0).setCell ⟨R, 1, none⟩ y1).setCell ⟨R, 2, none⟩ y2).setCell ⟨R, 3, none⟩ y3).setCell ⟨R, 4, none⟩ y4).cell? ⟨b4, 5, none⟩ = some (.slice none 0 0) ∧ (((((u.setCell ⟨R, 0, none⟩ y0).setCell ⟨R, 1, none⟩ y1).setCell ⟨R, 2, none⟩ y2).setCell ⟨R, 3, none⟩ y3).setCell ⟨R, 4, none⟩ y4).cell? ⟨b5, 0, none⟩ = some (.string (str [116, 111, 112])) ∧ (((((u.setCell ⟨R, 0, none⟩ y0).setCell ⟨R, 1, none⟩ y1).setCell ⟨R, 2, none⟩ y2).setCell ⟨R, 3, none⟩ y3).setCell ⟨R, 4, none⟩ y4).cell? ⟨b5, 1, none⟩ = some (.int .i64 2) ∧ (((((u.setCell ⟨R, 0, none⟩ y0).setCell ⟨R, 1, none⟩ y1).setCell ⟨R, 2, none⟩ y2).setCell ⟨R, 3, none⟩ y3).setCell ⟨R, 4, none⟩ y4).cell? ⟨b5, 2, none⟩ = some (.int .i64 m.top) ∧ (((((u.setCell ⟨R, 0, none⟩ y0).setCell ⟨R, 1, none⟩ y1).setCell ⟨R, 2, none⟩ y2).setCell ⟨R, 3, none⟩ y3).setCell ⟨R, 4, none⟩ y4).cell? ⟨b5, 3, none⟩ = some (.string ⟨#[]⟩) ∧ (((((u.setCell ⟨R, 0, none⟩ y0).setCell ⟨R, 1, none⟩ y1).setCell ⟨R, 2, none⟩ y2).setCell ⟨R, 3, none⟩ y3).setCell ⟨R, 4, none⟩ y4).cell? ⟨b5, 4, none⟩ = some (.slice none 0 0) ∧ (((((u.setCell ⟨R, 0, none⟩ y0).setCell ⟨R, 1, none⟩ y1).setCell ⟨R, 2, none⟩ y2).setCell ⟨R, 3, none⟩ y3).setCell ⟨R, 4, none⟩ y4).cell? ⟨b5, 5, none⟩ = some (.slice none 0 0) ∧ (((((u.setCell ⟨R, 0, none⟩ y0).setCell ⟨R, 1, none⟩ y1).setCell ⟨R, 2, none⟩ y2).setCell ⟨R, 3, none⟩ y3).setCell ⟨R, 4, none⟩ y4).cell? ⟨X, 2, none⟩ = some (Value.int .i64 m.fr) ∧ (((((u.setCell ⟨R, 0, none⟩ y0).setCell ⟨R, 1, none⟩ y1).setCell ⟨R, 2, none⟩ y2).setCell ⟨R, 3, none⟩ y3).setCell ⟨R, 4, none⟩ y4).cell? ⟨X, 6, none⟩ = some (Value.slice a n c))) := fun u y0 y1 y2 y3 y4 h => by
   have ne := uh HNE
   obtain ⟨q0, q1, q2, q3, q4, q5, q6, q7, q8, q9, q10, q11, q12, q13, q14, q15, q16, q17, q18, q19, q20, q21, q22, q23, q24, q25⟩ := h
   have e_b1 : (((((u.setCell ⟨R, 0, none⟩ y0).setCell ⟨R, 1, none⟩ y1).setCell ⟨R, 2, none⟩ y2).setCell ⟨R, 3, none⟩ y3).setCell ⟨R, 4, none⟩ y4).heap[b1]? = u.heap[b1]? := by rw [Below.heap_setCell _ ⟨R, 4, none⟩ _ b1 (show b1 ≠ R by omega)]; rw [Below.heap_setCell _ ⟨R, 3, none⟩ _ b1 (show b1 ≠ R by omega)]; rw [Below.heap_setCell _ ⟨R, 2, none⟩ _ b1 (show b1 ≠ R by omega)]; rw [Below.heap_setCell _ ⟨R, 1, none⟩ _ b1 (show b1 ≠ R by omega)]; rw [Below.heap_setCell _ ⟨R, 0, none⟩ _ b1 (show b1 ≠ R by omega)]
   have e_b3 : (((((u.setCell ⟨R, 0, none⟩ y0).setCell ⟨R, 1, none⟩ y1).setCell ⟨R, 2, none⟩ y2).setCell ⟨R, 3, none⟩ y3).setCell ⟨R, 4, none⟩ y4).heap[b3]? = u.heap[b3]? := by rw [Below.heap_setCell _ ⟨R, 4, none⟩ _ b3 (show b3 ≠ R by omega)]; rw [Below.heap_setCell _ ⟨R, 3, none⟩ _ b3 (show b3 ≠ R by omega)]; rw [Below.heap_setCell _ ⟨R, 2, none⟩ _ b3 (show b3 ≠ R by omega)]; rw [Below.heap_setCell _ ⟨R, 1, none⟩ _ b3 (show b3 ≠ R by omega)]; rw [Below.heap_setCell _ ⟨R, 0, none⟩ _ b3 (show b3 ≠ R by omega)]
   have e_b4 : (((((u.setCell ⟨R, 0, none⟩ y0).setCell ⟨R, 1, none⟩ y1).setCell ⟨R, 2, none⟩ y2).setCell ⟨R, 3, none⟩ y3).setCell ⟨R, 4, none⟩ y4).heap[b4]? = u.heap[b4]? := by rw [Below.heap_setCell _ ⟨R, 4, none⟩ _ b4 (show b4 ≠ R by omega)]; rw [Below.heap_setCell _ ⟨R, 3, none⟩ _ b4 (show b4 ≠ R by omega)]; rw [Below.heap_setCell _ ⟨R, 2, none⟩ _ b4 (show b4 ≠ R by omega)]; rw [Below.heap_setCell _ ⟨R, 1, none⟩ _ b4 (show b4 ≠ R by omega)]; rw [Below.heap_setCell _ ⟨R, 0, none⟩ _ b4 (show b4 ≠ R by omega)]
   have e_b5 : (((((u.setCell ⟨R, 0, none⟩ y0).setCell ⟨R, 1, none⟩ y1).setCell ⟨R, 2, none⟩ y2).setCell ⟨R, 3, none⟩ y3).setCell ⟨R, 4, none⟩ y4).heap[b5]? = u.heap[b5]? := by rw [Below.heap_setCell _ ⟨R, 4, none⟩ _ b5 (show b5 ≠ R by omega)]; rw [Below.heap_setCell _ ⟨R, 3, none⟩ _ b5 (show b5 ≠ R by omega)]; rw [Below.heap_setCell _ ⟨R, 2, none⟩ _ b5 (show b5 ≠ R by omega)]; rw [Below.heap_setCell _ ⟨R, 1, none⟩ _ b5 (show b5 ≠ R by omega)]; rw [Below.heap_setCell _ ⟨R, 0, none⟩ _ b5 (show b5 ≠ R by omega)]
   have e_X : (((((u.setCell ⟨R, 0, none⟩ y0).setCell ⟨R, 1, none⟩ y1).setCell ⟨R, 2, none⟩ y2).setCell ⟨R, 3, none⟩ y3).setCell ⟨R, 4, none⟩ y4).heap[X]? = u.heap[X]? := by rw [Below.heap_setCell _ ⟨R, 4, none⟩ _ X (show X ≠ R by omega)]; rw [Below.heap_setCell _ ⟨R, 3, none⟩ _ X (show X ≠ R by omega)]; rw [Below.heap_setCell _ ⟨R, 2, none⟩ _ X (show X ≠ R by omega)]; rw [Below.heap_setCell _ ⟨R, 1, none⟩ _ X (show X ≠ R by omega)]; rw [Below.heap_setCell _ ⟨R, 0, none⟩ _ X (show X ≠ R by omega)]
   exact ⟨cell_keep e_b1 q0, cell_keep e_b1 q1, cell_keep e_b1 q2, cell_keep e_b1 q3, cell_keep e_b1 q4, cell_keep e_b1 q5, cell_keep e_b3 q6, cell_keep e_b3 q7, cell_keep e_b3 q8, cell_keep e_b3 q9, cell_keep e_b3 q10, cell_keep e_b3 q11, cell_keep e_b4 q12, cell_keep e_b4 q13, cell_keep e_b4 q14, cell_keep e_b4 q15, cell_keep e_b4 q16, cell_keep e_b4 q17, cell_keep e_b5 q18, cell_keep e_b5 q19, cell_keep e_b5 q20, cell_keep e_b5 q21, cell_keep e_b5 q22, cell_keep e_b5 q23, cell_keep e_X q24, cell_keep e_X q25⟩
  have B0 : Hid (Below w5.heap.size w5 w5.drew) := Below.drew (Below.refl _ _)
  have s0 := uh HS0 w5.drew (uh B0)
  go_upto_region 14 with fail
  go_region_held3 (fun w' => w'.cell? ⟨b1, 0, none⟩ = some (.string (str [116, 121, 112, 101])) ∧ w'.cell? ⟨b1, 1, none⟩ = some (.int .i64 3) ∧ w'.cell? ⟨b1, 2, none⟩ = some (.int .i64 0) ∧ w'.cell? ⟨b1, 3, none⟩ = some (.string (str (tyM m.k))) ∧ w'.cell? ⟨b1, 4, none⟩ = some (.slice none 0 0) ∧ w'.cell? ⟨b1, 5, none⟩ = some (.slice none 0 0) ∧ w'.cell? ⟨b3, 0, none⟩ = some (.string (str [99, 111, 111, 107, 105, 101])) ∧ w'.cell? ⟨b3, 1, none⟩ = some (.int .i64 2) ∧ w'.cell? ⟨b3, 2, none⟩ = some (.int .i64 m.co) ∧ w'.cell? ⟨b3, 3, none⟩ = some (.string ⟨#[]⟩) ∧ w'.cell? ⟨b3, 4, none⟩ = some (.slice none 0 0) ∧ w'.cell? ⟨b3, 5, none⟩ = some (.slice none 0 0) ∧ w'.cell? ⟨b4, 0, none⟩ = some (.string (str [108, 97, 115, 116])) ∧ w'.cell? ⟨b4, 1, none⟩ = some (.int .i64 2) ∧ w'.cell? ⟨b4, 2, none⟩ = some (.int .i64 m.la) ∧ w'.cell? ⟨b4, 3, none⟩ = some (.string ⟨#[]⟩) ∧ w'.cell? ⟨b4, 4, none⟩ = some (.slice none 0 0) ∧ w'.cell? ⟨b4, 5, none⟩ = some (.slice none 0 0) ∧ w'.cell? ⟨b5, 0, none⟩ = some (.string (str [116, 111, 112])) ∧ w'.cell? ⟨b5, 1, none⟩ = some (.int .i64 2) ∧ w'.cell? ⟨b5, 2, none⟩ = some (.int .i64 m.top) ∧ w'.cell? ⟨b5, 3, none⟩ = some (.string ⟨#[]⟩) ∧ w'.cell? ⟨b5, 4, none⟩ = some (.slice none 0 0) ∧ w'.cell? ⟨b5, 5, none⟩ = some (.slice none 0 0) ∧ w'.cell? ⟨X, 2, none⟩ = some (Value.int .i64 m.fr) ∧ w'.cell? ⟨X, 6, none⟩ = some (Value.slice a n c)) (first | with_reducible exact aS | with_reducible exact s1 | with_reducible exact a1 _ | with_reducible exact s0) ((first
   | (go_at_call 59; refine (numM_any _ _ _).mono ?_; rintro e u1 ⟨rfl, h1⟩; have B1 := uh HTR _ _ ‹Hid (Below w5.heap.size w5 _)› h1; have s1 := uh HS0 _ (uh B1); have a1 := uh HA0 _ (uh B1))
   | (go_at_call 62; refine (eachLg_any _ _ _ m.l _ (uh HLR _ (by exact uh ‹Hid (Below w5.heap.size w5 _)›)) hn9).mono ?_; rintro e u1 ⟨x1, y1, rfl, hjr, h1⟩; have hzr := ‹Hid (Below w5.heap.size w5 _)›; have B1 := uh HTR _ _ ‹Hid (Below w5.heap.size w5 _)› h1; have s1 := uh HS0 _ (uh B1); have a1 := uh HA0 _ (uh B1))
   | (go_at_call 61; refine (listM_any _ _ _ _ _).mono ?_; rintro e u1 ⟨rfl, h1⟩; have B1 := uh HTR _ _ ‹Hid (Below w5.heap.size w5 _)› h1; have s1 := uh HS0 _ (uh B1); have a1 := uh HA0 _ (uh B1))
   | (go_at_call 60; refine (of_nw [tMm [116, 121, 112, 101] (tyM m.k), nMm [102, 114, 111, 109] m.fr, nMm [99, 111, 111, 107, 105, 101] m.co, nMm [108, 97, 115, 116] m.la, nMm [116, 111, 112] m.top, ⟨[108, 105, 115, 116], .int .i64 4, .int .i64 0, .string ⟨#[]⟩, .slice none 0 0, .slice x1 n y1, .mk 4 0 [] [] (m.l.map lgJ)⟩] 6 _ 6 rfl _ (heap_alloc_new _ _) w5 (by exact (uh (uh HAB _ _ ‹Hid (Below w5.heap.size w5 _)›)).size) (fun z hz => by simp at hz; rcases hz with rfl | rfl | rfl | rfl | rfl | rfl <;> first | exact nMm_ok _ _ _ _ | exact tMm_ok _ _ _ _ | exact ⟨js_list (uh hjr) (uh hzr) (by exact uh (uh HALB _ _ (by assumption) _)), by simp [Mm.vs, Value.oneCell']⟩) (by simp)).mono ?_; rintro e u9 ⟨v, rfl, HJ9, h1⟩; obtain ⟨jk, jn, jt, ja1, jn1, jc1, ja2, jn2, jc2, rfl⟩ := (uh HJ9).form; have B9 := uh HTA _ _ _ ‹Hid (Below w5.heap.size w5 _)› h1; have s1 := uh HS0 _ (uh B9); have rR9 := ((uh B9).block R (aI (uh HRR)).1).trans (uh HRR); obtain ⟨y0, y1, y2, y3, y4⟩ : u9.cell? ⟨R, 0, none⟩ = some (.int .i64 0) ∧ u9.cell? ⟨R, 1, none⟩ = some (.int .i64 0) ∧ u9.cell? ⟨R, 2, none⟩ = some (.string ⟨#[]⟩) ∧ u9.cell? ⟨R, 3, none⟩ = some (.slice none 0 0) ∧ u9.cell? ⟨R, 4, none⟩ = some (.slice none 0 0) := ⟨cR6 rR9, cR6 rR9, cR6 rR9, cR6 rR9, cR6 rR9⟩; have z0 := frozen_of_row u9 R 0 _ _ rR9; have z1 := frozen_of_row u9 R 1 _ _ rR9; have z2 := frozen_of_row u9 R 2 _ _ rR9; have z3 := frozen_of_row u9 R 3 _ _ rR9; have z4 := frozen_of_row u9 R 4 _ _ rR9; have HR9 := hide rR9; have HB9 := B9; have aS := uh HS5 u9 (.int .i64 jk) (.int .i64 jn) (.string (str jt)) (.slice ja1 jn1 jc1) (.slice ja2 jn2 jc2) s1; clear rR9)))
  obtain ⟨w9, h9⟩ : ∃ w9, w9 = ((((u9.setCell ⟨R, 0, none⟩ (.int .i64 jk)).setCell ⟨R, 1, none⟩ (.int .i64 jn)).setCell ⟨R, 2, none⟩ (.string (str jt))).setCell ⟨R, 3, none⟩ (.slice ja1 jn1 jc1)).setCell ⟨R, 4, none⟩ (.slice ja2 jn2 jc2) := ⟨_, rfl⟩
  have rR9 := uh HR9
  have r9 : w9.heap[R]? = some (.cells #[.int .i64 jk, .int .i64 jn, .string (str jt), .slice ja1 jn1 jc1, .slice ja2 jn2 jc2] 44 (0, 0)) := by
   rw [h9]
   exact hS6 (hS6 (hS6 (hS6 (hS6 rR9))))
  have HBF : Hid (Below w.heap.size w w9) := by
   show Below _ _ _
   rw [h9]
   have q : w.heap.size ≤ R := by have := uh HNE; omega
   have bu := (uh HBW5).trans ((uh HB9).mono (uh HBW5).size)
   exact ((((bu.setCell q _).setCell q _).setCell q _).setCell q _).setCell q _
  obtain ⟨e0, e1, e2, e3, e4⟩ : w9.cell? ⟨R, 0, none⟩ = some (.int .i64 jk) ∧ w9.cell? ⟨R, 1, none⟩ = some (.int .i64 jn) ∧ w9.cell? ⟨R, 2, none⟩ = some (.string (str jt)) ∧ w9.cell? ⟨R, 3, none⟩ = some (.slice ja1 jn1 jc1) ∧ w9.cell? ⟨R, 4, none⟩ = some (.slice ja2 jn2 jc2) := ⟨cR6 r9, cR6 r9, cR6 r9, cR6 r9, cR6 r9⟩
  have k9 : ∀ k, k ≠ R → w9.heap[k]? = u9.heap[k]? := fun k hk => by rw [h9]; rw [Below.heap_setCell _ ⟨R, 4, none⟩ _ k hk]; rw [Below.heap_setCell _ ⟨R, 3, none⟩ _ k hk]; rw [Below.heap_setCell _ ⟨R, 2, none⟩ _ k hk]; rw [Below.heap_setCell _ ⟨R, 1, none⟩ _ k hk]; rw [Below.heap_setCell _ ⟨R, 0, none⟩ _ k hk]
  have HJF := hide (show JV w9 (Nw w w9) _ _ from JV.keep (fun k hk => ⟨⟨by have := hk.1; have := (uh HBW5).size; omega, by rw [h9]; simp only [siz1]; exact hk.2⟩, k9 k (by have := hk.1; have := uh HNE; omega)⟩) _ _ (uh HJ9))
  clear rR9 r9 k9
  rw [← h9]
  clear h9
  go_wp2_with fail
  refine ⟨rfl, _, by simp [results, Tryz.results27, go_sem, e0, e1, e2, e3, e4]; rfl, ?_⟩
  rw [uh HE]
  exact ⟨_, rfl, HJF, HBF⟩
 have q1 : (m.k == 1) = false := by rw [beq_eq_false_iff_ne]; omega
 have q2 : (m.k == 2) = false := by rw [beq_eq_false_iff_ne]; omega
 have q3 : (m.k == 3) = false := by rw [beq_eq_false_iff_ne]; omega
 have q4 : (m.k == 4) = false := by rw [beq_eq_false_iff_ne]; omega
 have HE := hide (uh HE0)
 rw [if_neg h1] at HE
 rw [if_neg h2] at HE
 rw [if_neg h3] at HE
 rw [if_neg h4] at HE
 clear HE0 h1 h2 h3 h4
 obtain ⟨d10, d11, d12, d13, d14, d15⟩ := cells6 (uh HMM1)
 obtain ⟨d50, d51, d52, d53, d54, d55⟩ := cells6 (uh HMM5)
 obtain ⟨U, hU⟩ : ∃ U, U = w5.alloc (.cells #[.string (str [116, 121, 112, 101]), .int .i64 3, .int .i64 0, .string (str (tyM m.k)), .slice none 0 0, .slice none 0 0, .string (str [116, 111, 112]), .int .i64 2, .int .i64 m.top, .string ⟨#[]⟩, .slice none 0 0, .slice none 0 0] 85) := ⟨_, rfl⟩
 obtain ⟨B, hB⟩ : ∃ B, B = w5.heap.size := ⟨_, rfl⟩
 have bU : Below w5.heap.size w5 U := by rw [hU]; exact bA _
 have HO := hide (of_nw [tMm [116, 121, 112, 101] (tyM m.k), nMm [116, 111, 112] m.top] 2 B 2 rfl U (by rw [hU, hB]; exact heap_alloc_new _ _) w5 bU.size (fun z hz => by simp at hz; rcases hz with rfl | rfl <;> first | exact nMm_ok _ _ _ _ | exact tMm_ok _ _ _ _) (by simp))
 have HBU := hide bU
 have HU := hide hU
 have HUB := hide hB
 clear bU hU hB HLR
 go_wp2_with (go_at_call 60; rw [← uh HU, ← uh HUB]; refine (uh HO).mono ?_; rintro e u9 ⟨v, rfl, HJ9, h1⟩; obtain ⟨jk, jn, jt, ja1, jn1, jc1, ja2, jn2, jc2, rfl⟩ := (uh HJ9).form; have HB9 : Hid (Below w5.heap.size w5 u9) := (uh HBU).trans ((uh h1).mono (uh HBU).size); have rR9 := ((uh HB9).block R (aI (uh HRR)).1).trans (uh HRR); obtain ⟨y0, y1, y2, y3, y4⟩ := cells5 rR9; have z0 := frozen_of_row u9 R 0 _ _ rR9; have z1 := frozen_of_row u9 R 1 _ _ rR9; have z2 := frozen_of_row u9 R 2 _ _ rR9; have z3 := frozen_of_row u9 R 3 _ _ rR9; have z4 := frozen_of_row u9 R 4 _ _ rR9; have HR9 := hide rR9; clear rR9 h1 HO HBU HU HUB)
 obtain ⟨w9, h9⟩ : ∃ w9, w9 = ((((u9.setCell ⟨R, 0, none⟩ (.int .i64 jk)).setCell ⟨R, 1, none⟩ (.int .i64 jn)).setCell ⟨R, 2, none⟩ (.string (str jt))).setCell ⟨R, 3, none⟩ (.slice ja1 jn1 jc1)).setCell ⟨R, 4, none⟩ (.slice ja2 jn2 jc2) := ⟨_, rfl⟩
 have rR9 := uh HR9
 have r9 : w9.heap[R]? = some (.cells #[.int .i64 jk, .int .i64 jn, .string (str jt), .slice ja1 jn1 jc1, .slice ja2 jn2 jc2] 44 (0, 0)) := by
  rw [h9]
  exact hS6 (hS6 (hS6 (hS6 (hS6 rR9))))
 have HBF : Hid (Below w.heap.size w w9) := by
  show Below _ _ _
  rw [h9]
  have q : w.heap.size ≤ R := by have := uh HNE; omega
  have bu := (uh HBW5).trans ((uh HB9).mono (uh HBW5).size)
  exact ((((bu.setCell q _).setCell q _).setCell q _).setCell q _).setCell q _
 obtain ⟨e0, e1, e2, e3, e4⟩ : w9.cell? ⟨R, 0, none⟩ = some (.int .i64 jk) ∧ w9.cell? ⟨R, 1, none⟩ = some (.int .i64 jn) ∧ w9.cell? ⟨R, 2, none⟩ = some (.string (str jt)) ∧ w9.cell? ⟨R, 3, none⟩ = some (.slice ja1 jn1 jc1) ∧ w9.cell? ⟨R, 4, none⟩ = some (.slice ja2 jn2 jc2) := ⟨cR6 r9, cR6 r9, cR6 r9, cR6 r9, cR6 r9⟩
 have k9 : ∀ k, k ≠ R → w9.heap[k]? = u9.heap[k]? := fun k hk => by rw [h9]; rw [Below.heap_setCell _ ⟨R, 4, none⟩ _ k hk]; rw [Below.heap_setCell _ ⟨R, 3, none⟩ _ k hk]; rw [Below.heap_setCell _ ⟨R, 2, none⟩ _ k hk]; rw [Below.heap_setCell _ ⟨R, 1, none⟩ _ k hk]; rw [Below.heap_setCell _ ⟨R, 0, none⟩ _ k hk]
 have HJF := hide (show JV w9 (Nw w w9) _ _ from JV.keep (fun k hk => ⟨⟨by have := hk.1; have := (uh HBW5).size; omega, by rw [h9]; simp only [siz1]; exact hk.2⟩, k9 k (by have := hk.1; have := uh HNE; omega)⟩) _ _ (uh HJ9))
 clear rR9 r9 k9
 rw [← h9]
 clear h9
 refine ⟨rfl, _, by simp [results, Tryz.results27, go_sem, e0, e1, e2, e3, e4]; rfl, ?_⟩
 rw [uh HE]
 exact ⟨_, rfl, HJF, HBF⟩
end Go.Proofs.YtmpjeahibfdehaaGreatDoor
end
section
set_option linter.unusedVariables false
set_option maxRecDepth 1000000
namespace Go.Proofs.YtmpjeahibfdehaaGreatDoor
open Go.RowKit

def m16 (k : Nat) : Nat := min k 65536
theorem m16_le (k : Nat) : m16 k ≤ 65536 := by unfold m16; omega
theorem m16_int (k : Nat) : (if (65536 : Int) < (k : Int) then (65536 : Int) else (k : Int)) = ((m16 k : Nat) : Int) := by unfold m16; split <;> omega
def lgB (x : Lg) : Nat := m16 x.c.length + m16 x.m.i.length + m16 x.m.n.length + m16 x.m.t.length
def fnS (l : List Lg) : Nat := ((l.take 51).map lgB).sum
def fnM (l : List Lg) : Bool := decide (l.length ≤ 50) && decide (fnS l ≤ 65536)
theorem lgB_take {l : List Lg} {k : Nat} {x : Lg} (h : l[k]? = some x) : ((l.take (k + 1)).map lgB).sum = ((l.take k).map lgB).sum + lgB x := by
 rw [List.take_add_one, h]
 simp
theorem fn_50 {l : List Lg} (h : fnM l = true) : l.length ≤ 50 := by
 unfold fnM at h
 simp only [Bool.and_eq_true, decide_eq_true_eq] at h
 exact h.1
set_option maxHeartbeats 16000000 in
theorem fine_any (a : Option Addr) (n c : Nat) (l : List Lg) (w : World) (hl : LRow w a n l) :
  Calls Tryz.prog 9 #[.slice a n c] w fun e w' => e = .returned (.bool (fnM l)) ∧ Hid (Below w.heap.size w w') := by
 have HL := hide hl
 have HN : Hid (n = l.length) := hl.1
 have I0 : Hid (Below w.heap.size w w ∧ 0 = ((l.take 0).map lgB).sum) := ⟨Below.refl _ _, by simp⟩
 clear hl
 go_enter Tryz.func9, Tryz.ntmps9
 go_wp2_with fail
 go_loopw [3, 4] (fun vs v wr => ∃ q s : Nat, q ≤ n ∧ q ≤ 51 ∧ s ≤ q * 262144 ∧ vs = .int .i64 (s : Int) ∧ v = .int .i64 (q : Int) ∧ Hid (Below w.heap.size w wr ∧ s = ((l.take q).map lgB).sum)) (fun _ v _ => n - (intOf v).toNat)
 case atStart => exact ⟨0, 0, Nat.zero_le _, by omega, by omega, rfl, rfl, I0⟩
 case round =>
  obtain ⟨q, s, hq, hq51, hs, rfl, rfl, HI⟩ := hrel
  clear I0
  by_cases hlt : q < n
  ·have hlt' : (q : Int) < (n : Int) := by omega
   by_cases h50 : q ≤ 50
   ·have h50' : (q : Int) ≤ (50 : Int) := by omega
    obtain ⟨x, hx⟩ : ∃ x, l[q]? = some x := ⟨_, List.getElem?_eq_getElem (by have := uh HN; omega)⟩
    have hbw := (uh HI).1
    obtain ⟨b, off, rfl, hbl, hc⟩ := ((uh HL).below hbw).2 (fun e => by rw [e] at hx; simp at hx)
    have g0 := hc q x hx 0 _ rfl
    have g2 := hc q x hx 2 _ rfl
    have g3 := hc q x hx 3 _ rfl
    have g4 := hc q x hx 4 _ rfl
    have g5 := hc q x hx 5 _ rfl
    rw [Nat.add_zero] at g0
    obtain ⟨E, hE⟩ : ∃ E, E = wr.heap.size := ⟨_, rfl⟩
    obtain ⟨W5, h5⟩ : ∃ W5, W5 = wr.alloc (.cells #[.int .i64 x.m.k, .string (str x.m.i), .string (str x.m.n), .string (str x.m.t)] 26) := ⟨_, rfl⟩
    have b5 : Below wr.heap.size wr W5 := by rw [h5]; exact bA _
    have r5 : W5.heap[E]? = some (.cells #[.int .i64 x.m.k, .string (str x.m.i), .string (str x.m.n), .string (str x.m.t)] 26 (0, 0)) := by rw [h5, hE]; exact heap_alloc_new _ _
    obtain ⟨e0, e1, e2, e3⟩ := cells4 r5
    have f0 := cell_keep (b5.block b hbl) g0
    have k0 : (str x.c).size = x.c.length := str_size _
    have k1 : (str x.m.i).size = x.m.i.length := str_size _
    have k2 : (str x.m.n).size = x.m.n.length := str_size _
    have k3 : (str x.m.t).size = x.m.t.length := str_size _
    obtain ⟨q0, y0⟩ : ∃ q0, q0 = m16 x.c.length := ⟨_, rfl⟩
    obtain ⟨q1, y1⟩ : ∃ q1, q1 = m16 x.m.i.length := ⟨_, rfl⟩
    obtain ⟨q2, y2⟩ : ∃ q2, q2 = m16 x.m.n.length := ⟨_, rfl⟩
    obtain ⟨q3, y3⟩ : ∃ q3, q3 = m16 x.m.t.length := ⟨_, rfl⟩
    have z0 := m16_int x.c.length
    have z1 := m16_int x.m.i.length
    have z2 := m16_int x.m.n.length
    have z3 := m16_int x.m.t.length
    have l0 := m16_le x.c.length
    have l1 := m16_le x.m.i.length
    have l2 := m16_le x.m.n.length
    have l3 := m16_le x.m.t.length
    rw [← y0] at z0 l0
    rw [← y1] at z1 l1
    rw [← y2] at z2 l2
    rw [← y3] at z3 l3
    have HS : Hid (Below w.heap.size w W5 ∧ s + (q0 + q1 + q2 + q3) = ((l.take (q + 1)).map lgB).sum) := by
     refine ⟨hbw.trans (b5.mono hbw.size), ?_⟩
     rw [lgB_take hx, (uh HI).2, y0, y1, y2, y3]
     rfl
    clear hx hbw hbl hc b5 r5 y0 y1 y2 y3 HI
    go_upto_region 6 with fail
    rw [← h5, ← hE]
    clear h5 hE g0 g2 g3 g4 g5
    go_quiet (fail)
    go_wp2_with fail
    go_round
    case rel => exact ⟨q + 1, s + (q0 + q1 + q2 + q3), by omega, by omega, by omega, by go_num, by go_num, by have := uh HS; exact ⟨bdj this.1 _, this.2⟩⟩
    case measure => simp [intOf]; omega
   ·have h50' : ¬ (q : Int) ≤ (50 : Int) := by omega
    obtain rfl : q = 51 := by omega
    have HD : Hid (Below w.heap.size w wr ∧ s = fnS l ∧ fnM l = false) := ⟨(uh HI).1, (uh HI).2, by unfold fnM; rw [decide_eq_false (by have := uh HN; omega)]; rfl⟩
    have n50 : ¬ (n : Int) ≤ 50 := by omega
    clear HI HL
    go_wp2_with fail
    go_ret
    exact ⟨by rw [(uh HD).2.2]; try rfl, (uh HD).1⟩
  ·have hlt' : ¬ (q : Int) < (n : Int) := by omega
   obtain rfl : q = n := by omega
   have HD : Hid (Below w.heap.size w wr ∧ s = fnS l ∧ fnM l = (decide (q ≤ 50) && decide (s ≤ 65536))) := by
    have e : s = fnS l := by
     have := (uh HI).2
     rw [this, uh HN, List.take_length]
     unfold fnS
     rw [List.take_of_length_le (by have := uh HN; omega)]
    exact ⟨(uh HI).1, e, by unfold fnM; rw [← e, ← uh HN]⟩
   clear HI HL
   by_cases n50 : q ≤ 50
   ·have n50' : (q : Int) ≤ 50 := by omega
    by_cases hsm : s ≤ 65536
    ·have hsm' : (s : Int) ≤ 65536 := by omega
     go_wp2_with fail
     go_ret
     exact ⟨by rw [(uh HD).2.2, decide_eq_true n50, decide_eq_true hsm]; rfl, (uh HD).1⟩
    ·have hsm' : ¬ (s : Int) ≤ 65536 := by omega
     go_wp2_with fail
     go_ret
     exact ⟨by rw [(uh HD).2.2, decide_eq_true n50, decide_eq_false hsm]; rfl, (uh HD).1⟩
   ·have n50' : ¬ (q : Int) ≤ 50 := by omega
    go_wp2_with fail
    go_ret
    exact ⟨by rw [(uh HD).2.2, decide_eq_false n50]; rfl, (uh HD).1⟩
set_option maxHeartbeats 16000000 in
theorem same13 (m : Mg) (a : Option Addr) (n c : Nat) (a2 : Option Addr) (n2 c2 : Nat) (w : World) (h1 : LRow w a n m.l) (h2 : LRow w a2 n2 m.l) (hn9 : n ≤ 1000000) :
  Calls Tryz.prog 13 #[mgV m a n c, mgV m a2 n2 c2] w fun e w' => e = .returned (.bool true) ∧ Hid (Below w.heap.size w w') := by
 obtain rfl : n = n2 := h1.1.trans h2.1.symm
 unfold mgV
 obtain ⟨X, hX⟩ : ∃ X, X = w.heap.size := ⟨_, rfl⟩
 obtain ⟨Y, hY⟩ : ∃ Y, Y = w.heap.size + 1 := ⟨_, rfl⟩
 obtain ⟨W, hW⟩ : ∃ W, W = (w.alloc (.cells #[.int .i64 m.k, .string (str m.c), .int .i64 m.fr, .int .i64 m.co, .int .i64 m.la, .int .i64 m.top, .slice a n c] 24)).alloc (.cells #[.int .i64 m.k, .string (str m.c), .int .i64 m.fr, .int .i64 m.co, .int .i64 m.la, .int .i64 m.top, .slice a2 n c2] 24) := ⟨_, rfl⟩
 have bW : Below w.heap.size w W := by rw [hW]; exact below2 w _ _
 have rX : W.heap[X]? = some (.cells #[.int .i64 m.k, .string (str m.c), .int .i64 m.fr, .int .i64 m.co, .int .i64 m.la, .int .i64 m.top, .slice a n c] 24 (0, 0)) := by
  rw [hW, hX, heap_alloc_old _ _ (by simp)]
  exact heap_alloc_new _ _
 have rY : W.heap[Y]? = some (.cells #[.int .i64 m.k, .string (str m.c), .int .i64 m.fr, .int .i64 m.co, .int .i64 m.la, .int .i64 m.top, .slice a2 n c2] 24 (0, 0)) := by
  rw [hW, hY]
  exact heap_alloc2_new _ _ _
 obtain ⟨p0, p1, p2, p3, p4, p5, p6⟩ := cells7 rX
 obtain ⟨r0, r1, r2, r3, r4, r5, r6⟩ := cells7 rY
 have HN : Hid (n = m.l.length) := h1.1
 have H1 := hide (h1.below bW)
 have H2 := hide (h2.below bW)
 have HX := hide rX
 have HY := hide rY
 have HBW := hide bW
 clear rX rY bW h1 h2
 go_enter Tryz.func13, Tryz.ntmps13
 go_upto_region 1 with fail
 rw [← hW, ← hY, ← hX]
 clear hW hX hY
 go_wp2_with fail
 clear p0 p1 p2 p3 p4 p5 p6 r0 r1 r2 r3 r4 r5 r6
 go_loopw [58] (fun v wr => ∃ q : Nat, q ≤ n ∧ v = .int .i64 (q : Int) ∧ Hid (Below W.heap.size W wr)) (fun v _ => n - (intOf v).toNat)
 case atStart => exact ⟨0, Nat.zero_le _, rfl, Below.refl _ _⟩
 case round =>
  obtain ⟨q, hq, rfl, HB⟩ := hrel
  by_cases hlt : q < n
  ·have hlt' : (q : Int) < (n : Int) := by omega
   have hq0 : (0 : Int) ≤ (q : Int) := by omega
   obtain ⟨x, hx⟩ : ∃ x, m.l[q]? = some x := ⟨_, List.getElem?_eq_getElem (by have := uh HN; omega)⟩
   obtain ⟨b, off, rfl, hbl, hc⟩ := ((uh H1).below (uh HB)).2 (fun e => by rw [e] at hx; simp at hx)
   obtain ⟨b2, off2, rfl, hbl2, hc2⟩ := ((uh H2).below (uh HB)).2 (fun e => by rw [e] at hx; simp at hx)
   have p6 := (cells7 (((uh HB).block X (aI (uh HX)).1).trans (uh HX))).2.2.2.2.2.2
   have r6 := (cells7 (((uh HB).block Y (aI (uh HY)).1).trans (uh HY))).2.2.2.2.2.2
   have g0 := hc q x hx 0 _ rfl
   have g1 := hc q x hx 1 _ rfl
   have g2 := hc q x hx 2 _ rfl
   have g3 := hc q x hx 3 _ rfl
   have g4 := hc q x hx 4 _ rfl
   have g5 := hc q x hx 5 _ rfl
   have d0 := hc2 q x hx 0 _ rfl
   have d1 := hc2 q x hx 1 _ rfl
   have d2 := hc2 q x hx 2 _ rfl
   have d3 := hc2 q x hx 3 _ rfl
   have d4 := hc2 q x hx 4 _ rfl
   have d5 := hc2 q x hx 5 _ rfl
   rw [Nat.add_zero] at g0 d0
   clear hc hc2 hx hbl hbl2
   go_upto_region 6 with fail
   go_quiet (fail)
   go_wp2_with fail
   go_round
   case rel => exact ⟨q + 1, by omega, by go_num, bdj (uh HB) _⟩
   case measure => simp [intOf]; omega
  ·have hlt' : ¬ (q : Int) < (n : Int) := by omega
   obtain rfl : q = n := by omega
   have HF : Hid (Below w.heap.size w wr) := (uh HBW).trans ((uh HB).mono (uh HBW).size)
   clear HB
   go_wp2_with fail
   go_ret
   exact ⟨rfl, HF⟩
end Go.Proofs.YtmpjeahibfdehaaGreatDoor
end
section
set_option linter.unusedVariables false
set_option maxRecDepth 1000000
namespace Go.Proofs.YtmpjeahibfdehaaGreatDoor
open Go.RowKit

def sameB (x m : Mg) : Bool := decide (x.k = m.k) && decide (x.c = m.c) && decide (x.fr = m.fr) && decide (x.co = m.co) && decide (x.la = m.la) && decide (x.top = m.top) && decide (x.l.length = m.l.length)
set_option maxHeartbeats 16000000 in
theorem rsame_any (x m : Mg) (a : Option Addr) (n c : Nat) (a2 : Option Addr) (n2 c2 : Nat) (w : World) (h1 : LRow w a n x.l) (h2 : LRow w a2 n2 m.l) (hl : x.l = m.l ∨ x.l = []) (hn9 : n ≤ 1000000) :
  Calls Tryz.prog 13 #[mgV x a n c, mgV m a2 n2 c2] w fun e w' => e = .returned (.bool (sameB x m)) ∧ Hid (Below w.heap.size w w') := by
 by_cases hs : sameB x m = true
 ·have he : x = m := by
   unfold sameB at hs
   simp only [Bool.and_eq_true, decide_eq_true_eq] at hs
   obtain ⟨⟨⟨⟨⟨⟨e0, e1⟩, e2⟩, e3⟩, e4⟩, e5⟩, e6⟩ := hs
   have e7 : x.l = m.l := by
    rcases hl with h | h
    ·exact h
    ·rw [h] at e6 ⊢
     simp only [List.length_nil] at e6
     exact (List.length_eq_zero_iff.1 e6.symm).symm
   obtain ⟨_, _, _, _, _, _, _⟩ := x
   obtain ⟨_, _, _, _, _, _, _⟩ := m
   simp only at e0 e1 e2 e3 e4 e5 e7
   subst e0 e1 e2 e3 e4 e5 e7
   rfl
  subst he
  rw [hs]
  exact same13 x a n c a2 n2 c2 w h1 h2 hn9
 have hn1 : n = x.l.length := h1.1
 have hn2 : n2 = m.l.length := h2.1
 rw [Bool.not_eq_true] at hs
 unfold mgV
 obtain ⟨X, hX⟩ : ∃ X, X = w.heap.size := ⟨_, rfl⟩
 obtain ⟨Y, hY⟩ : ∃ Y, Y = w.heap.size + 1 := ⟨_, rfl⟩
 obtain ⟨W, hW⟩ : ∃ W, W = (w.alloc (.cells #[.int .i64 x.k, .string (str x.c), .int .i64 x.fr, .int .i64 x.co, .int .i64 x.la, .int .i64 x.top, .slice a n c] 24)).alloc (.cells #[.int .i64 m.k, .string (str m.c), .int .i64 m.fr, .int .i64 m.co, .int .i64 m.la, .int .i64 m.top, .slice a2 n2 c2] 24) := ⟨_, rfl⟩
 have bW : Below w.heap.size w W := by rw [hW]; exact below2 w _ _
 have rX : W.heap[X]? = some (.cells #[.int .i64 x.k, .string (str x.c), .int .i64 x.fr, .int .i64 x.co, .int .i64 x.la, .int .i64 x.top, .slice a n c] 24 (0, 0)) := by
  rw [hW, hX, heap_alloc_old _ _ (by simp)]
  exact heap_alloc_new _ _
 have rY : W.heap[Y]? = some (.cells #[.int .i64 m.k, .string (str m.c), .int .i64 m.fr, .int .i64 m.co, .int .i64 m.la, .int .i64 m.top, .slice a2 n2 c2] 24 (0, 0)) := by
  rw [hW, hY]
  exact heap_alloc2_new _ _ _
 obtain ⟨p0, p1, p2, p3, p4, p5, p6⟩ := cells7 rX
 obtain ⟨r0, r1, r2, r3, r4, r5, r6⟩ := cells7 rY
 have HBW := hide bW
 have hdif : ¬ (x.k = m.k ∧ x.c = m.c ∧ x.fr = m.fr ∧ x.co = m.co ∧ x.la = m.la ∧ x.top = m.top ∧ n = n2) := by
  rintro ⟨e0, e1, e2, e3, e4, e5, e6⟩
  have : sameB x m = true := by unfold sameB; rw [hn1, hn2] at e6; simp [e0, e1, e2, e3, e4, e5, e6]
  rw [this] at hs
  cases hs
 clear rX rY bW h1 h2 hn1 hn2 hl
 by_cases hk : x.k = m.k
 rotate_left 1
 ·have q_k : (x.k == m.k) = false := by rw [beq_eq_false_iff_ne]; exact hk
  have s_k : (x.k != m.k) = true := by simp [bne, q_k]
  clear hdif hk
  go_enter Tryz.func13, Tryz.ntmps13
  go_upto_region 1 with fail
  rw [← hW, ← hY, ← hX]
  clear hW hX hY
  go_wp2_with fail
  go_ret
  exact ⟨by rw [hs]; try rfl, HBW⟩
 by_cases hc : x.c = m.c
 rotate_left 1
 ·have q_k : (x.k == m.k) = true := by rw [beq_iff_eq]; exact hk
  have s_k : (x.k != m.k) = false := by simp [bne, q_k]
  have q_c : ((str x.c).toList == (str m.c).toList) = false := by rw [toList_str, toList_str]; rw [beq_eq_false_iff_ne]; exact hc
  have s_c : ((str x.c).toList != (str m.c).toList) = true := by simp [bne, q_c]
  clear hdif hk hc
  go_enter Tryz.func13, Tryz.ntmps13
  go_upto_region 1 with fail
  rw [← hW, ← hY, ← hX]
  clear hW hX hY
  go_wp2_with fail
  go_ret
  exact ⟨by rw [hs]; try rfl, HBW⟩
 by_cases hfr : x.fr = m.fr
 rotate_left 1
 ·have q_k : (x.k == m.k) = true := by rw [beq_iff_eq]; exact hk
  have s_k : (x.k != m.k) = false := by simp [bne, q_k]
  have q_c : ((str x.c).toList == (str m.c).toList) = true := by rw [toList_str, toList_str]; rw [beq_iff_eq]; exact hc
  have s_c : ((str x.c).toList != (str m.c).toList) = false := by simp [bne, q_c]
  have q_fr : (x.fr == m.fr) = false := by rw [beq_eq_false_iff_ne]; exact hfr
  have s_fr : (x.fr != m.fr) = true := by simp [bne, q_fr]
  clear hdif hk hc hfr
  go_enter Tryz.func13, Tryz.ntmps13
  go_upto_region 1 with fail
  rw [← hW, ← hY, ← hX]
  clear hW hX hY
  go_wp2_with fail
  go_ret
  exact ⟨by rw [hs]; try rfl, HBW⟩
 by_cases hco : x.co = m.co
 rotate_left 1
 ·have q_k : (x.k == m.k) = true := by rw [beq_iff_eq]; exact hk
  have s_k : (x.k != m.k) = false := by simp [bne, q_k]
  have q_c : ((str x.c).toList == (str m.c).toList) = true := by rw [toList_str, toList_str]; rw [beq_iff_eq]; exact hc
  have s_c : ((str x.c).toList != (str m.c).toList) = false := by simp [bne, q_c]
  have q_fr : (x.fr == m.fr) = true := by rw [beq_iff_eq]; exact hfr
  have s_fr : (x.fr != m.fr) = false := by simp [bne, q_fr]
  have q_co : (x.co == m.co) = false := by rw [beq_eq_false_iff_ne]; exact hco
  have s_co : (x.co != m.co) = true := by simp [bne, q_co]
  clear hdif hk hc hfr hco
  go_enter Tryz.func13, Tryz.ntmps13
  go_upto_region 1 with fail
  rw [← hW, ← hY, ← hX]
  clear hW hX hY
  go_wp2_with fail
  go_ret
  exact ⟨by rw [hs]; try rfl, HBW⟩
 by_cases hla : x.la = m.la
 rotate_left 1
 ·have q_k : (x.k == m.k) = true := by rw [beq_iff_eq]; exact hk
  have s_k : (x.k != m.k) = false := by simp [bne, q_k]
  have q_c : ((str x.c).toList == (str m.c).toList) = true := by rw [toList_str, toList_str]; rw [beq_iff_eq]; exact hc
  have s_c : ((str x.c).toList != (str m.c).toList) = false := by simp [bne, q_c]
  have q_fr : (x.fr == m.fr) = true := by rw [beq_iff_eq]; exact hfr
  have s_fr : (x.fr != m.fr) = false := by simp [bne, q_fr]
  have q_co : (x.co == m.co) = true := by rw [beq_iff_eq]; exact hco
  have s_co : (x.co != m.co) = false := by simp [bne, q_co]
  have q_la : (x.la == m.la) = false := by rw [beq_eq_false_iff_ne]; exact hla
  have s_la : (x.la != m.la) = true := by simp [bne, q_la]
  clear hdif hk hc hfr hco hla
  go_enter Tryz.func13, Tryz.ntmps13
  go_upto_region 1 with fail
  rw [← hW, ← hY, ← hX]
  clear hW hX hY
  go_wp2_with fail
  go_ret
  exact ⟨by rw [hs]; try rfl, HBW⟩
 by_cases htop : x.top = m.top
 rotate_left 1
 ·have q_k : (x.k == m.k) = true := by rw [beq_iff_eq]; exact hk
  have s_k : (x.k != m.k) = false := by simp [bne, q_k]
  have q_c : ((str x.c).toList == (str m.c).toList) = true := by rw [toList_str, toList_str]; rw [beq_iff_eq]; exact hc
  have s_c : ((str x.c).toList != (str m.c).toList) = false := by simp [bne, q_c]
  have q_fr : (x.fr == m.fr) = true := by rw [beq_iff_eq]; exact hfr
  have s_fr : (x.fr != m.fr) = false := by simp [bne, q_fr]
  have q_co : (x.co == m.co) = true := by rw [beq_iff_eq]; exact hco
  have s_co : (x.co != m.co) = false := by simp [bne, q_co]
  have q_la : (x.la == m.la) = true := by rw [beq_iff_eq]; exact hla
  have s_la : (x.la != m.la) = false := by simp [bne, q_la]
  have q_top : (x.top == m.top) = false := by rw [beq_eq_false_iff_ne]; exact htop
  have s_top : (x.top != m.top) = true := by simp [bne, q_top]
  clear hdif hk hc hfr hco hla htop
  go_enter Tryz.func13, Tryz.ntmps13
  go_upto_region 1 with fail
  rw [← hW, ← hY, ← hX]
  clear hW hX hY
  go_wp2_with fail
  go_ret
  exact ⟨by rw [hs]; try rfl, HBW⟩
 have hn : ¬ n = n2 := fun e => hdif ⟨hk, hc, hfr, hco, hla, htop, e⟩
 have q_k : (x.k == m.k) = true := by rw [beq_iff_eq]; exact hk
 have s_k : (x.k != m.k) = false := by simp [bne, q_k]
 have q_c : ((str x.c).toList == (str m.c).toList) = true := by rw [toList_str, toList_str]; rw [beq_iff_eq]; exact hc
 have s_c : ((str x.c).toList != (str m.c).toList) = false := by simp [bne, q_c]
 have q_fr : (x.fr == m.fr) = true := by rw [beq_iff_eq]; exact hfr
 have s_fr : (x.fr != m.fr) = false := by simp [bne, q_fr]
 have q_co : (x.co == m.co) = true := by rw [beq_iff_eq]; exact hco
 have s_co : (x.co != m.co) = false := by simp [bne, q_co]
 have q_la : (x.la == m.la) = true := by rw [beq_iff_eq]; exact hla
 have s_la : (x.la != m.la) = false := by simp [bne, q_la]
 have q_top : (x.top == m.top) = true := by rw [beq_iff_eq]; exact htop
 have s_top : (x.top != m.top) = false := by simp [bne, q_top]
 have q_n : ((n : Int) == (n2 : Int)) = false := by rw [beq_eq_false_iff_ne]; omega
 have s_n : ((n : Int) != (n2 : Int)) = true := by simp [bne, q_n]
 clear hdif hk hc hfr hco hla htop hn
 go_enter Tryz.func13, Tryz.ntmps13
 go_upto_region 1 with fail
 rw [← hW, ← hY, ← hX]
 clear hW hX hY
 go_wp2_with fail
 go_ret
 exact ⟨by rw [hs]; try rfl, HBW⟩
end Go.Proofs.YtmpjeahibfdehaaGreatDoor
end
section
set_option linter.unusedVariables false
set_option maxRecDepth 1000000
namespace Go.Proofs.YtmpjeahibfdehaaGreatDoor
open Go.RowKit

theorem sz_get (x : List UInt8) (j : Js) (h : Sz j) : Sz (jIn x j) := by
 unfold jIn
 cases hg : gtM x j with
 | none => exact sz_nul
 | some g =>
  obtain ⟨k, n, t, ns, is⟩ := j
  simp only [Sz] at h
  simp only [gtM] at hg
  split at hg
  ·cases hi : ixN x ns with
   | none => rw [hi] at hg; cases hg
   | some i => rw [hi] at hg; exact (szs_iff is).1 h.2.2.2.2.2 g (List.mem_of_getElem? hg)
  ·cases hg
def lgIn (j : Js) : Lg := ⟨tIn [99, 108, 105, 101, 110, 116] j, nIn [105, 100] j, ⟨nIn [107, 105, 110, 100] (jIn [109] j), tIn [105, 115, 115, 117, 101] (jIn [109] j), tIn [110, 97, 109, 101] (jIn [109] j), tIn [116, 101, 120, 116] (jIn [109] j)⟩⟩
set_option maxHeartbeats 32000000 in
theorem loggedIn_any (j : Js) (v : Value) (w : World) (hJ : JV w (Al w) v j) (hz : Sz j) :
  Calls Tryz.prog 31 #[v] w fun e w' => e = .returned (lgV (lgIn j)) ∧ Hid (Below w.heap.size w w') := by
 obtain ⟨k, n, t, a1, n1, c1, a2, n2, c2, rfl⟩ := hJ.form
 obtain ⟨X, hX⟩ : ∃ X, X = w.heap.size := ⟨_, rfl⟩
 obtain ⟨R, hR⟩ : ∃ R, R = w.heap.size + 1 := ⟨_, rfl⟩
 obtain ⟨W, hW⟩ : ∃ W, W = (w.alloc (.cells #[.int .i64 k, .int .i64 n, .string (str t), .slice a1 n1 c1, .slice a2 n2 c2] 44)).alloc (.cells #[.string ⟨#[]⟩, .int .i64 0, .int .i64 0, .string ⟨#[]⟩, .string ⟨#[]⟩, .string ⟨#[]⟩] 28) := ⟨_, rfl⟩
 have bW : Below w.heap.size w W := by rw [hW]; exact below2 w _ _
 have rX : W.heap[X]? = some (.cells #[.int .i64 k, .int .i64 n, .string (str t), .slice a1 n1 c1, .slice a2 n2 c2] 44 (0, 0)) := by
  rw [hW, hX, heap_alloc_old _ _ (by simp)]
  exact heap_alloc_new _ _
 have rR : W.heap[R]? = some (.cells #[.string ⟨#[]⟩, .int .i64 0, .int .i64 0, .string ⟨#[]⟩, .string ⟨#[]⟩, .string ⟨#[]⟩] 28 (0, 0)) := by
  rw [hW, hR]
  exact heap_alloc2_new _ _ _
 have HZ0 : Hid (X = w.heap.size ∧ R = w.heap.size + 1 ∧ W.heap.size = w.heap.size + 2) := ⟨hX, hR, by rw [hW]; simp⟩
 have hJW : JV W (Al W) _ j := hJ.al (fun k hk => hk) bW
 have HJW := hide hJW
 have HGT := hide (get_any [109] j (Al W) _ W hJW (fun k hk => hk) hz)
 have HZX := hide hz
 have HZM0 := hide (sz_get [109] j hz)
 have HX0 := hide rX
 have HR0 := hide rR
 have HBW := hide bW
 obtain ⟨p0, p1, p2, p3, p4⟩ := cells5 rX
 obtain ⟨E, hE⟩ : ∃ E, E = lgV (lgIn j) := ⟨_, rfl⟩
 rw [← hE]
 have HE := hide hE
 clear bW rX rR hJ hJW hz hE
 go_enter Tryz.func31, Tryz.ntmps31
 go_upto_region 1 with fail
 rw [← hW, ← hR, ← hX]
 clear hW hR hX
 go_wp2_with fail
 refine (uh HGT).mono ?_
 rintro e u1 ⟨v', lo, rfl, hlo, hcp, hb1⟩
 have hj1 : JV u1 (Al u1) v' (jIn [109] j) := hcp.jv (fun y h1 h2 => h2)
 obtain ⟨jm, hjm⟩ : ∃ jm, jm = jIn [109] j := ⟨_, rfl⟩
 rw [← hjm] at hj1 HZM0
 have HJMM := hide hjm
 obtain ⟨gk, gn, gt, b1, m1, d1, b2, m2, d2, rfl⟩ := hj1.form
 obtain ⟨M, hM⟩ : ∃ M, M = u1.heap.size := ⟨_, rfl⟩
 obtain ⟨W2, hW2⟩ : ∃ W2, W2 = u1.alloc (.cells #[.int .i64 gk, .int .i64 gn, .string (str gt), .slice b1 m1 d1, .slice b2 m2 d2] 44) := ⟨_, rfl⟩
 have b12 : Below u1.heap.size u1 W2 := by rw [hW2]; exact bA _
 have b02 : Below W.heap.size W W2 := hb1.trans (b12.mono hb1.size)
 have HMM := hide (show W2.heap[M]? = some (.cells #[.int .i64 gk, .int .i64 gn, .string (str gt), .slice b1 m1 d1, .slice b2 m2 d2] 44 (0, 0)) by rw [hW2, hM]; exact heap_alloc_new _ _)
 have HXX := hide ((b02.block X (aI (uh HX0)).1).trans (uh HX0))
 have HRR := hide ((b02.block R (aI (uh HR0)).1).trans (uh HR0))
 have HJX : Hid (∀ u, Below W2.heap.size W2 u → JV u (Al u) _ j) := fun u hb => ((uh HJW).al (fun k hk => hk) b02).al (fun k hk => hk) hb
 have HJM : Hid (∀ u, Below W2.heap.size W2 u → JV u (Al u) _ jm) := fun u hb => (hj1.al (fun k hk => hk) b12).al (fun k hk => hk) hb
 have HZM : Hid (Sz jm) := uh HZM0
 have HNE : Hid (X = w.heap.size ∧ R = w.heap.size + 1 ∧ w.heap.size + 2 ≤ M ∧ W2.heap.size = M + 1) := ⟨(uh HZ0).1, (uh HZ0).2.1, by have := (uh HZ0).2.2; have := hb1.size; omega, by rw [hW2, hM]; simp⟩
 have HBW2 : Hid (Below w.heap.size w W2) := (uh HBW).trans (b02.mono (uh HBW).size)
 clear hlo hcp hb1 hj1 hjm b12 b02 p0 p1 p2 p3 p4 HX0 HR0 HBW HZ0 HJW HGT HZM0
 have HS0 : Hid (∀ u, Below W2.heap.size W2 u → (u.cell? ⟨X, 0, none⟩ = some (.int .i64 k) ∧ u.cell? ⟨X, 1, none⟩ = some (.int .i64 n) ∧ u.cell? ⟨X, 2, none⟩ = some (.string (str t)) ∧ u.cell? ⟨X, 3, none⟩ = some (.slice a1 n1 c1) ∧ u.cell? ⟨X, 4, none⟩ = some (.slice a2 n2 c2) ∧ u.cell? ⟨M, 0, none⟩ = some (.int .i64 gk) ∧ u.cell? ⟨M, 1, none⟩ = some (.int .i64 gn) ∧ u.cell? ⟨M, 2, none⟩ = some (.string (str gt)) ∧ u.cell? ⟨M, 3, none⟩ = some (.slice b1 m1 d1) ∧ u.cell? ⟨M, 4, none⟩ = some (.slice b2 m2 d2))) := fun u hb => by
  have r_X := (hb.block X (aI (uh HXX)).1).trans (uh HXX)
  have r_M := (hb.block M (aI (uh HMM)).1).trans (uh HMM)
  exact ⟨(cR6 r_X), (cR6 r_X), (cR6 r_X), (cR6 r_X), (cR6 r_X), (cR6 r_M), (cR6 r_M), (cR6 r_M), (cR6 r_M), (cR6 r_M)⟩
 have HTR : Hid (∀ u u', Hid (Below W2.heap.size W2 u) → Hid (Below u.heap.size u u') → Hid (Below W2.heap.size W2 u')) := fun u u' h h1 => (uh h).trans ((uh h1).mono (uh h).size)
 have HAB : Hid (∀ u ob, Hid (Below W2.heap.size W2 u) → Hid (Below W2.heap.size W2 (u.alloc ob))) := fun u ob h => (uh h).trans (((Below.refl _ _).alloc (Nat.le_refl _) ob).mono (uh h).size)
 have HTA : Hid (∀ u ob u', Hid (Below W2.heap.size W2 u) → Hid (Below (u.alloc ob).heap.size (u.alloc ob) u') → Hid (Below W2.heap.size W2 u')) := fun u ob u' h h1 => uh HTR _ _ (uh HAB u ob h) h1
 have HA0 : Hid (∀ u, Below W2.heap.size W2 u → ∀ ob, ((u.alloc ob).cell? ⟨X, 0, none⟩ = some (.int .i64 k) ∧ (u.alloc ob).cell? ⟨X, 1, none⟩ = some (.int .i64 n) ∧ (u.alloc ob).cell? ⟨X, 2, none⟩ = some (.string (str t)) ∧ (u.alloc ob).cell? ⟨X, 3, none⟩ = some (.slice a1 n1 c1) ∧ (u.alloc ob).cell? ⟨X, 4, none⟩ = some (.slice a2 n2 c2) ∧ (u.alloc ob).cell? ⟨M, 0, none⟩ = some (.int .i64 gk) ∧ (u.alloc ob).cell? ⟨M, 1, none⟩ = some (.int .i64 gn) ∧ (u.alloc ob).cell? ⟨M, 2, none⟩ = some (.string (str gt)) ∧ (u.alloc ob).cell? ⟨M, 3, none⟩ = some (.slice b1 m1 d1) ∧ (u.alloc ob).cell? ⟨M, 4, none⟩ = some (.slice b2 m2 d2))) := fun u hb ob => uh HS0 _ (uh (uh HAB u ob hb))
 have HS5 : Hid (∀ (u : World) (y0 y1 y2 y3 y4 y5 : Value), (u.cell? ⟨X, 0, none⟩ = some (.int .i64 k) ∧ u.cell? ⟨X, 1, none⟩ = some (.int .i64 n) ∧ u.cell? ⟨X, 2, none⟩ = some (.string (str t)) ∧ u.cell? ⟨X, 3, none⟩ = some (.slice a1 n1 c1) ∧ u.cell? ⟨X, 4, none⟩ = some (.slice a2 n2 c2) ∧ u.cell? ⟨M, 0, none⟩ = some (.int .i64 gk) ∧ u.cell? ⟨M, 1, none⟩ = some (.int .i64 gn) ∧ u.cell? ⟨M, 2, none⟩ = some (.string (str gt)) ∧ u.cell? ⟨M, 3, none⟩ = some (.slice b1 m1 d1) ∧ u.cell? ⟨M, 4, none⟩ = some (.slice b2 m2 d2)) → (((((((u.setCell ⟨R, 0, none⟩ y0).setCell ⟨R, 1, none⟩ y1).setCell ⟨R, 2, none⟩ y2).setCell ⟨R, 3, none⟩ y3).setCell ⟨R, 4, none⟩ y4).setCell ⟨R, 5, none⟩ y5).cell? ⟨X, 0, none⟩ = some (.int .i64 k) ∧ ((((((u.setCell ⟨R, 0, none⟩ y0).setCell ⟨R, 1, none⟩ y1).setCell ⟨R, 2, none⟩ y2).setCell ⟨R, 3, none⟩ y3).setCell ⟨R, 4, none⟩ y4).setCell ⟨R, 5, none⟩ y5).cell? ⟨X, 1, none⟩ = some (.int .i64 n) ∧ ((((((u.setCell ⟨R, 0, none⟩ y0).setCell ⟨R, 1, none⟩ y1).setCell ⟨R, 2, none⟩ y2).setCell ⟨R, 3, none⟩ y3).setCell ⟨R, 4, none⟩ y4).setCell ⟨R, 5, none⟩ y5).cell? ⟨X, 2, none⟩ = some (.string (str t)) ∧ ((((((u.setCell ⟨R, 0, none⟩ y0).setCell ⟨R, 1, none⟩ y1).setCell ⟨R, 2, none⟩ y2).setCell ⟨R, 3, none⟩ y3).setCell ⟨R, 4, none⟩ y4).setCell ⟨R, 5, none⟩ y5).cell? ⟨X, 3, none⟩ = some (.slice a1 n1 c1) ∧ ((((((u.setCell ⟨R, 0, none⟩ y0).setCell ⟨R, 1, none⟩ y1).setCell ⟨R, 2, none⟩ y2).setCell ⟨R, 3, none⟩ y3).setCell ⟨R, 4, none⟩ y4).setCell ⟨R, 5, none⟩ y5).cell? ⟨X, 4, none⟩ = some (.slice a2 n2 c2) ∧ ((((((u.setCell ⟨R, 0, none⟩ y0).setCell ⟨R, 1, none⟩ y1).setCell ⟨R, 2, none⟩ y2).setCell ⟨R, 3, none⟩ y3).setCell ⟨R, 4, none⟩ y4).setCell ⟨R, 5, none⟩ y5).cell? ⟨M, 0, none⟩ = some (.int .i64 gk) ∧ ((((((u.setCell ⟨R, 0, none⟩ y0).setCell ⟨R, 1, none⟩ y1).setCell ⟨R, 2, none⟩ y2).setCell ⟨R, 3, none⟩ y3).setCell ⟨R, 4, none⟩ y4).setCell ⟨R, 5, none⟩ y5).cell? ⟨M, 1, none⟩ = some (.int .i64 gn) ∧ ((((((u.setCell ⟨R, 0, none⟩ y0).setCell ⟨R, 1, none⟩ y1).setCell ⟨R, 2, none⟩ y2).setCell ⟨R, 3, none⟩ y3).setCell ⟨R, 4, none⟩ y4).setCell ⟨R, 5, none⟩ y5).cell? ⟨M, 2, none⟩ = some (.string (str gt)) ∧ ((((((u.setCell ⟨R, 0, none⟩ y0).setCell ⟨R, 1, none⟩ y1).setCell ⟨R, 2, none⟩ y2).setCell ⟨R, 3, none⟩ y3).setCell ⟨R, 4, none⟩ y4).setCell ⟨R, 5, none⟩ y5).cell? ⟨M, 3, none⟩ = some (.slice b1 m1 d1) ∧ ((((((u.setCell ⟨R, 0, none⟩ y0).setCell ⟨R, 1, none⟩ y1).setCell ⟨R, 2, none⟩ y2).setCell ⟨R, 3, none⟩ y3).setCell ⟨R, 4, none⟩ y4).setCell ⟨R, 5, none⟩ y5).cell? ⟨M, 4, none⟩ = some (.slice b2 m2 d2))) := fun u y0 y1 y2 y3 y4 y5 h => by
  have ne := uh HNE
  obtain ⟨q0, q1, q2, q3, q4, q5, q6, q7, q8, q9⟩ := h
  have e_X : ((((((u.setCell ⟨R, 0, none⟩ y0).setCell ⟨R, 1, none⟩ y1).setCell ⟨R, 2, none⟩ y2).setCell ⟨R, 3, none⟩ y3).setCell ⟨R, 4, none⟩ y4).setCell ⟨R, 5, none⟩ y5).heap[X]? = u.heap[X]? := by rw [Below.heap_setCell _ ⟨R, 5, none⟩ _ X (show X ≠ R by omega)]; rw [Below.heap_setCell _ ⟨R, 4, none⟩ _ X (show X ≠ R by omega)]; rw [Below.heap_setCell _ ⟨R, 3, none⟩ _ X (show X ≠ R by omega)]; rw [Below.heap_setCell _ ⟨R, 2, none⟩ _ X (show X ≠ R by omega)]; rw [Below.heap_setCell _ ⟨R, 1, none⟩ _ X (show X ≠ R by omega)]; rw [Below.heap_setCell _ ⟨R, 0, none⟩ _ X (show X ≠ R by omega)]
  have e_M : ((((((u.setCell ⟨R, 0, none⟩ y0).setCell ⟨R, 1, none⟩ y1).setCell ⟨R, 2, none⟩ y2).setCell ⟨R, 3, none⟩ y3).setCell ⟨R, 4, none⟩ y4).setCell ⟨R, 5, none⟩ y5).heap[M]? = u.heap[M]? := by rw [Below.heap_setCell _ ⟨R, 5, none⟩ _ M (show M ≠ R by omega)]; rw [Below.heap_setCell _ ⟨R, 4, none⟩ _ M (show M ≠ R by omega)]; rw [Below.heap_setCell _ ⟨R, 3, none⟩ _ M (show M ≠ R by omega)]; rw [Below.heap_setCell _ ⟨R, 2, none⟩ _ M (show M ≠ R by omega)]; rw [Below.heap_setCell _ ⟨R, 1, none⟩ _ M (show M ≠ R by omega)]; rw [Below.heap_setCell _ ⟨R, 0, none⟩ _ M (show M ≠ R by omega)]
  exact ⟨cell_keep e_X q0, cell_keep e_X q1, cell_keep e_X q2, cell_keep e_X q3, cell_keep e_X q4, cell_keep e_M q5, cell_keep e_M q6, cell_keep e_M q7, cell_keep e_M q8, cell_keep e_M q9⟩
 have B0 : Hid (Below W2.heap.size W2 W2.drew) := Below.drew (Below.refl _ _)
 have s0 := uh HS0 W2.drew (uh B0)
 have tok0 := True.intro
 go_upto_region 2 with fail
 rw [← hW2, ← hM]
 clear hW2 hM
 go_region_held3 (fun w' => w'.cell? ⟨X, 0, none⟩ = some (.int .i64 k) ∧ w'.cell? ⟨X, 1, none⟩ = some (.int .i64 n) ∧ w'.cell? ⟨X, 2, none⟩ = some (.string (str t)) ∧ w'.cell? ⟨X, 3, none⟩ = some (.slice a1 n1 c1) ∧ w'.cell? ⟨X, 4, none⟩ = some (.slice a2 n2 c2) ∧ w'.cell? ⟨M, 0, none⟩ = some (.int .i64 gk) ∧ w'.cell? ⟨M, 1, none⟩ = some (.int .i64 gn) ∧ w'.cell? ⟨M, 2, none⟩ = some (.string (str gt)) ∧ w'.cell? ⟨M, 3, none⟩ = some (.slice b1 m1 d1) ∧ w'.cell? ⟨M, 4, none⟩ = some (.slice b2 m2 d2)) (first | with_reducible exact aS | with_reducible exact s1 | with_reducible exact a1 _ | with_reducible exact s0) ((first
  | (go_at_call 65; have tk := tok5; refine (textIn_any [116, 101, 120, 116] jm _ _ (uh HJM _ (by exact uh ‹Hid (Below W2.heap.size W2 _)›)) (uh HZM)).mono ?_; rintro e u9 ⟨rfl, h1⟩; have B9 := uh HTR _ _ ‹Hid (Below W2.heap.size W2 _)› h1; have s1 := uh HS0 _ (uh B9); have rR9 := ((uh B9).block R (aI (uh HRR)).1).trans (uh HRR); obtain ⟨y0, y1, y2, y3, y4, y5⟩ : u9.cell? ⟨R, 0, none⟩ = some (.string ⟨#[]⟩) ∧ u9.cell? ⟨R, 1, none⟩ = some (.int .i64 0) ∧ u9.cell? ⟨R, 2, none⟩ = some (.int .i64 0) ∧ u9.cell? ⟨R, 3, none⟩ = some (.string ⟨#[]⟩) ∧ u9.cell? ⟨R, 4, none⟩ = some (.string ⟨#[]⟩) ∧ u9.cell? ⟨R, 5, none⟩ = some (.string ⟨#[]⟩) := ⟨cR6 rR9, cR6 rR9, cR6 rR9, cR6 rR9, cR6 rR9, cR6 rR9⟩; have z0 := frozen_of_row u9 R 0 _ _ rR9; have z1 := frozen_of_row u9 R 1 _ _ rR9; have z2 := frozen_of_row u9 R 2 _ _ rR9; have z3 := frozen_of_row u9 R 3 _ _ rR9; have z4 := frozen_of_row u9 R 4 _ _ rR9; have z5 := frozen_of_row u9 R 5 _ _ rR9; have HR9 := hide rR9; have HB9 := B9; have aS := uh HS5 u9 (.string (str (tIn [99, 108, 105, 101, 110, 116] j))) (.int .i64 (nIn [105, 100] j)) (.int .i64 (nIn [107, 105, 110, 100] jm)) (.string (str (tIn [105, 115, 115, 117, 101] jm))) (.string (str (tIn [110, 97, 109, 101] jm))) (.string (str (tIn [116, 101, 120, 116] jm))) s1; clear rR9)
  | (go_at_call 65; have tk := tok4; refine (textIn_any [110, 97, 109, 101] jm _ _ (uh HJM _ (by exact uh ‹Hid (Below W2.heap.size W2 _)›)) (uh HZM)).mono ?_; rintro e u1 ⟨rfl, h1⟩; have B1 := uh HTR _ _ ‹Hid (Below W2.heap.size W2 _)› h1; have s1 := uh HS0 _ (uh B1); have a1 := uh HA0 _ (uh B1); have tok5 := True.intro)
  | (go_at_call 65; have tk := tok3; refine (textIn_any [105, 115, 115, 117, 101] jm _ _ (uh HJM _ (by exact uh ‹Hid (Below W2.heap.size W2 _)›)) (uh HZM)).mono ?_; rintro e u1 ⟨rfl, h1⟩; have B1 := uh HTR _ _ ‹Hid (Below W2.heap.size W2 _)› h1; have s1 := uh HS0 _ (uh B1); have a1 := uh HA0 _ (uh B1); have tok4 := True.intro)
  | (go_at_call 66; have tk := tok2; refine (numIn_any [107, 105, 110, 100] jm _ _ (uh HJM _ (by exact uh ‹Hid (Below W2.heap.size W2 _)›)) (uh HZM)).mono ?_; rintro e u1 ⟨rfl, h1⟩; have B1 := uh HTR _ _ ‹Hid (Below W2.heap.size W2 _)› h1; have s1 := uh HS0 _ (uh B1); have a1 := uh HA0 _ (uh B1); have tok3 := True.intro)
  | (go_at_call 66; have tk := tok1; refine (numIn_any [105, 100] j _ _ (uh HJX _ (by exact uh ‹Hid (Below W2.heap.size W2 _)›)) (uh HZX)).mono ?_; rintro e u1 ⟨rfl, h1⟩; have B1 := uh HTR _ _ ‹Hid (Below W2.heap.size W2 _)› h1; have s1 := uh HS0 _ (uh B1); have a1 := uh HA0 _ (uh B1); have tok2 := True.intro)
  | (go_at_call 65; have tk := tok0; refine (textIn_any [99, 108, 105, 101, 110, 116] j _ _ (uh HJX _ (by exact uh ‹Hid (Below W2.heap.size W2 _)›)) (uh HZX)).mono ?_; rintro e u1 ⟨rfl, h1⟩; have B1 := uh HTR _ _ ‹Hid (Below W2.heap.size W2 _)› h1; have s1 := uh HS0 _ (uh B1); have a1 := uh HA0 _ (uh B1); have tok1 := True.intro)))
 obtain ⟨w9, h9⟩ : ∃ w9, w9 = (((((u9.setCell ⟨R, 0, none⟩ (.string (str (tIn [99, 108, 105, 101, 110, 116] j)))).setCell ⟨R, 1, none⟩ (.int .i64 (nIn [105, 100] j))).setCell ⟨R, 2, none⟩ (.int .i64 (nIn [107, 105, 110, 100] jm))).setCell ⟨R, 3, none⟩ (.string (str (tIn [105, 115, 115, 117, 101] jm)))).setCell ⟨R, 4, none⟩ (.string (str (tIn [110, 97, 109, 101] jm)))).setCell ⟨R, 5, none⟩ (.string (str (tIn [116, 101, 120, 116] jm))) := ⟨_, rfl⟩
 have rR9 := uh HR9
 have r9 : w9.heap[R]? = some (.cells #[.string (str (tIn [99, 108, 105, 101, 110, 116] j)), .int .i64 (nIn [105, 100] j), .int .i64 (nIn [107, 105, 110, 100] jm), .string (str (tIn [105, 115, 115, 117, 101] jm)), .string (str (tIn [110, 97, 109, 101] jm)), .string (str (tIn [116, 101, 120, 116] jm))] 28 (0, 0)) := by
  rw [h9]
  exact hS6 (hS6 (hS6 (hS6 (hS6 (hS6 rR9)))))
 have HBF : Hid (Below w.heap.size w w9) := by
  show Below _ _ _
  rw [h9]
  have q : w.heap.size ≤ R := by have := uh HNE; omega
  have bu := (uh HBW2).trans ((uh HB9).mono (uh HBW2).size)
  exact (((((bu.setCell q _).setCell q _).setCell q _).setCell q _).setCell q _).setCell q _
 obtain ⟨e0, e1, e2, e3, e4, e5⟩ : w9.cell? ⟨R, 0, none⟩ = some (.string (str (tIn [99, 108, 105, 101, 110, 116] j))) ∧ w9.cell? ⟨R, 1, none⟩ = some (.int .i64 (nIn [105, 100] j)) ∧ w9.cell? ⟨R, 2, none⟩ = some (.int .i64 (nIn [107, 105, 110, 100] jm)) ∧ w9.cell? ⟨R, 3, none⟩ = some (.string (str (tIn [105, 115, 115, 117, 101] jm))) ∧ w9.cell? ⟨R, 4, none⟩ = some (.string (str (tIn [110, 97, 109, 101] jm))) ∧ w9.cell? ⟨R, 5, none⟩ = some (.string (str (tIn [116, 101, 120, 116] jm))) := ⟨cR6 r9, cR6 r9, cR6 r9, cR6 r9, cR6 r9, cR6 r9⟩
 have k9 : ∀ k, k ≠ R → w9.heap[k]? = u9.heap[k]? := fun k hk => by rw [h9]; rw [Below.heap_setCell _ ⟨R, 5, none⟩ _ k hk]; rw [Below.heap_setCell _ ⟨R, 4, none⟩ _ k hk]; rw [Below.heap_setCell _ ⟨R, 3, none⟩ _ k hk]; rw [Below.heap_setCell _ ⟨R, 2, none⟩ _ k hk]; rw [Below.heap_setCell _ ⟨R, 1, none⟩ _ k hk]; rw [Below.heap_setCell _ ⟨R, 0, none⟩ _ k hk]
 clear rR9 r9 k9
 rw [← h9]
 clear h9
 go_wp2_with fail
 refine ⟨rfl, _, by simp [results, Tryz.results31, go_sem, e0, e1, e2, e3, e4, e5]; rfl, ?_⟩
 rw [uh HE, uh HJMM]
 exact ⟨rfl, HBF⟩
end Go.Proofs.YtmpjeahibfdehaaGreatDoor
end
