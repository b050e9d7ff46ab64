/-
  authtok: THE WALKS of payloadOf and Make.
-/
import Derived.Test.YtoapkajlgnlecaaDoorAutB
import Derived.Test.YtoapkajlgnlecaaDoorNumX
import Derived.Deep.RegionWith
set_option linter.unusedVariables false
set_option maxRecDepth 1000000
namespace Go.Proofs.YtoapkajlgnlecaaDoor
open Go.RowKit

theorem bs_none (w : World) : Bs w none 0 [] := ⟨fun h => absurd rfl h, Nat.le_refl _, by unfold maxLen; omega, fun _ => rfl⟩
theorem form_len (n : Nat) : (form n).length ≤ 10 := by
  unfold form
  split
  · simp
  · rw [List.length_cons, be_length]
    have : nb n ≤ 9 := Nat.le_trans (nb_pos n).2 (by omega)
    omega

/-- A block with a claim's cells. -/
def ClC (w : World) (C : Nat) (c g : List UInt8) (u : Int) : Prop := w.cell? ⟨C, 0, none⟩ = some (.string (str c)) ∧ w.cell? ⟨C, 1, none⟩ = some (.string (str g)) ∧ w.cell? ⟨C, 2, none⟩ = some (.int .i64 u)
theorem ClC.lt {w : World} {C : Nat} {c g : List UInt8} {u : Int} (h : ClC w C c g u) : C < w.heap.size := World.block_lt_of_cell? w _ h.1
theorem ClC.below {w w' : World} {C B : Nat} {c g : List UInt8} {u : Int} (h : ClC w C c g u) (hb : Below B w w') (hB : w.heap.size ≤ B) : ClC w' C c g u := by
  have hl : C < B := Nat.lt_of_lt_of_le h.lt hB
  exact ⟨by rw [hb.cell (show C < B from hl)]; exact h.1, by rw [hb.cell (show C < B from hl)]; exact h.2.1, by rw [hb.cell (show C < B from hl)]; exact h.2.2⟩
theorem ClC.new (w : World) (c g : List UInt8) (u : Int) : ClC (w.alloc (.cells #[.string (str c), .string (str g), .int .i64 u] 33)) w.heap.size c g u := by
  refine ⟨?_, ?_, ?_⟩ <;> simp

set_option maxHeartbeats 2000000 in
theorem payload_any (id : Int) (c g : List UInt8) (u : Int) (w : World) (hi0 : -9223372036854775808 ≤ id) (hi1 : id ≤ 9223372036854775807) (hu0 : -9223372036854775808 ≤ u) (hu1 : u ≤ 9223372036854775807) (hc : c.length ≤ 24) (hg : g.length ≤ 24) :
    Calls Tryd.prog 17 #[.int .i64 id, .agg #[.string (str c), .string (str g), .int .i64 u]] w fun e w' => ∃ a' cap' r, e = .returned (.slice a' r.length cap') ∧ Hid (r = pay id ⟨c, g, u⟩) ∧ Hid (Bs w' a' cap' r) ∧ Hid (Below w.heap.size w w') ∧ r.length ≤ 200 := by
  have hsc : (str c).size = c.length := str_size c
  have hsg : (str g).size = g.length := str_size g
  have HSC := hide hsc
  have HSG := hide hsg
  clear hsc hsg
  go_enter Tryd.func17, Tryd.ntmps17
  go_wp2_with fail
  have HC1 := hide (ClC.new w c g u)
  have HB1 : Hid (Below w.heap.size w (w.alloc (.cells #[.string (str c), .string (str g), .int .i64 u] 33))) := (Below.refl _ _).alloc (Nat.le_refl _) _
  have HZ : Hid (w.heap.size < (w.alloc (.cells #[.string (str c), .string (str g), .int .i64 u] 33)).heap.size) := by show _ < _; simp
  generalize w.alloc (.cells #[.string (str c), .string (str g), .int .i64 u] 33) = w1 at *
  refine (number_any none 0 [] id w1 (bs_none _) (by simp) hi0 hi1).mono ?_
  rintro e w2 ⟨a2, c2, r2, rfl, hr2, ho2, hb2⟩
  have HR2 : Hid (r2 = form id.toNat) := by show _ = _; rw [hr2.out]; rfl
  have hl2 : r2.length ≤ 10 := by rw [HR2.out]; exact form_len _
  have HC2 := hide (HC1.out.below hb2 (Nat.le_refl _))
  have HB2 : Hid (Below w.heap.size w w2) := HB1.out.trans (hb2.mono HB1.out.size)
  have HO2 := hide ho2.toBs
  clear hr2 ho2 hb2 HC1 HB1 HZ
  obtain ⟨k0, k1, k2⟩ := HC2.out
  go_wp2_with fail
  refine (text_any a2 c2 r2 (str c) w2 HO2.out (by omega) (by rw [HSC.out]; omega)).mono ?_
  rintro e w3 ⟨a3, c3, r3, rfl, hr3, ho3, hb3⟩
  have HR3 : Hid (r3 = form id.toNat ++ (form c.length ++ c)) := by show _ = _; rw [hr3.out, HR2.out, HSC.out]; rfl
  have hl3 : r3.length ≤ 44 := by rw [HR3.out]; simp only [List.length_append]; have := form_len id.toNat; have := form_len c.length; omega
  have HC3 := hide (HC2.out.below hb3 (Nat.le_refl _))
  have HB3 : Hid (Below w.heap.size w w3) := HB2.out.trans (hb3.mono HB2.out.size)
  have HO3 := hide ho3.toBs
  clear hr3 ho3 hb3 HC2 HB2 HO2 HR2 k0 k1 k2
  obtain ⟨k0, k1, k2⟩ := HC3.out
  go_wp2_with fail
  refine (text_any a3 c3 r3 (str g) w3 HO3.out (by omega) (by rw [HSG.out]; omega)).mono ?_
  rintro e w4 ⟨a4, c4, r4, rfl, hr4, ho4, hb4⟩
  have HR4 : Hid (r4 = form id.toNat ++ (form c.length ++ c) ++ (form g.length ++ g)) := by show _ = _; rw [hr4.out, HR3.out, HSG.out]; rfl
  have hl4 : r4.length ≤ 88 := by rw [HR4.out]; simp only [List.length_append]; have := form_len id.toNat; have := form_len c.length; have := form_len g.length; omega
  have HC4 := hide (HC3.out.below hb4 (Nat.le_refl _))
  have HB4 : Hid (Below w.heap.size w w4) := HB3.out.trans (hb4.mono HB3.out.size)
  have HO4 := hide ho4.toBs
  clear hr4 ho4 hb4 HC3 HB3 HO3 HR3 k0 k1 k2
  obtain ⟨k0, k1, k2⟩ := HC4.out
  go_wp2_with fail
  refine (number_any a4 c4 r4 u w4 HO4.out (by omega) hu0 hu1).mono ?_
  rintro e w5 ⟨a5, c5, r5, rfl, hr5, ho5, hb5⟩
  have HR5 : Hid (r5 = pay id ⟨c, g, u⟩) := by show _ = _; rw [hr5.out, HR4.out]; rfl
  have hl5 : r5.length ≤ 200 := by rw [hr5.out, List.length_append]; have := form_len u.toNat; omega
  have HB5 : Hid (Below w.heap.size w w5) := HB4.out.trans (hb5.mono HB4.out.size)
  have HO5 := hide ho5.toBs
  clear hr5 ho5 hb5
  go_wp2
  go_ret
  exact ⟨a5, c5, r5, rfl, HR5, HO5, HB5, hl5⟩
#print axioms payload_any
end Go.Proofs.YtoapkajlgnlecaaDoor
