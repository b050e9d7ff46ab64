/-
  authtok: THE WALK of said.
-/
import Derived.Test.YtoapkajlgnlecaaDoorAutE
set_option linter.unusedVariables false
set_option maxRecDepth 1000000
namespace Go.Proofs.YtoapkajlgnlecaaDoor
open Go.RowKit

theorem below_curs {B : Nat} {w0 w w' : World} {C : Nat} (h : Below B w0 w) (hg : w.grownBy w' (some C)) (hB : B ≤ w.heap.size) (hC : B ≤ C) : Below B w0 w' :=
  h.grown hg hB (fun k hk => by rw [← Option.some.inj hk]; exact hC)
theorem tx_len (l : List UInt8) : (tx l 24).1.length ≤ 24 := by
  unfold tx
  split
  · simp
  · split
    · simp
    · split
      · simp
      · rw [List.length_take]; omega
theorem say_parts (p : List UInt8) (N1 S1 E1 E2 S2 E3 S3 N4 S4 E4 : Nat) (t2 t3 : List UInt8) (e1 : (N1, S1, E1) = rd (p.drop 0)) (e2 : (t2, E2, S2) = tx (p.drop (0 + S1)) 24) (e3 : (t3, E3, S3) = tx (p.drop (0 + S1 + S2)) 24) (e4 : (N4, S4, E4) = rd (p.drop (0 + S1 + S2 + S3))) :
    sayP p = ((N1 : Int), ⟨t2, t3, (N4 : Int)⟩) := by
  rw [List.drop_zero] at e1
  rw [Nat.zero_add] at e2 e3 e4
  rw [← List.drop_drop] at e3
  rw [← List.drop_drop, ← List.drop_drop] at e4
  unfold sayP tx1 tx2
  rw [← e1]
  simp only
  rw [← e2]
  simp only
  rw [← e3]
  simp only
  rw [← e4]

/-- A claim's block of the call's own. -/
def Clz (w : World) (R : Nat) : Prop := w.heap[R]? = some (.cells #[.string ⟨#[]⟩, .string ⟨#[]⟩, .int .i64 0] 33 (0, 0))
theorem Clz.lt {w : World} {R : Nat} (h : Clz w R) : R < w.heap.size := (Array.getElem?_eq_some_iff.1 h).1
theorem Clz.below {w w' : World} {R B : Nat} (h : Clz w R) (hb : Below B w w') (hB : w.heap.size ≤ B) : Clz w' R := by
  unfold Clz
  rw [hb.block R (Nat.lt_of_lt_of_le h.lt hB)]
  exact h
theorem Clz.grown {w w' : World} {R C : Nat} (h : Clz w R) (hg : w.grownBy w' (some C)) (hne : R ≠ C) : Clz w' R := by
  unfold Clz
  rw [hg.block R h.lt (fun e => hne (Option.some.inj e))]
  exact h


set_option maxHeartbeats 8000000 in
theorem said_any (s : List UInt8) (w : World) (hs : s.length ≤ 100000) :
    Calls Tryd.prog 20 #[.string (str s)] w fun e w' => ∃ (id : Nat) (c g : List UInt8) (u : Nat), e = .returned (.tuple #[.int .i64 (id : Int), .agg #[.string (str c), .string (str g), .int .i64 (u : Int)]]) ∧ Hid (say s = ((id : Int), ⟨c, g, (u : Int)⟩)) ∧ Hid (Below w.heap.size w w') ∧ c.length ≤ 24 ∧ g.length ≤ 24 ∧ id ≤ 9223372036854775807 ∧ u ≤ 9223372036854775807 := by
  go_enter Tryd.func20, Tryd.ntmps20
  go_wp2_with fail
  have HR1 : Hid (Clz (w.alloc (.cells #[.string ⟨#[]⟩, .string ⟨#[]⟩, .int .i64 0] 33)) w.heap.size) := heap_alloc_new w _
  have HB1 : Hid (Below w.heap.size w (w.alloc (.cells #[.string ⟨#[]⟩, .string ⟨#[]⟩, .int .i64 0] 33))) := (Below.refl _ _).alloc (Nat.le_refl _) _
  generalize w.alloc (.cells #[.string ⟨#[]⟩, .string ⟨#[]⟩, .int .i64 0] 33) = w1 at *
  refine (cut_any s w1 hs).mono ?_
  rintro e w2 ⟨tc, bc, rfl, hb2⟩
  have HR2 := hide (HR1.out.below hb2.out (Nat.le_refl _))
  have HB2 : Hid (Below w.heap.size w w2) := HB1.out.trans (hb2.out.mono HB1.out.size)
  clear hb2 HR1 HB1
  have hcl : (cutP s).length ≤ 100000 := by unfold cutP; exact Nat.le_trans (List.takeWhile_sublist _).length_le hs
  have HU : Hid (Calls Tryd.prog 32 #[.string (str (cutP s))] w2 fun e w' => ∃ a cap p b, e = .returned (.tuple #[.slice a p.length cap, .bool b]) ∧ Hid (p = (unR (cutP s) 0 0).getD []) ∧ Hid (Bs w' a cap p) ∧ Hid (Below w2.heap.size w2 w') ∧ p.length ≤ 100000) := by
    refine (unspell_any (str (cutP s)) w2 hcl).mono ?_
    rintro e w3 ⟨hb, h⟩
    rcases h with ⟨h1, rfl⟩ | ⟨a, cap, r, h1, rfl, ho⟩
    · exact ⟨none, 0, [], false, rfl, (by show _ = _; rw [show unR (cutP s) 0 0 = none from h1]; rfl), bs_none _, hb, by simp⟩
    · refine ⟨a, cap, r, true, rfl, (by show _ = _; rw [show unR (cutP s) 0 0 = some r from h1]; rfl), ho.toBs, hb, ?_⟩
      have := un_length _ _ (show unR (cutP s) 0 0 = some r from h1)
      omega
  go_wp2_with fail
  refine HU.out.mono ?_
  rintro e w3 ⟨a3, c3, p, b3, rfl, HP, HS3, hb3, hpl⟩
  have HR3 := hide (HR2.out.below hb3.out (Nat.le_refl _))
  have HB3 : Hid (Below w.heap.size w w3) := HB2.out.trans (hb3.out.mono HB2.out.size)
  clear hb3 HR2 HB2 HU
  go_wp2_with fail
  refine (from_any a3 p.length c3 p w3 HS3.out rfl (by omega)).mono ?_
  rintro e w4 ⟨C, a4, c4, rfl, hC4, hCl, hCb, hb4⟩
  have HR4 := hide (HR3.out.below hb4 (Nat.le_refl _))
  have HB4 : Hid (Below w.heap.size w w4) := HB3.out.trans (hb4.mono HB3.out.size)
  have HNE : Hid (w.heap.size ≠ C) := by have := HR3.out.lt; show _ ≠ _; omega
  have HWC : Hid (w.heap.size ≤ C) := by have := HR3.out.lt; show _ ≤ _; omega
  have HC4 := hide hC4
  clear hb4 HR3 HB3 hC4 hCl hCb HS3
  go_wp2_with fail
  refine (cnumber_any C a4 c4 p 0 w4 HC4.out).mono ?_
  rintro e w5 ⟨N1, S1, E1, rfl, E1', hC5, hg5⟩
  have HR5 := hide (HR4.out.grown hg5 HNE.out)
  have HB5 := hide (below_curs HB4.out hg5 HB4.out.size HWC.out)
  have HC5 := hide hC5
  clear HR4 HB4 HC4 hC5 hg5
  go_wp2_with fail
  refine (ctext_any C a4 c4 p (0 + S1) 24 w5 HC5.out (by omega) (by omega)).mono ?_
  rintro e w6 ⟨t2, E2, S2, rfl, E2', hC6, hg6⟩
  have HR6 := hide (HR5.out.grown hg6 HNE.out)
  have HB6 := hide (below_curs HB5.out hg6 HB5.out.size HWC.out)
  have HC6 := hide hC6
  clear HR5 HB5 HC5 hC6 hg6
  go_wp2_with fail
  refine (ctext_any C a4 c4 p (0 + S1 + S2) 24 w6 HC6.out (by omega) (by omega)).mono ?_
  rintro e w7 ⟨t3, E3, S3, rfl, E3', hC7, hg7⟩
  have HR7 := hide (HR6.out.grown hg7 HNE.out)
  have HB7 := hide (below_curs HB6.out hg7 HB6.out.size HWC.out)
  have HC7 := hide hC7
  clear HR6 HB6 HC6 hC7 hg7
  go_wp2_with fail
  refine (cnumber_any C a4 c4 p (0 + S1 + S2 + S3) w7 HC7.out).mono ?_
  rintro e w8 ⟨N4, S4, E4, rfl, E4', hC8, hg8⟩
  have HR8 := hide (HR7.out.grown hg8 HNE.out)
  have HB8 := hide (below_curs HB7.out hg8 HB7.out.size HWC.out)
  clear HR7 HB7 HC7 hC8 hg8
  have HSAY : Hid (say s = ((N1 : Int), ⟨t2, t3, (N4 : Int)⟩)) := by
    show _ = _
    unfold say
    rw [← HP.out]
    exact say_parts p N1 S1 E1 E2 S2 E3 S3 N4 S4 E4 t2 t3 E1'.out E2'.out E3'.out E4'.out
  have hl2 : t2.length ≤ 24 := by have := tx_len (p.drop (0 + S1)); rw [← E2'.out] at this; exact this
  have hl3 : t3.length ≤ 24 := by have := tx_len (p.drop (0 + S1 + S2)); rw [← E3'.out] at this; exact this
  have hn1 : N1 ≤ 9223372036854775807 := by have := (rd_le (p.drop 0)).2.1; rw [← E1'.out] at this; exact this
  have hn4 : N4 ≤ 9223372036854775807 := by have := (rd_le (p.drop (0 + S1 + S2 + S3))).2.1; rw [← E4'.out] at this; exact this
  clear E1' E2' E3' E4' HP
  have b0 : w8.cell? ⟨w.heap.size, 0, none⟩ = some (.string ⟨#[]⟩) := by rw [cell_of_row w8 w.heap.size 0 _ _ _ HR8.out]; rfl
  have b1 : w8.cell? ⟨w.heap.size, 1, none⟩ = some (.string ⟨#[]⟩) := by rw [cell_of_row w8 w.heap.size 1 _ _ _ HR8.out]; rfl
  have b2 : w8.cell? ⟨w.heap.size, 2, none⟩ = some (.int .i64 0) := by rw [cell_of_row w8 w.heap.size 2 _ _ _ HR8.out]; rfl
  have f0 : w8.frozen? ⟨w.heap.size, 0, none⟩ = false := frozen_of_row w8 w.heap.size 0 _ _ HR8.out
  have f1 : w8.frozen? ⟨w.heap.size, 1, none⟩ = false := frozen_of_row w8 w.heap.size 1 _ _ HR8.out
  have f2 : w8.frozen? ⟨w.heap.size, 2, none⟩ = false := frozen_of_row w8 w.heap.size 2 _ _ HR8.out
  have HB9 : Hid (Below w.heap.size w (((w8.setCell ⟨w.heap.size, 0, none⟩ (.string (str t2))).setCell ⟨w.heap.size, 1, none⟩ (.string (str t3))).setCell ⟨w.heap.size, 2, none⟩ (.int .i64 (N4 : Int)))) := by
    have st : ∀ (v : World) (p : Addr) (x : Value), Below w.heap.size w v → w.heap.size ≤ p.block → Below w.heap.size w (v.setCell p x) := fun v p x h hp => h.grown (grownBy_set v p x) h.size (fun k hk => by rw [← Option.some.inj hk]; exact hp)
    exact st _ _ _ (st _ _ _ (st _ _ _ HB8.out (Nat.le_refl _)) (Nat.le_refl _)) (Nat.le_refl _)
  go_wp2
  refine bodyPost_ret (v := .tuple #[.int .i64 (N1 : Int), .agg #[.string (str t2), .string (str t3), .int .i64 (N4 : Int)]]) (by simp [results, Tryd.results20, go_sem, b0, b1, b2]) rfl ⟨N1, t2, t3, N4, rfl, HSAY, HB9, hl2, hl3, hn1, hn4⟩
#print axioms said_any
end Go.Proofs.YtoapkajlgnlecaaDoor
