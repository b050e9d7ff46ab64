/-
  jsonx: list$1: an item more.; jsonx: list.
-/
import Derived.Test.YtmpjeahibfdehaaGreatDoorPkMOneag
section
set_option linter.unusedVariables false
set_option maxRecDepth 1000000
namespace Go.Proofs.YtmpjeahibfdehaaGreatDoor
open Go.RowKit

theorem cq_of {w : World} {P Q : Nat} (h : w.heap[Q]? = some (.cells #[.pointer (some ⟨P, 0, none⟩)] 131 (0, 0))) : w.cell? ⟨Q, 0, none⟩ = some (.pointer (some ⟨P, 0, none⟩)) := cR6 h
theorem siz1 (w : World) (p : Addr) (v : Value) : (w.setCell p v).heap.size = w.heap.size := by simp
theorem siz5 (w : World) (g o0 o1 o2 o3 o4 : Nat) (v0 v1 v2 v3 v4 : Value) : (((((w.setCell ⟨g, o0, none⟩ v0).setCell ⟨g, o1, none⟩ v1).setCell ⟨g, o2, none⟩ v2).setCell ⟨g, o3, none⟩ v3).setCell ⟨g, o4, none⟩ v4).heap.size = w.heap.size := by simp
theorem far5 (w : World) (g k o0 o1 o2 o3 o4 : Nat) (v0 v1 v2 v3 v4 : Value) (h : k ≠ g) : (((((w.setCell ⟨g, o0, none⟩ v0).setCell ⟨g, o1, none⟩ v1).setCell ⟨g, o2, none⟩ v2).setCell ⟨g, o3, none⟩ v3).setCell ⟨g, o4, none⟩ v4).heap[k]? = w.heap[k]? := by
 rw [Below.heap_setCell _ ⟨g, o4, none⟩ _ k h, Below.heap_setCell _ ⟨g, o3, none⟩ _ k h, Below.heap_setCell _ ⟨g, o2, none⟩ _ k h, Below.heap_setCell _ ⟨g, o1, none⟩ _ k h, Below.heap_setCell _ ⟨g, o0, none⟩ _ k h]
theorem own5 {w : World} {lo g cap n : Nat} {xs : List Value} (h : OwnJ w lo (some ⟨g, 0, none⟩) cap (n + 1) (xs ++ zJ)) (hx : xs.length = n * 5) (v0 v1 v2 v3 v4 : Value) : OwnJ (((((w.setCell ⟨g, n * 5, none⟩ v0).setCell ⟨g, n * 5 + 1, none⟩ v1).setCell ⟨g, n * 5 + 2, none⟩ v2).setCell ⟨g, n * 5 + 3, none⟩ v3).setCell ⟨g, n * 5 + 4, none⟩ v4) lo (some ⟨g, 0, none⟩) cap (n + 1) (xs ++ [v0, v1, v2, v3, v4]) := by
 rw [← set5 xs n hx v0 v1 v2 v3 v4]
 have l : (xs ++ zJ).length = n * 5 + 5 := by simp [hx, zJ]
 exact owns_set (owns_set (owns_set (owns_set (owns_set h _ _ (by rw [l]; omega)) _ _ (by rw [List.length_set, l]; omega)) _ _ (by rw [List.length_set, List.length_set, l]; omega)) _ _ (by rw [List.length_set, List.length_set, List.length_set, l]; omega)) _ _ (by rw [List.length_set, List.length_set, List.length_set, List.length_set, l]; omega)
theorem pa_keep {u w2 w6 : World} {P V lo g dd a' : Nat} {T : List UInt8} {a2 : Option Addr} (h : Pa u P T a' dd) (hg : u.grownBy w2 (blk a2)) (hb : ∀ k, blk a2 = some k → lo ≤ k) (hk : ∀ k, k ≠ V → k ≠ g → w6.heap[k]? = w2.heap[k]?) (hP : P < lo) (hPV : P ≠ V) (hgl : lo ≤ g) (h4 : 2 < lo ∧ 3 < lo) (hV4 : 2 ≠ V ∧ 3 ≠ V) : Pa w6 P T a' dd := by
 have key : ∀ k, k < lo → k ≠ V → k < u.heap.size → w6.heap[k]? = u.heap[k]? := fun k h1 h2 h3 => (hk k h2 (by omega)).trans (hg.block k h3 (fun e => by have := hb k e.symm; omega))
 exact { h with row := (key P hP hPV h.lt).trans h.row, tb := h.tb.keep (fun k hk => by rcases hk with rfl | rfl; exact key _ h4.1 hV4.1 h.tb.lt.1; exact key _ h4.2 hV4.2 h.tb.lt.2) }
/-- What the reader of a value owes. -/
def VaC (P : Nat) (T : List UInt8) (dd : Nat) (V : List UInt8 → Rs Js) : Prop := ∀ (a : Nat) (w : World), Pa w P T a dd → Calls Tryz.prog 74 #[.pointer (some ⟨P, 0, none⟩)] w fun e w' => Po (fun j val w' => JV w' (Nw w w') val j) T w P dd (V (T.drop a)) e w'
/-- What comes of one item more. -/
def LiP (w : World) (P V Q lo dd : Nat) (T : List UInt8) (kk : Int) (ns : List (List UInt8)) (is : List Js) (M : Rs Js) (e : Ending) (w' : World) : Prop :=
 (∃ j a' a1 c1 a2 c2 xs, M = .ok j (T.drop a') ∧ e = .returned (.tuple #[]) ∧ Pa w' P T a' dd ∧ Lm w w' P V lo ∧ w'.heap[Q]? = some (.cells #[.pointer (some ⟨P, 0, none⟩)] 131 (0, 0)) ∧ Bv w' V lo kk ns (is ++ [j]) a1 c1 a2 c2 xs) ∨ (∃ y a', M = .no (T.drop a') y ∧ e = flt a' y ∧ a' ≤ T.length ∧ Lm w w' P V lo)
theorem LiP.nay {w : World} {P V Q lo dd : Nat} {T : List UInt8} {kk : Int} {ns : List (List UInt8)} {is : List Js} {M : Rs Js} {w' : World} {y a' : Nat} (h1 : M = .no (T.drop a') y) (h2 : a' ≤ T.length) (h3 : Lm w w' P V lo) : LiP w P V Q lo dd T kk ns is M (flt a' y) w' := .inr ⟨y, a', h1, rfl, h2, h3⟩
set_option maxHeartbeats 16000000 in
theorem list1_any (P : Nat) (T : List UInt8) (dd : Nat) (Vf : List UInt8 → Rs Js) (hV : VaC P T dd Vf) (V Q lo : Nat) (a : Nat) (kk : Int) (ns : List (List UInt8)) (is : List Js) (a1 : Option Addr) (c1 : Nat) (a2 : Option Addr) (c2 : Nat) (xs : List Value) (w : World) (hP : Pa w P T a dd) (hB : Bv w V lo kk ns is a1 c1 a2 c2 xs) (hQ : w.heap[Q]? = some (.cells #[.pointer (some ⟨P, 0, none⟩)] 131 (0, 0)))
  (hPlo : P < lo) (hPV : P ≠ V) (hQlo : Q < lo) (hQP : Q ≠ P) (hQV : Q ≠ V) (hsz : lo ≤ w.heap.size) (his : is.length ≤ 1000000) (hg4 : 2 < lo ∧ 3 < lo) (hgV4 : 2 ≠ V ∧ 3 ≠ V) :
  Calls Tryz.prog 139 #[.pointer (some ⟨V, 0, none⟩), .pointer (some ⟨Q, 0, none⟩)] w fun e w' => LiP w P V Q lo dd T kk ns is (Vf (T.drop a)) e w' := by
 have HV := hide hV
 obtain ⟨D, hD⟩ : ∃ D, D = w.drew := ⟨_, rfl⟩
 have hbD : Below w.heap.size w D := by rw [hD]; exact Below.drew (Below.refl _ _)
 have HPD := hide (hP.below hbD)
 have HBD := hide (hB.below hbD)
 have HQD := hide ((hbD.block Q (aI hQ).1).trans hQ)
 have SZD : Hid (lo ≤ D.heap.size) := Nat.le_trans hsz hbD.size
 have LMD : Hid (Lm w D P V lo) := Lm.ofMv (Mv.ofB hbD) hsz
 clear hP hB hQ hbD hV hsz
 go_enter Tryz.func139, Tryz.ntmps139
 refine wp_region_held_drew (S := fun w' => w'.cell? ⟨Q, 0, none⟩ = some (.pointer (some ⟨P, 0, none⟩))) (by kernel_rfl) (by rw [← hD]; exact cq_of (uh HQD)) (fun hHeld => ?_)
 rw [← hD] at hHeld ⊢
 clear hD
 refine wpAnyH_take (i := 0) (oi := ?_) (v := ?_) ?_ (by kernel_rfl) ?_ ?_ ?_ ?_ hHeld ?_
 rotate_left 2
 ·(simp only [xq1, xq3]) <;> with_reducible rfl
 ·kernel_rfl
 ·kernel_rfl
 ·exact fun _ _ _ h => h
 ·exact Or.inl ⟨by rfl, by (intro w hSw; (try dsimp only at hSw); go_simp <;> with_reducible rfl)⟩
 simp only [Act.put, xq4, xq5, xq6]
 refine wpAnyH_take (i := 2) (oi := ?_) (v := ?_) ?_ (by kernel_rfl) ?_ ?_ ?_ ?_ hHeld ?_
 rotate_left 2
 ·(simp only [xq1, xq2, xq3]) <;> with_reducible rfl
 ·kernel_rfl
 ·kernel_rfl
 ·exact fun _ _ _ h => h
 ·exact Or.inl ⟨by rfl, by (intro w hSw; (try dsimp only at hSw); go_simp <;> with_reducible rfl)⟩
 simp only [Act.put, xq4, xq5, xq6]
 refine wpAnyH_ready (rs := [1, 3, 5]) (by kernel_rfl) (by simp) ?rda
 refine AllReadyH.cons (o := ?oa1) ?ha1 (fun K hK => ?ba1) (AllReadyH.cons (o := ?oa3) ?ha3 (fun K hK => ?ba3) (AllReadyH.cons (o := ?oa5) ?ha5 (fun K hK => ?ba5) AllReadyH.nil))
 case ha1 => (simp only [xq1, xq2, xq3]) <;> with_reducible rfl
 case ha3 => (simp only [xq1, xq2, xq3]) <;> with_reducible rfl
 case ha5 => (simp only [xq1, xq2, xq3]) <;> with_reducible rfl
 case ba1 =>
  have c4 := (uh HBD).cells.2.1
  go_simp
  clear c4
  refine hK.out _ _ (cq_of (uh HQD)) (fun hHeld => ?_)
  clear hK K
  try simp only [Act.put, xq4, xq5, xq6]
  refine wpAnyH_take (i := 4) (oi := ?_) (v := ?_) ?_ (by kernel_rfl) ?_ ?_ ?_ ?_ hHeld ?_
  rotate_left 2
  ·(simp only [xq1, xq2, xq3]) <;> with_reducible rfl
  ·kernel_rfl
  ·kernel_rfl
  ·exact fun _ _ _ h => h
  ·exact Or.inl ⟨by rfl, by (intro w hSw; (try dsimp only at hSw); go_simp <;> with_reducible rfl)⟩
  simp only [Act.put, xq4, xq5, xq6]
  refine wpAnyH_ready (rs := [3, 5]) (by kernel_rfl) (by simp) ?rda1
  refine AllReadyH.cons (o := ?oa13) ?ha13 (fun K hK => ?ba13) (AllReadyH.cons (o := ?oa15) ?ha15 (fun K hK => ?ba15) AllReadyH.nil)
  case ha13 => (simp only [xq1, xq2, xq3]) <;> with_reducible rfl
  case ha15 => (simp only [xq1, xq2, xq3]) <;> with_reducible rfl
  case ba13 =>
   have OLDe : ∃ OLD, OLD = D.heap.size := ⟨_, rfl⟩
   obtain ⟨OLD, hOLD⟩ := OLDe
   go_simp
   refine (uh HV _ D (uh HPD)).mono ?_
   rintro e Dv (⟨j, val, a', hM, rfl, hP3, hMv3, hJ⟩ | ⟨y, a', hM, rfl, h2, h3⟩)
   rotate_left 1
   ·exact ⟨rfl, LiP.nay hM h2 ((uh LMD).trans (Lm.ofMv h3 (uh SZD)))⟩
   obtain ⟨jk, jn, jt, ja1, jn1, jc1, ja2, jn2, jc2, rfl⟩ := hJ.form
   have HPDv := hide hP3
   have HBDv := hide ((uh HBD).mv hMv3 hPlo hPV)
   have HQDv := hide ((hMv3.block Q (aI (uh HQD)).1 (fun e => hQP (Option.some.inj e))).trans (uh HQD))
   have SZDv : Hid (lo ≤ Dv.heap.size) := Nat.le_trans (uh SZD) hMv3.size
   have LMDv : Hid (Lm w Dv P V lo) := (uh LMD).trans (Lm.ofMv hMv3 (uh SZD))
   have HJDv : Hid (JV Dv (fun k => OLD ≤ k ∧ k < Dv.heap.size) (.agg #[.int .i64 jk, .int .i64 jn, .string (str jt), .slice ja1 jn1 jc1, .slice ja2 jn2 jc2]) j) := JV.keep (fun k hk => ⟨⟨by rw [hOLD]; exact hk.1, hk.2⟩, rfl⟩) j _ hJ
   have HO1 : Hid (lo ≤ OLD ∧ V < OLD ∧ (∀ k, blk a1 = some k → k < OLD) ∧ (∀ k, blk a2 = some k → k < OLD)) := by rw [hOLD]; exact ⟨uh SZD, (uh HBD).lt, fun k hk => (owns_lt (uh HBD).nm k hk).2, fun k hk => (owns_lt (uh HBD).it k hk).2⟩
   have HMo := hide hM
   clear hM hP3 hMv3 hJ hOLD
   refine hK.out _ _ (cq_of (uh HQDv)) (fun hHeld => ?_)
   clear hK K
   try simp only [Act.put, xq4, xq5, xq6]
   refine wpAnyH_ready (rs := [5]) (by kernel_rfl) (by simp) ?rda13
   refine AllReadyH.cons (o := ?oa135) ?ha135 (fun K hK => ?ba135) AllReadyH.nil
   case ha135 => (simp only [xq1, xq2, xq3]) <;> with_reducible rfl
   case ba135 =>
    obtain ⟨Dvz, hDvz⟩ : ∃ Dvz, Dvz = Dv.alloc (.cells #[.int .i64 0, .int .i64 0, .string ⟨#[]⟩, .slice none 0 0, .slice none 0 0] 44) := ⟨_, rfl⟩
    obtain ⟨Z, hZ⟩ : ∃ Z, Z = Dv.heap.size := ⟨_, rfl⟩
    have hbDvz : Below Dv.heap.size Dv Dvz := by rw [hDvz]; exact bA _
    have hz : Dvz.heap[Z]? = some (.cells zJ.toArray 44 (0, 0)) := by rw [hDvz, hZ]; exact heap_alloc_new _ _
    have HPDvz := hide ((uh HPDv).below hbDvz)
    have HBDvz := hide ((uh HBDv).below hbDvz)
    have HQDvz := hide ((hbDvz.block Q (aI (uh HQDv)).1).trans (uh HQDv))
    have SZDvz : Hid (lo ≤ Dvz.heap.size) := Nat.le_trans (uh SZDv) hbDvz.size
    have LMDvz : Hid (Lm w Dvz P V lo) := (uh LMDv).trans (Lm.ofMv (Mv.ofB hbDvz) (uh SZDv))
    have HZDvz := hide hz
    have HJDvz : Hid (JV Dvz (fun k => OLD ≤ k ∧ k < Dvz.heap.size) (.agg #[.int .i64 jk, .int .i64 jn, .string (str jt), .slice ja1 jn1 jc1, .slice ja2 jn2 jc2]) j) := JV.keep (fun k hk => ⟨⟨hk.1, Nat.lt_of_lt_of_le hk.2 hbDvz.size⟩, hbDvz.block k hk.2⟩) j _ (uh HJDv)
    clear hz hbDvz
    go_simp
    rw [← hDvz, ← hZ]
    clear hDvz hZ
    refine hK.out _ _ (cq_of (uh HQDvz)) (fun hHeld => ?_)
    clear hK K
    try simp only [Act.put, xq4, xq5, xq6]
    refine wpAnyH_ready (rs := [6]) (by kernel_rfl) (by simp) ?rda135t
    refine AllReadyH.cons (o := ?oa135t6) ?ha135t6 (fun K hK => ?ba135t6) AllReadyH.nil
    case ha135t6 => (simp only [xq1, xq2, xq3]) <;> with_reducible rfl
    case ba135t6 =>
     refine stp_appz Dvz rfl (.tmp 3) (.tmp 7) rfl lo a2 c2 is.length xs rfl (uh HBDvz).it Z _ rfl (uh HZDvz) his (uh SZDvz) ?_
     intro g cap w2 HO HG HAT HGL
     have hglo : lo ≤ g := (owns_lt (uh HO) g rfl).1
     have hQ2 : w2.heap[Q]? = some (.cells #[.pointer (some ⟨P, 0, none⟩)] 131 (0, 0)) := ((uh HG).block Q (aI (uh HQDvz)).1 (fun e => by have := (owns_lt (uh HBDvz).it Q e.symm).1; omega)).trans (uh HQDvz)
     have hV2 : w2.heap[V]? = some (.cells #[.int .i64 kk, .int .i64 0, .string ⟨#[]⟩, .slice a1 ns.length c1, .slice a2 is.length c2] 44 (0, 0)) := ((uh HG).block V (uh HBDvz).lt (fun e => (uh HBDvz).v2 e.symm)).trans (uh HBDvz).row
     have HQ2 := hide hQ2
     have HV2 := hide hV2
     have hxl : xs.length = is.length * 5 := (uh HBDvz).it.1
     have hgV : g ≠ V := by
      rintro rfl
      rcases uh HAT with e | e
      ·exact (uh HBDvz).v2 e
      ·have := (uh HBDvz).lt; omega
     have LM2 : Hid (Lm w w2 P V lo) := (uh LMDvz).trans (Lm.ofG (uh HG) (uh SZDvz) (fun k hk => (owns_lt (uh HBDvz).it k hk).1))
     have hz5 : ∀ m v, zJ[m]? = some v → (xs ++ zJ)[is.length * 5 + m]? = some v := fun m v hm => by rw [List.getElem?_append_right (by omega), show is.length * 5 + m - xs.length = m by omega]; exact hm
     obtain ⟨e0, f0⟩ := owns_cell (uh HO) _ _ (hz5 0 _ rfl)
     obtain ⟨e1, f1⟩ := owns_cell (uh HO) _ _ (hz5 1 _ rfl)
     obtain ⟨e2, f2⟩ := owns_cell (uh HO) _ _ (hz5 2 _ rfl)
     obtain ⟨e3, f3⟩ := owns_cell (uh HO) _ _ (hz5 3 _ rfl)
     obtain ⟨e4, f4⟩ := owns_cell (uh HO) _ _ (hz5 4 _ rfl)
     rw [Nat.add_zero] at e0 f0
     have c4 : w2.cell? ⟨V, 4, none⟩ = some (.slice a2 is.length c2) := cR6 hV2
     have cfV : w2.frozen? ⟨V, 4, none⟩ = false := frozen_of_row _ _ _ _ _ hV2
     have HXL := hide hxl
     have HZ5 := hide hz5
     clear hQ2 hV2 hxl hz5
     refine hK.out _ _ (cq_of (uh HQ2)) (fun hHeld => ?_)
     clear hK K
     try simp only [Act.put, xq4, xq5, xq6]
     have hil : (is.length : Int) < (is.length : Int) + 1 := by omega
     refine wpAnyH_take (i := 7) (oi := ?_) (v := ?_) ?_ (by kernel_rfl) ?_ ?_ ?_ ?_ hHeld ?_
     rotate_left 2
     ·(simp only [xq1, xq2, xq3]) <;> with_reducible rfl
     ·kernel_rfl
     ·kernel_rfl
     ·exact fun _ _ _ h => h
     ·exact Or.inl ⟨by rfl, by (intro w hSw; (try dsimp only at hSw); go_simp <;> with_reducible rfl)⟩
     simp only [Act.put, xq4, xq5, xq6]
     refine wpAnyH_take (i := 9) (oi := ?_) (v := ?_) ?_ (by kernel_rfl) ?_ ?_ ?_ ?_ hHeld ?_
     rotate_left 2
     ·(simp only [xq1, xq2, xq3]) <;> with_reducible rfl
     ·kernel_rfl
     ·kernel_rfl
     ·exact fun _ _ _ h => h
     ·exact Or.inl ⟨by rfl, by (intro w hSw; (try dsimp only at hSw); go_simp <;> with_reducible rfl)⟩
     simp only [Act.put, xq4, xq5, xq6]
     refine wpAnyH_ready (rs := [8, 10]) (by kernel_rfl) (by simp) ?rda135u
     refine AllReadyH.cons (o := ?oa135u8) ?ha135u8 (fun K hK => ?ba135u8) (AllReadyH.cons (o := ?oa135u10) ?ha135u10 (fun K hK => ?ba135u10) AllReadyH.nil)
     case ha135u8 => (simp only [xq1, xq2, xq3]) <;> with_reducible rfl
     case ha135u10 => (simp only [xq1, xq2, xq3]) <;> with_reducible rfl
     case ba135u8 =>
      obtain ⟨w5, h5⟩ : ∃ w5, w5 = ((((w2.setCell ⟨g, is.length * 5, none⟩ (.int .i64 jk)).setCell ⟨g, is.length * 5 + 1, none⟩ (.int .i64 jn)).setCell ⟨g, is.length * 5 + 2, none⟩ (.string (str jt))).setCell ⟨g, is.length * 5 + 3, none⟩ (.slice ja1 jn1 jc1)).setCell ⟨g, is.length * 5 + 4, none⟩ (.slice ja2 jn2 jc2) := ⟨_, rfl⟩
      have o5 : OwnJ w5 lo (some ⟨g, 0, none⟩) cap (is.length + 1) (xs ++ [.int .i64 jk, .int .i64 jn, .string (str jt), .slice ja1 jn1 jc1, .slice ja2 jn2 jc2]) := by rw [h5]; exact own5 (uh HO) (uh HXL) _ _ _ _ _
      have k5 : ∀ k, k ≠ g → w5.heap[k]? = w2.heap[k]? := fun k hk => by rw [h5]; exact far5 w2 g k _ _ _ _ _ _ _ _ _ _ hk
      have z5 : w5.heap.size = w2.heap.size := by rw [h5]; exact siz5 w2 g _ _ _ _ _ _ _ _ _ _
      have l5 : Lm w w5 P V lo := by rw [h5]; exact (((((uh LM2).trans (Lm.set (.inr hglo))).trans (Lm.set (.inr hglo))).trans (Lm.set (.inr hglo))).trans (Lm.set (.inr hglo))).trans (Lm.set (.inr hglo))
      have q5 : w5.heap[Q]? = some (.cells #[.pointer (some ⟨P, 0, none⟩)] 131 (0, 0)) := (k5 Q (by omega)).trans (uh HQ2)
      have r5 : w5.heap[V]? = some (.cells #[.int .i64 kk, .int .i64 0, .string ⟨#[]⟩, .slice a1 ns.length c1, .slice a2 is.length c2] 44 (0, 0)) := (k5 V (Ne.symm hgV)).trans (uh HV2)
      have c5 : w5.cell? ⟨V, 4, none⟩ = some (.slice a2 is.length c2) := cR6 r5
      have cf5 : w5.frozen? ⟨V, 4, none⟩ = false := frozen_of_row _ _ _ _ _ r5
      have HO5 := hide o5
      have HK5 := hide k5
      have HZz := hide z5
      have HL5 := hide l5
      have HQ5 := hide q5
      have HR5 := hide r5
      clear o5 k5 z5 l5 q5 r5 c4 cfV
      go_simp
      rw [← h5]
      clear h5 e0 e1 e2 e3 e4 f0 f1 f2 f3 f4
      refine hK.out _ _ (cq_of (uh HQ5)) (fun hHeld => ?_)
      clear hK K
      try simp only [Act.put, xq4, xq5, xq6]
      refine wpAnyH_ready (rs := [10]) (by kernel_rfl) (by simp) ?rda135w
      refine AllReadyH.cons (o := ?oa135w10) ?ha135w10 (fun K hK => ?ba135w10) AllReadyH.nil
      case ha135w10 => (simp only [xq1, xq2, xq3]) <;> with_reducible rfl
      case ba135w10 =>
       obtain ⟨w6, h6⟩ : ∃ w6, w6 = w5.setCell ⟨V, 4, none⟩ (.slice (some ⟨g, 0, none⟩) (is.length + 1) cap) := ⟨_, rfl⟩
       have g6 := grownBy_setCell w5 ⟨V, 4, none⟩ (.slice (some ⟨g, 0, none⟩) (is.length + 1) cap)
       rw [← h6] at g6
       have k6 : ∀ k, k ≠ V → k ≠ g → w6.heap[k]? = w2.heap[k]? := fun k n1 n2 => (by rw [h6]; exact Below.heap_setCell _ ⟨V, 4, none⟩ _ k n1 : w6.heap[k]? = w5.heap[k]?).trans (uh HK5 k n2)
       have r6 : w6.heap[V]? = some (.cells #[.int .i64 kk, .int .i64 0, .string ⟨#[]⟩, .slice a1 ns.length c1, .slice (some ⟨g, 0, none⟩) (is.length + 1) cap] 44 (0, 0)) := by rw [h6]; exact hS6 (uh HR5)
       have o6 : OwnJ w6 lo (some ⟨g, 0, none⟩) cap (is.length + 1) (xs ++ [.int .i64 jk, .int .i64 jn, .string (str jt), .slice ja1 jn1 jc1, .slice ja2 jn2 jc2]) := owns_same (uh HO5) (fun k hk => by rw [h6]; exact Below.heap_setCell _ ⟨V, 4, none⟩ _ k (fun e => by simp [blk] at hk; simp only at e; omega))
       have z6 : w6.heap.size = w2.heap.size := by rw [h6, siz1]; exact uh HZz
       have q6 : w6.heap[Q]? = some (.cells #[.pointer (some ⟨P, 0, none⟩)] 131 (0, 0)) := (k6 Q hQV (by omega)).trans (uh HQ2)
       have l6 : Lm w w6 P V lo := by rw [h6]; exact (uh HL5).trans (Lm.set (.inl rfl))
       have HE : Hid (Bv w6 V lo kk ns (is ++ [j]) a1 c1 (some ⟨g, 0, none⟩) cap (xs ++ [.int .i64 jk, .int .i64 jn, .string (str jt), .slice ja1 jn1 jc1, .slice ja2 jn2 jc2])) := (uh HBDvz).push (uh HJDvz) (uh HO1).1 (uh HO1).2.1 (uh HO1).2.2.1 (uh HO1).2.2.2 (uh HG) (uh HAT) (uh HGL) r6 o6 k6 z6
       have HP6 : Hid (Pa w6 P T a' dd) := pa_keep (uh HPDvz) (uh HG) (fun k hk => (owns_lt (uh HBDvz).it k hk).1) k6 hPlo hPV hglo hg4 hgV4
       have HQ6 := hide q6
       have HL6 := hide l6
       clear g6 k6 r6 o6 z6 q6 l6
       go_simp
       rw [← h6]
       clear h6 c5 cf5
       refine hK.out _ _ (cq_of (uh HQ6)) (fun hHeld => ?_)
       clear hK K
       try simp only [Act.put, xq4, xq5, xq6]
       refine wpAnyH_done (by kernel_rfl) ?_ _
       go_end0
       exact .inl ⟨j, a', a1, c1, _, _, _, uh HMo, rfl, uh HP6, uh HL6, uh HQ6, uh HE⟩
     case ba135u10 =>
      obtain ⟨w5, h5⟩ : ∃ w5, w5 = w2.setCell ⟨V, 4, none⟩ (.slice (some ⟨g, 0, none⟩) (is.length + 1) cap) := ⟨_, rfl⟩
      have k5 : ∀ k, k ≠ V → w5.heap[k]? = w2.heap[k]? := fun k n1 => by rw [h5]; exact Below.heap_setCell _ ⟨V, 4, none⟩ _ k n1
      have o5 : OwnJ w5 lo (some ⟨g, 0, none⟩) cap (is.length + 1) (xs ++ zJ) := owns_same (uh HO) (fun k hk => k5 k (fun e => by simp [blk] at hk; omega))
      have r5 : w5.heap[V]? = some (.cells #[.int .i64 kk, .int .i64 0, .string ⟨#[]⟩, .slice a1 ns.length c1, .slice (some ⟨g, 0, none⟩) (is.length + 1) cap] 44 (0, 0)) := by rw [h5]; exact hS6 (uh HV2)
      have z5 : w5.heap.size = w2.heap.size := by rw [h5, siz1]
      have q5 : w5.heap[Q]? = some (.cells #[.pointer (some ⟨P, 0, none⟩)] 131 (0, 0)) := (k5 Q hQV).trans (uh HQ2)
      have l5 : Lm w w5 P V lo := by rw [h5]; exact (uh LM2).trans (Lm.set (.inl rfl))
      clear e0 e1 e2 e3 e4 f0 f1 f2 f3 f4
      obtain ⟨e0, f0⟩ := owns_cell o5 _ _ (uh HZ5 0 _ rfl)
      obtain ⟨e1, f1⟩ := owns_cell o5 _ _ (uh HZ5 1 _ rfl)
      obtain ⟨e2, f2⟩ := owns_cell o5 _ _ (uh HZ5 2 _ rfl)
      obtain ⟨e3, f3⟩ := owns_cell o5 _ _ (uh HZ5 3 _ rfl)
      obtain ⟨e4, f4⟩ := owns_cell o5 _ _ (uh HZ5 4 _ rfl)
      rw [Nat.add_zero] at e0 f0
      have HO5 := hide o5
      have HK5 := hide k5
      have HZz := hide z5
      have HL5 := hide l5
      have HQ5 := hide q5
      have HR5 := hide r5
      clear o5 k5 z5 l5 q5 r5
      go_simp
      rw [← h5]
      clear h5 c4 cfV
      refine hK.out _ _ (cq_of (uh HQ5)) (fun hHeld => ?_)
      clear hK K
      try simp only [Act.put, xq4, xq5, xq6]
      refine wpAnyH_ready (rs := [8]) (by kernel_rfl) (by simp) ?rda135x
      refine AllReadyH.cons (o := ?oa135x8) ?ha135x8 (fun K hK => ?ba135x8) AllReadyH.nil
      case ha135x8 => (simp only [xq1, xq2, xq3]) <;> with_reducible rfl
      case ba135x8 =>
       obtain ⟨w6, h6⟩ : ∃ w6, w6 = ((((w5.setCell ⟨g, is.length * 5, none⟩ (.int .i64 jk)).setCell ⟨g, is.length * 5 + 1, none⟩ (.int .i64 jn)).setCell ⟨g, is.length * 5 + 2, none⟩ (.string (str jt))).setCell ⟨g, is.length * 5 + 3, none⟩ (.slice ja1 jn1 jc1)).setCell ⟨g, is.length * 5 + 4, none⟩ (.slice ja2 jn2 jc2) := ⟨_, rfl⟩
       have o6 : OwnJ w6 lo (some ⟨g, 0, none⟩) cap (is.length + 1) (xs ++ [.int .i64 jk, .int .i64 jn, .string (str jt), .slice ja1 jn1 jc1, .slice ja2 jn2 jc2]) := by rw [h6]; exact own5 (uh HO5) (uh HXL) _ _ _ _ _
       have k6' : ∀ k, k ≠ g → w6.heap[k]? = w5.heap[k]? := fun k hk => by rw [h6]; exact far5 w5 g k _ _ _ _ _ _ _ _ _ _ hk
       have k6 : ∀ k, k ≠ V → k ≠ g → w6.heap[k]? = w2.heap[k]? := fun k n1 n2 => (k6' k n2).trans (uh HK5 k n1)
       have z6 : w6.heap.size = w2.heap.size := by rw [h6, siz5]; exact uh HZz
       have l6 : Lm w w6 P V lo := by rw [h6]; exact (((((uh HL5).trans (Lm.set (.inr hglo))).trans (Lm.set (.inr hglo))).trans (Lm.set (.inr hglo))).trans (Lm.set (.inr hglo))).trans (Lm.set (.inr hglo))
       have r6 := (k6' V (Ne.symm hgV)).trans (uh HR5)
       have q6 : w6.heap[Q]? = some (.cells #[.pointer (some ⟨P, 0, none⟩)] 131 (0, 0)) := (k6 Q hQV (by omega)).trans (uh HQ2)
       have HE : Hid (Bv w6 V lo kk ns (is ++ [j]) a1 c1 (some ⟨g, 0, none⟩) cap (xs ++ [.int .i64 jk, .int .i64 jn, .string (str jt), .slice ja1 jn1 jc1, .slice ja2 jn2 jc2])) := (uh HBDvz).push (uh HJDvz) (uh HO1).1 (uh HO1).2.1 (uh HO1).2.2.1 (uh HO1).2.2.2 (uh HG) (uh HAT) (uh HGL) r6 o6 k6 z6
       have HP6 : Hid (Pa w6 P T a' dd) := pa_keep (uh HPDvz) (uh HG) (fun k hk => (owns_lt (uh HBDvz).it k hk).1) k6 hPlo hPV hglo hg4 hgV4
       have HQ6 := hide q6
       have HL6 := hide l6
       clear k6 k6' r6 o6 z6 q6 l6
       go_simp
       rw [← h6]
       clear h6 e0 e1 e2 e3 e4 f0 f1 f2 f3 f4
       refine hK.out _ _ (cq_of (uh HQ6)) (fun hHeld => ?_)
       clear hK K
       try simp only [Act.put, xq4, xq5, xq6]
       refine wpAnyH_done (by kernel_rfl) ?_ _
       go_end0
       exact .inl ⟨j, a', a1, c1, _, _, _, uh HMo, rfl, uh HP6, uh HL6, uh HQ6, uh HE⟩
  case ba15 =>
   obtain ⟨Dz, hDz⟩ : ∃ Dz, Dz = D.alloc (.cells #[.int .i64 0, .int .i64 0, .string ⟨#[]⟩, .slice none 0 0, .slice none 0 0] 44) := ⟨_, rfl⟩
   obtain ⟨Z, hZ⟩ : ∃ Z, Z = D.heap.size := ⟨_, rfl⟩
   have hbDz : Below D.heap.size D Dz := by rw [hDz]; exact bA _
   have hz : Dz.heap[Z]? = some (.cells zJ.toArray 44 (0, 0)) := by rw [hDz, hZ]; exact heap_alloc_new _ _
   have HPDz := hide ((uh HPD).below hbDz)
   have HBDz := hide ((uh HBD).below hbDz)
   have HQDz := hide ((hbDz.block Q (aI (uh HQD)).1).trans (uh HQD))
   have SZDz : Hid (lo ≤ Dz.heap.size) := Nat.le_trans (uh SZD) hbDz.size
   have LMDz : Hid (Lm w Dz P V lo) := (uh LMD).trans (Lm.ofMv (Mv.ofB hbDz) (uh SZD))
   have HZDz := hide hz
   clear hz hbDz
   go_simp
   rw [← hDz, ← hZ]
   clear hDz hZ
   refine hK.out _ _ (cq_of (uh HQDz)) (fun hHeld => ?_)
   clear hK K
   try simp only [Act.put, xq4, xq5, xq6]
   refine wpAnyH_ready (rs := [3]) (by kernel_rfl) (by simp) ?rda15
   refine AllReadyH.cons (o := ?oa153) ?ha153 (fun K hK => ?ba153) AllReadyH.nil
   case ha153 => (simp only [xq1, xq2, xq3]) <;> with_reducible rfl
   case ba153 =>
    have OLDe : ∃ OLD, OLD = Dz.heap.size := ⟨_, rfl⟩
    obtain ⟨OLD, hOLD⟩ := OLDe
    go_simp
    refine (uh HV _ Dz (uh HPDz)).mono ?_
    rintro e Dzv (⟨j, val, a', hM, rfl, hP3, hMv3, hJ⟩ | ⟨y, a', hM, rfl, h2, h3⟩)
    rotate_left 1
    ·exact ⟨rfl, LiP.nay hM h2 ((uh LMDz).trans (Lm.ofMv h3 (uh SZDz)))⟩
    obtain ⟨jk, jn, jt, ja1, jn1, jc1, ja2, jn2, jc2, rfl⟩ := hJ.form
    have HPDzv := hide hP3
    have HBDzv := hide ((uh HBDz).mv hMv3 hPlo hPV)
    have HQDzv := hide ((hMv3.block Q (aI (uh HQDz)).1 (fun e => hQP (Option.some.inj e))).trans (uh HQDz))
    have SZDzv : Hid (lo ≤ Dzv.heap.size) := Nat.le_trans (uh SZDz) hMv3.size
    have LMDzv : Hid (Lm w Dzv P V lo) := (uh LMDz).trans (Lm.ofMv hMv3 (uh SZDz))
    have HJDzv : Hid (JV Dzv (fun k => OLD ≤ k ∧ k < Dzv.heap.size) (.agg #[.int .i64 jk, .int .i64 jn, .string (str jt), .slice ja1 jn1 jc1, .slice ja2 jn2 jc2]) j) := JV.keep (fun k hk => ⟨⟨by rw [hOLD]; exact hk.1, hk.2⟩, rfl⟩) j _ hJ
    have HO1 : Hid (lo ≤ OLD ∧ V < OLD ∧ (∀ k, blk a1 = some k → k < OLD) ∧ (∀ k, blk a2 = some k → k < OLD)) := by rw [hOLD]; exact ⟨uh SZDz, (uh HBDz).lt, fun k hk => (owns_lt (uh HBDz).nm k hk).2, fun k hk => (owns_lt (uh HBDz).it k hk).2⟩
    have HMo := hide hM
    have HZDzv := hide ((hMv3.block Z (aI (uh HZDz)).1 (fun e => by have h5 := Option.some.inj e; have h6 := (uh HZDz); have h7 := (uh HPDz).row; rw [← h5] at h7; rw [h6] at h7; cases h7)).trans (uh HZDz))
    clear hM hP3 hMv3 hJ hOLD
    refine hK.out _ _ (cq_of (uh HQDzv)) (fun hHeld => ?_)
    clear hK K
    try simp only [Act.put, xq4, xq5, xq6]
    refine wpAnyH_ready (rs := [6]) (by kernel_rfl) (by simp) ?rda153t
    refine AllReadyH.cons (o := ?oa153t6) ?ha153t6 (fun K hK => ?ba153t6) AllReadyH.nil
    case ha153t6 => (simp only [xq1, xq2, xq3]) <;> with_reducible rfl
    case ba153t6 =>
     refine stp_appz Dzv rfl (.tmp 3) (.tmp 7) rfl lo a2 c2 is.length xs rfl (uh HBDzv).it Z _ rfl (uh HZDzv) his (uh SZDzv) ?_
     intro g cap w2 HO HG HAT HGL
     have hglo : lo ≤ g := (owns_lt (uh HO) g rfl).1
     have hQ2 : w2.heap[Q]? = some (.cells #[.pointer (some ⟨P, 0, none⟩)] 131 (0, 0)) := ((uh HG).block Q (aI (uh HQDzv)).1 (fun e => by have := (owns_lt (uh HBDzv).it Q e.symm).1; omega)).trans (uh HQDzv)
     have hV2 : w2.heap[V]? = some (.cells #[.int .i64 kk, .int .i64 0, .string ⟨#[]⟩, .slice a1 ns.length c1, .slice a2 is.length c2] 44 (0, 0)) := ((uh HG).block V (uh HBDzv).lt (fun e => (uh HBDzv).v2 e.symm)).trans (uh HBDzv).row
     have HQ2 := hide hQ2
     have HV2 := hide hV2
     have hxl : xs.length = is.length * 5 := (uh HBDzv).it.1
     have hgV : g ≠ V := by
      rintro rfl
      rcases uh HAT with e | e
      ·exact (uh HBDzv).v2 e
      ·have := (uh HBDzv).lt; omega
     have LM2 : Hid (Lm w w2 P V lo) := (uh LMDzv).trans (Lm.ofG (uh HG) (uh SZDzv) (fun k hk => (owns_lt (uh HBDzv).it k hk).1))
     have hz5 : ∀ m v, zJ[m]? = some v → (xs ++ zJ)[is.length * 5 + m]? = some v := fun m v hm => by rw [List.getElem?_append_right (by omega), show is.length * 5 + m - xs.length = m by omega]; exact hm
     obtain ⟨e0, f0⟩ := owns_cell (uh HO) _ _ (hz5 0 _ rfl)
     obtain ⟨e1, f1⟩ := owns_cell (uh HO) _ _ (hz5 1 _ rfl)
     obtain ⟨e2, f2⟩ := owns_cell (uh HO) _ _ (hz5 2 _ rfl)
     obtain ⟨e3, f3⟩ := owns_cell (uh HO) _ _ (hz5 3 _ rfl)
     obtain ⟨e4, f4⟩ := owns_cell (uh HO) _ _ (hz5 4 _ rfl)
     rw [Nat.add_zero] at e0 f0
     have c4 : w2.cell? ⟨V, 4, none⟩ = some (.slice a2 is.length c2) := cR6 hV2
     have cfV : w2.frozen? ⟨V, 4, none⟩ = false := frozen_of_row _ _ _ _ _ hV2
     have HXL := hide hxl
     have HZ5 := hide hz5
     clear hQ2 hV2 hxl hz5
     refine hK.out _ _ (cq_of (uh HQ2)) (fun hHeld => ?_)
     clear hK K
     try simp only [Act.put, xq4, xq5, xq6]
     have hil : (is.length : Int) < (is.length : Int) + 1 := by omega
     refine wpAnyH_take (i := 7) (oi := ?_) (v := ?_) ?_ (by kernel_rfl) ?_ ?_ ?_ ?_ hHeld ?_
     rotate_left 2
     ·(simp only [xq1, xq2, xq3]) <;> with_reducible rfl
     ·kernel_rfl
     ·kernel_rfl
     ·exact fun _ _ _ h => h
     ·exact Or.inl ⟨by rfl, by (intro w hSw; (try dsimp only at hSw); go_simp <;> with_reducible rfl)⟩
     simp only [Act.put, xq4, xq5, xq6]
     refine wpAnyH_take (i := 9) (oi := ?_) (v := ?_) ?_ (by kernel_rfl) ?_ ?_ ?_ ?_ hHeld ?_
     rotate_left 2
     ·(simp only [xq1, xq2, xq3]) <;> with_reducible rfl
     ·kernel_rfl
     ·kernel_rfl
     ·exact fun _ _ _ h => h
     ·exact Or.inl ⟨by rfl, by (intro w hSw; (try dsimp only at hSw); go_simp <;> with_reducible rfl)⟩
     simp only [Act.put, xq4, xq5, xq6]
     refine wpAnyH_ready (rs := [8, 10]) (by kernel_rfl) (by simp) ?rda153u
     refine AllReadyH.cons (o := ?oa153u8) ?ha153u8 (fun K hK => ?ba153u8) (AllReadyH.cons (o := ?oa153u10) ?ha153u10 (fun K hK => ?ba153u10) AllReadyH.nil)
     case ha153u8 => (simp only [xq1, xq2, xq3]) <;> with_reducible rfl
     case ha153u10 => (simp only [xq1, xq2, xq3]) <;> with_reducible rfl
     case ba153u8 =>
      obtain ⟨w5, h5⟩ : ∃ w5, w5 = ((((w2.setCell ⟨g, is.length * 5, none⟩ (.int .i64 jk)).setCell ⟨g, is.length * 5 + 1, none⟩ (.int .i64 jn)).setCell ⟨g, is.length * 5 + 2, none⟩ (.string (str jt))).setCell ⟨g, is.length * 5 + 3, none⟩ (.slice ja1 jn1 jc1)).setCell ⟨g, is.length * 5 + 4, none⟩ (.slice ja2 jn2 jc2) := ⟨_, rfl⟩
      have o5 : OwnJ w5 lo (some ⟨g, 0, none⟩) cap (is.length + 1) (xs ++ [.int .i64 jk, .int .i64 jn, .string (str jt), .slice ja1 jn1 jc1, .slice ja2 jn2 jc2]) := by rw [h5]; exact own5 (uh HO) (uh HXL) _ _ _ _ _
      have k5 : ∀ k, k ≠ g → w5.heap[k]? = w2.heap[k]? := fun k hk => by rw [h5]; exact far5 w2 g k _ _ _ _ _ _ _ _ _ _ hk
      have z5 : w5.heap.size = w2.heap.size := by rw [h5]; exact siz5 w2 g _ _ _ _ _ _ _ _ _ _
      have l5 : Lm w w5 P V lo := by rw [h5]; exact (((((uh LM2).trans (Lm.set (.inr hglo))).trans (Lm.set (.inr hglo))).trans (Lm.set (.inr hglo))).trans (Lm.set (.inr hglo))).trans (Lm.set (.inr hglo))
      have q5 : w5.heap[Q]? = some (.cells #[.pointer (some ⟨P, 0, none⟩)] 131 (0, 0)) := (k5 Q (by omega)).trans (uh HQ2)
      have r5 : w5.heap[V]? = some (.cells #[.int .i64 kk, .int .i64 0, .string ⟨#[]⟩, .slice a1 ns.length c1, .slice a2 is.length c2] 44 (0, 0)) := (k5 V (Ne.symm hgV)).trans (uh HV2)
      have c5 : w5.cell? ⟨V, 4, none⟩ = some (.slice a2 is.length c2) := cR6 r5
      have cf5 : w5.frozen? ⟨V, 4, none⟩ = false := frozen_of_row _ _ _ _ _ r5
      have HO5 := hide o5
      have HK5 := hide k5
      have HZz := hide z5
      have HL5 := hide l5
      have HQ5 := hide q5
      have HR5 := hide r5
      clear o5 k5 z5 l5 q5 r5 c4 cfV
      go_simp
      rw [← h5]
      clear h5 e0 e1 e2 e3 e4 f0 f1 f2 f3 f4
      refine hK.out _ _ (cq_of (uh HQ5)) (fun hHeld => ?_)
      clear hK K
      try simp only [Act.put, xq4, xq5, xq6]
      refine wpAnyH_ready (rs := [10]) (by kernel_rfl) (by simp) ?rda153w
      refine AllReadyH.cons (o := ?oa153w10) ?ha153w10 (fun K hK => ?ba153w10) AllReadyH.nil
      case ha153w10 => (simp only [xq1, xq2, xq3]) <;> with_reducible rfl
      case ba153w10 =>
       obtain ⟨w6, h6⟩ : ∃ w6, w6 = w5.setCell ⟨V, 4, none⟩ (.slice (some ⟨g, 0, none⟩) (is.length + 1) cap) := ⟨_, rfl⟩
       have g6 := grownBy_setCell w5 ⟨V, 4, none⟩ (.slice (some ⟨g, 0, none⟩) (is.length + 1) cap)
       rw [← h6] at g6
       have k6 : ∀ k, k ≠ V → k ≠ g → w6.heap[k]? = w2.heap[k]? := fun k n1 n2 => (by rw [h6]; exact Below.heap_setCell _ ⟨V, 4, none⟩ _ k n1 : w6.heap[k]? = w5.heap[k]?).trans (uh HK5 k n2)
       have r6 : w6.heap[V]? = some (.cells #[.int .i64 kk, .int .i64 0, .string ⟨#[]⟩, .slice a1 ns.length c1, .slice (some ⟨g, 0, none⟩) (is.length + 1) cap] 44 (0, 0)) := by rw [h6]; exact hS6 (uh HR5)
       have o6 : OwnJ w6 lo (some ⟨g, 0, none⟩) cap (is.length + 1) (xs ++ [.int .i64 jk, .int .i64 jn, .string (str jt), .slice ja1 jn1 jc1, .slice ja2 jn2 jc2]) := owns_same (uh HO5) (fun k hk => by rw [h6]; exact Below.heap_setCell _ ⟨V, 4, none⟩ _ k (fun e => by simp [blk] at hk; simp only at e; omega))
       have z6 : w6.heap.size = w2.heap.size := by rw [h6, siz1]; exact uh HZz
       have q6 : w6.heap[Q]? = some (.cells #[.pointer (some ⟨P, 0, none⟩)] 131 (0, 0)) := (k6 Q hQV (by omega)).trans (uh HQ2)
       have l6 : Lm w w6 P V lo := by rw [h6]; exact (uh HL5).trans (Lm.set (.inl rfl))
       have HE : Hid (Bv w6 V lo kk ns (is ++ [j]) a1 c1 (some ⟨g, 0, none⟩) cap (xs ++ [.int .i64 jk, .int .i64 jn, .string (str jt), .slice ja1 jn1 jc1, .slice ja2 jn2 jc2])) := (uh HBDzv).push (uh HJDzv) (uh HO1).1 (uh HO1).2.1 (uh HO1).2.2.1 (uh HO1).2.2.2 (uh HG) (uh HAT) (uh HGL) r6 o6 k6 z6
       have HP6 : Hid (Pa w6 P T a' dd) := pa_keep (uh HPDzv) (uh HG) (fun k hk => (owns_lt (uh HBDzv).it k hk).1) k6 hPlo hPV hglo hg4 hgV4
       have HQ6 := hide q6
       have HL6 := hide l6
       clear g6 k6 r6 o6 z6 q6 l6
       go_simp
       rw [← h6]
       clear h6 c5 cf5
       refine hK.out _ _ (cq_of (uh HQ6)) (fun hHeld => ?_)
       clear hK K
       try simp only [Act.put, xq4, xq5, xq6]
       refine wpAnyH_done (by kernel_rfl) ?_ _
       go_end0
       exact .inl ⟨j, a', a1, c1, _, _, _, uh HMo, rfl, uh HP6, uh HL6, uh HQ6, uh HE⟩
     case ba153u10 =>
      obtain ⟨w5, h5⟩ : ∃ w5, w5 = w2.setCell ⟨V, 4, none⟩ (.slice (some ⟨g, 0, none⟩) (is.length + 1) cap) := ⟨_, rfl⟩
      have k5 : ∀ k, k ≠ V → w5.heap[k]? = w2.heap[k]? := fun k n1 => by rw [h5]; exact Below.heap_setCell _ ⟨V, 4, none⟩ _ k n1
      have o5 : OwnJ w5 lo (some ⟨g, 0, none⟩) cap (is.length + 1) (xs ++ zJ) := owns_same (uh HO) (fun k hk => k5 k (fun e => by simp [blk] at hk; omega))
      have r5 : w5.heap[V]? = some (.cells #[.int .i64 kk, .int .i64 0, .string ⟨#[]⟩, .slice a1 ns.length c1, .slice (some ⟨g, 0, none⟩) (is.length + 1) cap] 44 (0, 0)) := by rw [h5]; exact hS6 (uh HV2)
      have z5 : w5.heap.size = w2.heap.size := by rw [h5, siz1]
      have q5 : w5.heap[Q]? = some (.cells #[.pointer (some ⟨P, 0, none⟩)] 131 (0, 0)) := (k5 Q hQV).trans (uh HQ2)
      have l5 : Lm w w5 P V lo := by rw [h5]; exact (uh LM2).trans (Lm.set (.inl rfl))
      clear e0 e1 e2 e3 e4 f0 f1 f2 f3 f4
      obtain ⟨e0, f0⟩ := owns_cell o5 _ _ (uh HZ5 0 _ rfl)
      obtain ⟨e1, f1⟩ := owns_cell o5 _ _ (uh HZ5 1 _ rfl)
      obtain ⟨e2, f2⟩ := owns_cell o5 _ _ (uh HZ5 2 _ rfl)
      obtain ⟨e3, f3⟩ := owns_cell o5 _ _ (uh HZ5 3 _ rfl)
      obtain ⟨e4, f4⟩ := owns_cell o5 _ _ (uh HZ5 4 _ rfl)
      rw [Nat.add_zero] at e0 f0
      have HO5 := hide o5
      have HK5 := hide k5
      have HZz := hide z5
      have HL5 := hide l5
      have HQ5 := hide q5
      have HR5 := hide r5
      clear o5 k5 z5 l5 q5 r5
      go_simp
      rw [← h5]
      clear h5 c4 cfV
      refine hK.out _ _ (cq_of (uh HQ5)) (fun hHeld => ?_)
      clear hK K
      try simp only [Act.put, xq4, xq5, xq6]
      refine wpAnyH_ready (rs := [8]) (by kernel_rfl) (by simp) ?rda153x
      refine AllReadyH.cons (o := ?oa153x8) ?ha153x8 (fun K hK => ?ba153x8) AllReadyH.nil
      case ha153x8 => (simp only [xq1, xq2, xq3]) <;> with_reducible rfl
      case ba153x8 =>
       obtain ⟨w6, h6⟩ : ∃ w6, w6 = ((((w5.setCell ⟨g, is.length * 5, none⟩ (.int .i64 jk)).setCell ⟨g, is.length * 5 + 1, none⟩ (.int .i64 jn)).setCell ⟨g, is.length * 5 + 2, none⟩ (.string (str jt))).setCell ⟨g, is.length * 5 + 3, none⟩ (.slice ja1 jn1 jc1)).setCell ⟨g, is.length * 5 + 4, none⟩ (.slice ja2 jn2 jc2) := ⟨_, rfl⟩
       have o6 : OwnJ w6 lo (some ⟨g, 0, none⟩) cap (is.length + 1) (xs ++ [.int .i64 jk, .int .i64 jn, .string (str jt), .slice ja1 jn1 jc1, .slice ja2 jn2 jc2]) := by rw [h6]; exact own5 (uh HO5) (uh HXL) _ _ _ _ _
       have k6' : ∀ k, k ≠ g → w6.heap[k]? = w5.heap[k]? := fun k hk => by rw [h6]; exact far5 w5 g k _ _ _ _ _ _ _ _ _ _ hk
       have k6 : ∀ k, k ≠ V → k ≠ g → w6.heap[k]? = w2.heap[k]? := fun k n1 n2 => (k6' k n2).trans (uh HK5 k n1)
       have z6 : w6.heap.size = w2.heap.size := by rw [h6, siz5]; exact uh HZz
       have l6 : Lm w w6 P V lo := by rw [h6]; exact (((((uh HL5).trans (Lm.set (.inr hglo))).trans (Lm.set (.inr hglo))).trans (Lm.set (.inr hglo))).trans (Lm.set (.inr hglo))).trans (Lm.set (.inr hglo))
       have r6 := (k6' V (Ne.symm hgV)).trans (uh HR5)
       have q6 : w6.heap[Q]? = some (.cells #[.pointer (some ⟨P, 0, none⟩)] 131 (0, 0)) := (k6 Q hQV (by omega)).trans (uh HQ2)
       have HE : Hid (Bv w6 V lo kk ns (is ++ [j]) a1 c1 (some ⟨g, 0, none⟩) cap (xs ++ [.int .i64 jk, .int .i64 jn, .string (str jt), .slice ja1 jn1 jc1, .slice ja2 jn2 jc2])) := (uh HBDzv).push (uh HJDzv) (uh HO1).1 (uh HO1).2.1 (uh HO1).2.2.1 (uh HO1).2.2.2 (uh HG) (uh HAT) (uh HGL) r6 o6 k6 z6
       have HP6 : Hid (Pa w6 P T a' dd) := pa_keep (uh HPDzv) (uh HG) (fun k hk => (owns_lt (uh HBDzv).it k hk).1) k6 hPlo hPV hglo hg4 hgV4
       have HQ6 := hide q6
       have HL6 := hide l6
       clear k6 k6' r6 o6 z6 q6 l6
       go_simp
       rw [← h6]
       clear h6 e0 e1 e2 e3 e4 f0 f1 f2 f3 f4
       refine hK.out _ _ (cq_of (uh HQ6)) (fun hHeld => ?_)
       clear hK K
       try simp only [Act.put, xq4, xq5, xq6]
       refine wpAnyH_done (by kernel_rfl) ?_ _
       go_end0
       exact .inl ⟨j, a', a1, c1, _, _, _, uh HMo, rfl, uh HP6, uh HL6, uh HQ6, uh HE⟩
 case ba3 =>
  have OLDe : ∃ OLD, OLD = D.heap.size := ⟨_, rfl⟩
  obtain ⟨OLD, hOLD⟩ := OLDe
  go_simp
  refine (uh HV _ D (uh HPD)).mono ?_
  rintro e Dv (⟨j, val, a', hM, rfl, hP3, hMv3, hJ⟩ | ⟨y, a', hM, rfl, h2, h3⟩)
  rotate_left 1
  ·exact ⟨rfl, LiP.nay hM h2 ((uh LMD).trans (Lm.ofMv h3 (uh SZD)))⟩
  obtain ⟨jk, jn, jt, ja1, jn1, jc1, ja2, jn2, jc2, rfl⟩ := hJ.form
  have HPDv := hide hP3
  have HBDv := hide ((uh HBD).mv hMv3 hPlo hPV)
  have HQDv := hide ((hMv3.block Q (aI (uh HQD)).1 (fun e => hQP (Option.some.inj e))).trans (uh HQD))
  have SZDv : Hid (lo ≤ Dv.heap.size) := Nat.le_trans (uh SZD) hMv3.size
  have LMDv : Hid (Lm w Dv P V lo) := (uh LMD).trans (Lm.ofMv hMv3 (uh SZD))
  have HJDv : Hid (JV Dv (fun k => OLD ≤ k ∧ k < Dv.heap.size) (.agg #[.int .i64 jk, .int .i64 jn, .string (str jt), .slice ja1 jn1 jc1, .slice ja2 jn2 jc2]) j) := JV.keep (fun k hk => ⟨⟨by rw [hOLD]; exact hk.1, hk.2⟩, rfl⟩) j _ hJ
  have HO1 : Hid (lo ≤ OLD ∧ V < OLD ∧ (∀ k, blk a1 = some k → k < OLD) ∧ (∀ k, blk a2 = some k → k < OLD)) := by rw [hOLD]; exact ⟨uh SZD, (uh HBD).lt, fun k hk => (owns_lt (uh HBD).nm k hk).2, fun k hk => (owns_lt (uh HBD).it k hk).2⟩
  have HMo := hide hM
  clear hM hP3 hMv3 hJ hOLD
  refine hK.out _ _ (cq_of (uh HQDv)) (fun hHeld => ?_)
  clear hK K
  try simp only [Act.put, xq4, xq5, xq6]
  refine wpAnyH_ready (rs := [1, 5]) (by kernel_rfl) (by simp) ?rda3
  refine AllReadyH.cons (o := ?oa31) ?ha31 (fun K hK => ?ba31) (AllReadyH.cons (o := ?oa35) ?ha35 (fun K hK => ?ba35) AllReadyH.nil)
  case ha31 => (simp only [xq1, xq2, xq3]) <;> with_reducible rfl
  case ha35 => (simp only [xq1, xq2, xq3]) <;> with_reducible rfl
  case ba31 =>
   have c4 := (uh HBDv).cells.2.1
   go_simp
   clear c4
   refine hK.out _ _ (cq_of (uh HQDv)) (fun hHeld => ?_)
   clear hK K
   try simp only [Act.put, xq4, xq5, xq6]
   refine wpAnyH_take (i := 4) (oi := ?_) (v := ?_) ?_ (by kernel_rfl) ?_ ?_ ?_ ?_ hHeld ?_
   rotate_left 2
   ·(simp only [xq1, xq2, xq3]) <;> with_reducible rfl
   ·kernel_rfl
   ·kernel_rfl
   ·exact fun _ _ _ h => h
   ·exact Or.inl ⟨by rfl, by (intro w hSw; (try dsimp only at hSw); go_simp <;> with_reducible rfl)⟩
   simp only [Act.put, xq4, xq5, xq6]
   refine wpAnyH_ready (rs := [5]) (by kernel_rfl) (by simp) ?rda31
   refine AllReadyH.cons (o := ?oa315) ?ha315 (fun K hK => ?ba315) AllReadyH.nil
   case ha315 => (simp only [xq1, xq2, xq3]) <;> with_reducible rfl
   case ba315 =>
    obtain ⟨Dvz, hDvz⟩ : ∃ Dvz, Dvz = Dv.alloc (.cells #[.int .i64 0, .int .i64 0, .string ⟨#[]⟩, .slice none 0 0, .slice none 0 0] 44) := ⟨_, rfl⟩
    obtain ⟨Z, hZ⟩ : ∃ Z, Z = Dv.heap.size := ⟨_, rfl⟩
    have hbDvz : Below Dv.heap.size Dv Dvz := by rw [hDvz]; exact bA _
    have hz : Dvz.heap[Z]? = some (.cells zJ.toArray 44 (0, 0)) := by rw [hDvz, hZ]; exact heap_alloc_new _ _
    have HPDvz := hide ((uh HPDv).below hbDvz)
    have HBDvz := hide ((uh HBDv).below hbDvz)
    have HQDvz := hide ((hbDvz.block Q (aI (uh HQDv)).1).trans (uh HQDv))
    have SZDvz : Hid (lo ≤ Dvz.heap.size) := Nat.le_trans (uh SZDv) hbDvz.size
    have LMDvz : Hid (Lm w Dvz P V lo) := (uh LMDv).trans (Lm.ofMv (Mv.ofB hbDvz) (uh SZDv))
    have HZDvz := hide hz
    have HJDvz : Hid (JV Dvz (fun k => OLD ≤ k ∧ k < Dvz.heap.size) (.agg #[.int .i64 jk, .int .i64 jn, .string (str jt), .slice ja1 jn1 jc1, .slice ja2 jn2 jc2]) j) := JV.keep (fun k hk => ⟨⟨hk.1, Nat.lt_of_lt_of_le hk.2 hbDvz.size⟩, hbDvz.block k hk.2⟩) j _ (uh HJDv)
    clear hz hbDvz
    go_simp
    rw [← hDvz, ← hZ]
    clear hDvz hZ
    refine hK.out _ _ (cq_of (uh HQDvz)) (fun hHeld => ?_)
    clear hK K
    try simp only [Act.put, xq4, xq5, xq6]
    refine wpAnyH_ready (rs := [6]) (by kernel_rfl) (by simp) ?rda315t
    refine AllReadyH.cons (o := ?oa315t6) ?ha315t6 (fun K hK => ?ba315t6) AllReadyH.nil
    case ha315t6 => (simp only [xq1, xq2, xq3]) <;> with_reducible rfl
    case ba315t6 =>
     refine stp_appz Dvz rfl (.tmp 3) (.tmp 7) rfl lo a2 c2 is.length xs rfl (uh HBDvz).it Z _ rfl (uh HZDvz) his (uh SZDvz) ?_
     intro g cap w2 HO HG HAT HGL
     have hglo : lo ≤ g := (owns_lt (uh HO) g rfl).1
     have hQ2 : w2.heap[Q]? = some (.cells #[.pointer (some ⟨P, 0, none⟩)] 131 (0, 0)) := ((uh HG).block Q (aI (uh HQDvz)).1 (fun e => by have := (owns_lt (uh HBDvz).it Q e.symm).1; omega)).trans (uh HQDvz)
     have hV2 : w2.heap[V]? = some (.cells #[.int .i64 kk, .int .i64 0, .string ⟨#[]⟩, .slice a1 ns.length c1, .slice a2 is.length c2] 44 (0, 0)) := ((uh HG).block V (uh HBDvz).lt (fun e => (uh HBDvz).v2 e.symm)).trans (uh HBDvz).row
     have HQ2 := hide hQ2
     have HV2 := hide hV2
     have hxl : xs.length = is.length * 5 := (uh HBDvz).it.1
     have hgV : g ≠ V := by
      rintro rfl
      rcases uh HAT with e | e
      ·exact (uh HBDvz).v2 e
      ·have := (uh HBDvz).lt; omega
     have LM2 : Hid (Lm w w2 P V lo) := (uh LMDvz).trans (Lm.ofG (uh HG) (uh SZDvz) (fun k hk => (owns_lt (uh HBDvz).it k hk).1))
     have hz5 : ∀ m v, zJ[m]? = some v → (xs ++ zJ)[is.length * 5 + m]? = some v := fun m v hm => by rw [List.getElem?_append_right (by omega), show is.length * 5 + m - xs.length = m by omega]; exact hm
     obtain ⟨e0, f0⟩ := owns_cell (uh HO) _ _ (hz5 0 _ rfl)
     obtain ⟨e1, f1⟩ := owns_cell (uh HO) _ _ (hz5 1 _ rfl)
     obtain ⟨e2, f2⟩ := owns_cell (uh HO) _ _ (hz5 2 _ rfl)
     obtain ⟨e3, f3⟩ := owns_cell (uh HO) _ _ (hz5 3 _ rfl)
     obtain ⟨e4, f4⟩ := owns_cell (uh HO) _ _ (hz5 4 _ rfl)
     rw [Nat.add_zero] at e0 f0
     have c4 : w2.cell? ⟨V, 4, none⟩ = some (.slice a2 is.length c2) := cR6 hV2
     have cfV : w2.frozen? ⟨V, 4, none⟩ = false := frozen_of_row _ _ _ _ _ hV2
     have HXL := hide hxl
     have HZ5 := hide hz5
     clear hQ2 hV2 hxl hz5
     refine hK.out _ _ (cq_of (uh HQ2)) (fun hHeld => ?_)
     clear hK K
     try simp only [Act.put, xq4, xq5, xq6]
     have hil : (is.length : Int) < (is.length : Int) + 1 := by omega
     refine wpAnyH_take (i := 7) (oi := ?_) (v := ?_) ?_ (by kernel_rfl) ?_ ?_ ?_ ?_ hHeld ?_
     rotate_left 2
     ·(simp only [xq1, xq2, xq3]) <;> with_reducible rfl
     ·kernel_rfl
     ·kernel_rfl
     ·exact fun _ _ _ h => h
     ·exact Or.inl ⟨by rfl, by (intro w hSw; (try dsimp only at hSw); go_simp <;> with_reducible rfl)⟩
     simp only [Act.put, xq4, xq5, xq6]
     refine wpAnyH_take (i := 9) (oi := ?_) (v := ?_) ?_ (by kernel_rfl) ?_ ?_ ?_ ?_ hHeld ?_
     rotate_left 2
     ·(simp only [xq1, xq2, xq3]) <;> with_reducible rfl
     ·kernel_rfl
     ·kernel_rfl
     ·exact fun _ _ _ h => h
     ·exact Or.inl ⟨by rfl, by (intro w hSw; (try dsimp only at hSw); go_simp <;> with_reducible rfl)⟩
     simp only [Act.put, xq4, xq5, xq6]
     refine wpAnyH_ready (rs := [8, 10]) (by kernel_rfl) (by simp) ?rda315u
     refine AllReadyH.cons (o := ?oa315u8) ?ha315u8 (fun K hK => ?ba315u8) (AllReadyH.cons (o := ?oa315u10) ?ha315u10 (fun K hK => ?ba315u10) AllReadyH.nil)
     case ha315u8 => (simp only [xq1, xq2, xq3]) <;> with_reducible rfl
     case ha315u10 => (simp only [xq1, xq2, xq3]) <;> with_reducible rfl
     case ba315u8 =>
      obtain ⟨w5, h5⟩ : ∃ w5, w5 = ((((w2.setCell ⟨g, is.length * 5, none⟩ (.int .i64 jk)).setCell ⟨g, is.length * 5 + 1, none⟩ (.int .i64 jn)).setCell ⟨g, is.length * 5 + 2, none⟩ (.string (str jt))).setCell ⟨g, is.length * 5 + 3, none⟩ (.slice ja1 jn1 jc1)).setCell ⟨g, is.length * 5 + 4, none⟩ (.slice ja2 jn2 jc2) := ⟨_, rfl⟩
      have o5 : OwnJ w5 lo (some ⟨g, 0, none⟩) cap (is.length + 1) (xs ++ [.int .i64 jk, .int .i64 jn, .string (str jt), .slice ja1 jn1 jc1, .slice ja2 jn2 jc2]) := by rw [h5]; exact own5 (uh HO) (uh HXL) _ _ _ _ _
      have k5 : ∀ k, k ≠ g → w5.heap[k]? = w2.heap[k]? := fun k hk => by rw [h5]; exact far5 w2 g k _ _ _ _ _ _ _ _ _ _ hk
      have z5 : w5.heap.size = w2.heap.size := by rw [h5]; exact siz5 w2 g _ _ _ _ _ _ _ _ _ _
      have l5 : Lm w w5 P V lo := by rw [h5]; exact (((((uh LM2).trans (Lm.set (.inr hglo))).trans (Lm.set (.inr hglo))).trans (Lm.set (.inr hglo))).trans (Lm.set (.inr hglo))).trans (Lm.set (.inr hglo))
      have q5 : w5.heap[Q]? = some (.cells #[.pointer (some ⟨P, 0, none⟩)] 131 (0, 0)) := (k5 Q (by omega)).trans (uh HQ2)
      have r5 : w5.heap[V]? = some (.cells #[.int .i64 kk, .int .i64 0, .string ⟨#[]⟩, .slice a1 ns.length c1, .slice a2 is.length c2] 44 (0, 0)) := (k5 V (Ne.symm hgV)).trans (uh HV2)
      have c5 : w5.cell? ⟨V, 4, none⟩ = some (.slice a2 is.length c2) := cR6 r5
      have cf5 : w5.frozen? ⟨V, 4, none⟩ = false := frozen_of_row _ _ _ _ _ r5
      have HO5 := hide o5
      have HK5 := hide k5
      have HZz := hide z5
      have HL5 := hide l5
      have HQ5 := hide q5
      have HR5 := hide r5
      clear o5 k5 z5 l5 q5 r5 c4 cfV
      go_simp
      rw [← h5]
      clear h5 e0 e1 e2 e3 e4 f0 f1 f2 f3 f4
      refine hK.out _ _ (cq_of (uh HQ5)) (fun hHeld => ?_)
      clear hK K
      try simp only [Act.put, xq4, xq5, xq6]
      refine wpAnyH_ready (rs := [10]) (by kernel_rfl) (by simp) ?rda315w
      refine AllReadyH.cons (o := ?oa315w10) ?ha315w10 (fun K hK => ?ba315w10) AllReadyH.nil
      case ha315w10 => (simp only [xq1, xq2, xq3]) <;> with_reducible rfl
      case ba315w10 =>
       obtain ⟨w6, h6⟩ : ∃ w6, w6 = w5.setCell ⟨V, 4, none⟩ (.slice (some ⟨g, 0, none⟩) (is.length + 1) cap) := ⟨_, rfl⟩
       have g6 := grownBy_setCell w5 ⟨V, 4, none⟩ (.slice (some ⟨g, 0, none⟩) (is.length + 1) cap)
       rw [← h6] at g6
       have k6 : ∀ k, k ≠ V → k ≠ g → w6.heap[k]? = w2.heap[k]? := fun k n1 n2 => (by rw [h6]; exact Below.heap_setCell _ ⟨V, 4, none⟩ _ k n1 : w6.heap[k]? = w5.heap[k]?).trans (uh HK5 k n2)
       have r6 : w6.heap[V]? = some (.cells #[.int .i64 kk, .int .i64 0, .string ⟨#[]⟩, .slice a1 ns.length c1, .slice (some ⟨g, 0, none⟩) (is.length + 1) cap] 44 (0, 0)) := by rw [h6]; exact hS6 (uh HR5)
       have o6 : OwnJ w6 lo (some ⟨g, 0, none⟩) cap (is.length + 1) (xs ++ [.int .i64 jk, .int .i64 jn, .string (str jt), .slice ja1 jn1 jc1, .slice ja2 jn2 jc2]) := owns_same (uh HO5) (fun k hk => by rw [h6]; exact Below.heap_setCell _ ⟨V, 4, none⟩ _ k (fun e => by simp [blk] at hk; simp only at e; omega))
       have z6 : w6.heap.size = w2.heap.size := by rw [h6, siz1]; exact uh HZz
       have q6 : w6.heap[Q]? = some (.cells #[.pointer (some ⟨P, 0, none⟩)] 131 (0, 0)) := (k6 Q hQV (by omega)).trans (uh HQ2)
       have l6 : Lm w w6 P V lo := by rw [h6]; exact (uh HL5).trans (Lm.set (.inl rfl))
       have HE : Hid (Bv w6 V lo kk ns (is ++ [j]) a1 c1 (some ⟨g, 0, none⟩) cap (xs ++ [.int .i64 jk, .int .i64 jn, .string (str jt), .slice ja1 jn1 jc1, .slice ja2 jn2 jc2])) := (uh HBDvz).push (uh HJDvz) (uh HO1).1 (uh HO1).2.1 (uh HO1).2.2.1 (uh HO1).2.2.2 (uh HG) (uh HAT) (uh HGL) r6 o6 k6 z6
       have HP6 : Hid (Pa w6 P T a' dd) := pa_keep (uh HPDvz) (uh HG) (fun k hk => (owns_lt (uh HBDvz).it k hk).1) k6 hPlo hPV hglo hg4 hgV4
       have HQ6 := hide q6
       have HL6 := hide l6
       clear g6 k6 r6 o6 z6 q6 l6
       go_simp
       rw [← h6]
       clear h6 c5 cf5
       refine hK.out _ _ (cq_of (uh HQ6)) (fun hHeld => ?_)
       clear hK K
       try simp only [Act.put, xq4, xq5, xq6]
       refine wpAnyH_done (by kernel_rfl) ?_ _
       go_end0
       exact .inl ⟨j, a', a1, c1, _, _, _, uh HMo, rfl, uh HP6, uh HL6, uh HQ6, uh HE⟩
     case ba315u10 =>
      obtain ⟨w5, h5⟩ : ∃ w5, w5 = w2.setCell ⟨V, 4, none⟩ (.slice (some ⟨g, 0, none⟩) (is.length + 1) cap) := ⟨_, rfl⟩
      have k5 : ∀ k, k ≠ V → w5.heap[k]? = w2.heap[k]? := fun k n1 => by rw [h5]; exact Below.heap_setCell _ ⟨V, 4, none⟩ _ k n1
      have o5 : OwnJ w5 lo (some ⟨g, 0, none⟩) cap (is.length + 1) (xs ++ zJ) := owns_same (uh HO) (fun k hk => k5 k (fun e => by simp [blk] at hk; omega))
      have r5 : w5.heap[V]? = some (.cells #[.int .i64 kk, .int .i64 0, .string ⟨#[]⟩, .slice a1 ns.length c1, .slice (some ⟨g, 0, none⟩) (is.length + 1) cap] 44 (0, 0)) := by rw [h5]; exact hS6 (uh HV2)
      have z5 : w5.heap.size = w2.heap.size := by rw [h5, siz1]
      have q5 : w5.heap[Q]? = some (.cells #[.pointer (some ⟨P, 0, none⟩)] 131 (0, 0)) := (k5 Q hQV).trans (uh HQ2)
      have l5 : Lm w w5 P V lo := by rw [h5]; exact (uh LM2).trans (Lm.set (.inl rfl))
      clear e0 e1 e2 e3 e4 f0 f1 f2 f3 f4
      obtain ⟨e0, f0⟩ := owns_cell o5 _ _ (uh HZ5 0 _ rfl)
      obtain ⟨e1, f1⟩ := owns_cell o5 _ _ (uh HZ5 1 _ rfl)
      obtain ⟨e2, f2⟩ := owns_cell o5 _ _ (uh HZ5 2 _ rfl)
      obtain ⟨e3, f3⟩ := owns_cell o5 _ _ (uh HZ5 3 _ rfl)
      obtain ⟨e4, f4⟩ := owns_cell o5 _ _ (uh HZ5 4 _ rfl)
      rw [Nat.add_zero] at e0 f0
      have HO5 := hide o5
      have HK5 := hide k5
      have HZz := hide z5
      have HL5 := hide l5
      have HQ5 := hide q5
      have HR5 := hide r5
      clear o5 k5 z5 l5 q5 r5
      go_simp
      rw [← h5]
      clear h5 c4 cfV
      refine hK.out _ _ (cq_of (uh HQ5)) (fun hHeld => ?_)
      clear hK K
      try simp only [Act.put, xq4, xq5, xq6]
      refine wpAnyH_ready (rs := [8]) (by kernel_rfl) (by simp) ?rda315x
      refine AllReadyH.cons (o := ?oa315x8) ?ha315x8 (fun K hK => ?ba315x8) AllReadyH.nil
      case ha315x8 => (simp only [xq1, xq2, xq3]) <;> with_reducible rfl
      case ba315x8 =>
       obtain ⟨w6, h6⟩ : ∃ w6, w6 = ((((w5.setCell ⟨g, is.length * 5, none⟩ (.int .i64 jk)).setCell ⟨g, is.length * 5 + 1, none⟩ (.int .i64 jn)).setCell ⟨g, is.length * 5 + 2, none⟩ (.string (str jt))).setCell ⟨g, is.length * 5 + 3, none⟩ (.slice ja1 jn1 jc1)).setCell ⟨g, is.length * 5 + 4, none⟩ (.slice ja2 jn2 jc2) := ⟨_, rfl⟩
       have o6 : OwnJ w6 lo (some ⟨g, 0, none⟩) cap (is.length + 1) (xs ++ [.int .i64 jk, .int .i64 jn, .string (str jt), .slice ja1 jn1 jc1, .slice ja2 jn2 jc2]) := by rw [h6]; exact own5 (uh HO5) (uh HXL) _ _ _ _ _
       have k6' : ∀ k, k ≠ g → w6.heap[k]? = w5.heap[k]? := fun k hk => by rw [h6]; exact far5 w5 g k _ _ _ _ _ _ _ _ _ _ hk
       have k6 : ∀ k, k ≠ V → k ≠ g → w6.heap[k]? = w2.heap[k]? := fun k n1 n2 => (k6' k n2).trans (uh HK5 k n1)
       have z6 : w6.heap.size = w2.heap.size := by rw [h6, siz5]; exact uh HZz
       have l6 : Lm w w6 P V lo := by rw [h6]; exact (((((uh HL5).trans (Lm.set (.inr hglo))).trans (Lm.set (.inr hglo))).trans (Lm.set (.inr hglo))).trans (Lm.set (.inr hglo))).trans (Lm.set (.inr hglo))
       have r6 := (k6' V (Ne.symm hgV)).trans (uh HR5)
       have q6 : w6.heap[Q]? = some (.cells #[.pointer (some ⟨P, 0, none⟩)] 131 (0, 0)) := (k6 Q hQV (by omega)).trans (uh HQ2)
       have HE : Hid (Bv w6 V lo kk ns (is ++ [j]) a1 c1 (some ⟨g, 0, none⟩) cap (xs ++ [.int .i64 jk, .int .i64 jn, .string (str jt), .slice ja1 jn1 jc1, .slice ja2 jn2 jc2])) := (uh HBDvz).push (uh HJDvz) (uh HO1).1 (uh HO1).2.1 (uh HO1).2.2.1 (uh HO1).2.2.2 (uh HG) (uh HAT) (uh HGL) r6 o6 k6 z6
       have HP6 : Hid (Pa w6 P T a' dd) := pa_keep (uh HPDvz) (uh HG) (fun k hk => (owns_lt (uh HBDvz).it k hk).1) k6 hPlo hPV hglo hg4 hgV4
       have HQ6 := hide q6
       have HL6 := hide l6
       clear k6 k6' r6 o6 z6 q6 l6
       go_simp
       rw [← h6]
       clear h6 e0 e1 e2 e3 e4 f0 f1 f2 f3 f4
       refine hK.out _ _ (cq_of (uh HQ6)) (fun hHeld => ?_)
       clear hK K
       try simp only [Act.put, xq4, xq5, xq6]
       refine wpAnyH_done (by kernel_rfl) ?_ _
       go_end0
       exact .inl ⟨j, a', a1, c1, _, _, _, uh HMo, rfl, uh HP6, uh HL6, uh HQ6, uh HE⟩
  case ba35 =>
   obtain ⟨Dvz, hDvz⟩ : ∃ Dvz, Dvz = Dv.alloc (.cells #[.int .i64 0, .int .i64 0, .string ⟨#[]⟩, .slice none 0 0, .slice none 0 0] 44) := ⟨_, rfl⟩
   obtain ⟨Z, hZ⟩ : ∃ Z, Z = Dv.heap.size := ⟨_, rfl⟩
   have hbDvz : Below Dv.heap.size Dv Dvz := by rw [hDvz]; exact bA _
   have hz : Dvz.heap[Z]? = some (.cells zJ.toArray 44 (0, 0)) := by rw [hDvz, hZ]; exact heap_alloc_new _ _
   have HPDvz := hide ((uh HPDv).below hbDvz)
   have HBDvz := hide ((uh HBDv).below hbDvz)
   have HQDvz := hide ((hbDvz.block Q (aI (uh HQDv)).1).trans (uh HQDv))
   have SZDvz : Hid (lo ≤ Dvz.heap.size) := Nat.le_trans (uh SZDv) hbDvz.size
   have LMDvz : Hid (Lm w Dvz P V lo) := (uh LMDv).trans (Lm.ofMv (Mv.ofB hbDvz) (uh SZDv))
   have HZDvz := hide hz
   have HJDvz : Hid (JV Dvz (fun k => OLD ≤ k ∧ k < Dvz.heap.size) (.agg #[.int .i64 jk, .int .i64 jn, .string (str jt), .slice ja1 jn1 jc1, .slice ja2 jn2 jc2]) j) := JV.keep (fun k hk => ⟨⟨hk.1, Nat.lt_of_lt_of_le hk.2 hbDvz.size⟩, hbDvz.block k hk.2⟩) j _ (uh HJDv)
   clear hz hbDvz
   go_simp
   rw [← hDvz, ← hZ]
   clear hDvz hZ
   refine hK.out _ _ (cq_of (uh HQDvz)) (fun hHeld => ?_)
   clear hK K
   try simp only [Act.put, xq4, xq5, xq6]
   refine wpAnyH_ready (rs := [1]) (by kernel_rfl) (by simp) ?rda35
   refine AllReadyH.cons (o := ?oa351) ?ha351 (fun K hK => ?ba351) AllReadyH.nil
   case ha351 => (simp only [xq1, xq2, xq3]) <;> with_reducible rfl
   case ba351 =>
    have c4 := (uh HBDvz).cells.2.1
    go_simp
    clear c4
    refine hK.out _ _ (cq_of (uh HQDvz)) (fun hHeld => ?_)
    clear hK K
    try simp only [Act.put, xq4, xq5, xq6]
    refine wpAnyH_take (i := 4) (oi := ?_) (v := ?_) ?_ (by kernel_rfl) ?_ ?_ ?_ ?_ hHeld ?_
    rotate_left 2
    ·(simp only [xq1, xq2, xq3]) <;> with_reducible rfl
    ·kernel_rfl
    ·kernel_rfl
    ·exact fun _ _ _ h => h
    ·exact Or.inl ⟨by rfl, by (intro w hSw; (try dsimp only at hSw); go_simp <;> with_reducible rfl)⟩
    simp only [Act.put, xq4, xq5, xq6]
    refine wpAnyH_ready (rs := [6]) (by kernel_rfl) (by simp) ?rda351t
    refine AllReadyH.cons (o := ?oa351t6) ?ha351t6 (fun K hK => ?ba351t6) AllReadyH.nil
    case ha351t6 => (simp only [xq1, xq2, xq3]) <;> with_reducible rfl
    case ba351t6 =>
     refine stp_appz Dvz rfl (.tmp 3) (.tmp 7) rfl lo a2 c2 is.length xs rfl (uh HBDvz).it Z _ rfl (uh HZDvz) his (uh SZDvz) ?_
     intro g cap w2 HO HG HAT HGL
     have hglo : lo ≤ g := (owns_lt (uh HO) g rfl).1
     have hQ2 : w2.heap[Q]? = some (.cells #[.pointer (some ⟨P, 0, none⟩)] 131 (0, 0)) := ((uh HG).block Q (aI (uh HQDvz)).1 (fun e => by have := (owns_lt (uh HBDvz).it Q e.symm).1; omega)).trans (uh HQDvz)
     have hV2 : w2.heap[V]? = some (.cells #[.int .i64 kk, .int .i64 0, .string ⟨#[]⟩, .slice a1 ns.length c1, .slice a2 is.length c2] 44 (0, 0)) := ((uh HG).block V (uh HBDvz).lt (fun e => (uh HBDvz).v2 e.symm)).trans (uh HBDvz).row
     have HQ2 := hide hQ2
     have HV2 := hide hV2
     have hxl : xs.length = is.length * 5 := (uh HBDvz).it.1
     have hgV : g ≠ V := by
      rintro rfl
      rcases uh HAT with e | e
      ·exact (uh HBDvz).v2 e
      ·have := (uh HBDvz).lt; omega
     have LM2 : Hid (Lm w w2 P V lo) := (uh LMDvz).trans (Lm.ofG (uh HG) (uh SZDvz) (fun k hk => (owns_lt (uh HBDvz).it k hk).1))
     have hz5 : ∀ m v, zJ[m]? = some v → (xs ++ zJ)[is.length * 5 + m]? = some v := fun m v hm => by rw [List.getElem?_append_right (by omega), show is.length * 5 + m - xs.length = m by omega]; exact hm
     obtain ⟨e0, f0⟩ := owns_cell (uh HO) _ _ (hz5 0 _ rfl)
     obtain ⟨e1, f1⟩ := owns_cell (uh HO) _ _ (hz5 1 _ rfl)
     obtain ⟨e2, f2⟩ := owns_cell (uh HO) _ _ (hz5 2 _ rfl)
     obtain ⟨e3, f3⟩ := owns_cell (uh HO) _ _ (hz5 3 _ rfl)
     obtain ⟨e4, f4⟩ := owns_cell (uh HO) _ _ (hz5 4 _ rfl)
     rw [Nat.add_zero] at e0 f0
     have c4 : w2.cell? ⟨V, 4, none⟩ = some (.slice a2 is.length c2) := cR6 hV2
     have cfV : w2.frozen? ⟨V, 4, none⟩ = false := frozen_of_row _ _ _ _ _ hV2
     have HXL := hide hxl
     have HZ5 := hide hz5
     clear hQ2 hV2 hxl hz5
     refine hK.out _ _ (cq_of (uh HQ2)) (fun hHeld => ?_)
     clear hK K
     try simp only [Act.put, xq4, xq5, xq6]
     have hil : (is.length : Int) < (is.length : Int) + 1 := by omega
     refine wpAnyH_take (i := 7) (oi := ?_) (v := ?_) ?_ (by kernel_rfl) ?_ ?_ ?_ ?_ hHeld ?_
     rotate_left 2
     ·(simp only [xq1, xq2, xq3]) <;> with_reducible rfl
     ·kernel_rfl
     ·kernel_rfl
     ·exact fun _ _ _ h => h
     ·exact Or.inl ⟨by rfl, by (intro w hSw; (try dsimp only at hSw); go_simp <;> with_reducible rfl)⟩
     simp only [Act.put, xq4, xq5, xq6]
     refine wpAnyH_take (i := 9) (oi := ?_) (v := ?_) ?_ (by kernel_rfl) ?_ ?_ ?_ ?_ hHeld ?_
     rotate_left 2
     ·(simp only [xq1, xq2, xq3]) <;> with_reducible rfl
     ·kernel_rfl
     ·kernel_rfl
     ·exact fun _ _ _ h => h
     ·exact Or.inl ⟨by rfl, by (intro w hSw; (try dsimp only at hSw); go_simp <;> with_reducible rfl)⟩
     simp only [Act.put, xq4, xq5, xq6]
     refine wpAnyH_ready (rs := [8, 10]) (by kernel_rfl) (by simp) ?rda351u
     refine AllReadyH.cons (o := ?oa351u8) ?ha351u8 (fun K hK => ?ba351u8) (AllReadyH.cons (o := ?oa351u10) ?ha351u10 (fun K hK => ?ba351u10) AllReadyH.nil)
     case ha351u8 => (simp only [xq1, xq2, xq3]) <;> with_reducible rfl
     case ha351u10 => (simp only [xq1, xq2, xq3]) <;> with_reducible rfl
     case ba351u8 =>
      obtain ⟨w5, h5⟩ : ∃ w5, w5 = ((((w2.setCell ⟨g, is.length * 5, none⟩ (.int .i64 jk)).setCell ⟨g, is.length * 5 + 1, none⟩ (.int .i64 jn)).setCell ⟨g, is.length * 5 + 2, none⟩ (.string (str jt))).setCell ⟨g, is.length * 5 + 3, none⟩ (.slice ja1 jn1 jc1)).setCell ⟨g, is.length * 5 + 4, none⟩ (.slice ja2 jn2 jc2) := ⟨_, rfl⟩
      have o5 : OwnJ w5 lo (some ⟨g, 0, none⟩) cap (is.length + 1) (xs ++ [.int .i64 jk, .int .i64 jn, .string (str jt), .slice ja1 jn1 jc1, .slice ja2 jn2 jc2]) := by rw [h5]; exact own5 (uh HO) (uh HXL) _ _ _ _ _
      have k5 : ∀ k, k ≠ g → w5.heap[k]? = w2.heap[k]? := fun k hk => by rw [h5]; exact far5 w2 g k _ _ _ _ _ _ _ _ _ _ hk
      have z5 : w5.heap.size = w2.heap.size := by rw [h5]; exact siz5 w2 g _ _ _ _ _ _ _ _ _ _
      have l5 : Lm w w5 P V lo := by rw [h5]; exact (((((uh LM2).trans (Lm.set (.inr hglo))).trans (Lm.set (.inr hglo))).trans (Lm.set (.inr hglo))).trans (Lm.set (.inr hglo))).trans (Lm.set (.inr hglo))
      have q5 : w5.heap[Q]? = some (.cells #[.pointer (some ⟨P, 0, none⟩)] 131 (0, 0)) := (k5 Q (by omega)).trans (uh HQ2)
      have r5 : w5.heap[V]? = some (.cells #[.int .i64 kk, .int .i64 0, .string ⟨#[]⟩, .slice a1 ns.length c1, .slice a2 is.length c2] 44 (0, 0)) := (k5 V (Ne.symm hgV)).trans (uh HV2)
      have c5 : w5.cell? ⟨V, 4, none⟩ = some (.slice a2 is.length c2) := cR6 r5
      have cf5 : w5.frozen? ⟨V, 4, none⟩ = false := frozen_of_row _ _ _ _ _ r5
      have HO5 := hide o5
      have HK5 := hide k5
      have HZz := hide z5
      have HL5 := hide l5
      have HQ5 := hide q5
      have HR5 := hide r5
      clear o5 k5 z5 l5 q5 r5 c4 cfV
      go_simp
      rw [← h5]
      clear h5 e0 e1 e2 e3 e4 f0 f1 f2 f3 f4
      refine hK.out _ _ (cq_of (uh HQ5)) (fun hHeld => ?_)
      clear hK K
      try simp only [Act.put, xq4, xq5, xq6]
      refine wpAnyH_ready (rs := [10]) (by kernel_rfl) (by simp) ?rda351w
      refine AllReadyH.cons (o := ?oa351w10) ?ha351w10 (fun K hK => ?ba351w10) AllReadyH.nil
      case ha351w10 => (simp only [xq1, xq2, xq3]) <;> with_reducible rfl
      case ba351w10 =>
       obtain ⟨w6, h6⟩ : ∃ w6, w6 = w5.setCell ⟨V, 4, none⟩ (.slice (some ⟨g, 0, none⟩) (is.length + 1) cap) := ⟨_, rfl⟩
       have g6 := grownBy_setCell w5 ⟨V, 4, none⟩ (.slice (some ⟨g, 0, none⟩) (is.length + 1) cap)
       rw [← h6] at g6
       have k6 : ∀ k, k ≠ V → k ≠ g → w6.heap[k]? = w2.heap[k]? := fun k n1 n2 => (by rw [h6]; exact Below.heap_setCell _ ⟨V, 4, none⟩ _ k n1 : w6.heap[k]? = w5.heap[k]?).trans (uh HK5 k n2)
       have r6 : w6.heap[V]? = some (.cells #[.int .i64 kk, .int .i64 0, .string ⟨#[]⟩, .slice a1 ns.length c1, .slice (some ⟨g, 0, none⟩) (is.length + 1) cap] 44 (0, 0)) := by rw [h6]; exact hS6 (uh HR5)
       have o6 : OwnJ w6 lo (some ⟨g, 0, none⟩) cap (is.length + 1) (xs ++ [.int .i64 jk, .int .i64 jn, .string (str jt), .slice ja1 jn1 jc1, .slice ja2 jn2 jc2]) := owns_same (uh HO5) (fun k hk => by rw [h6]; exact Below.heap_setCell _ ⟨V, 4, none⟩ _ k (fun e => by simp [blk] at hk; simp only at e; omega))
       have z6 : w6.heap.size = w2.heap.size := by rw [h6, siz1]; exact uh HZz
       have q6 : w6.heap[Q]? = some (.cells #[.pointer (some ⟨P, 0, none⟩)] 131 (0, 0)) := (k6 Q hQV (by omega)).trans (uh HQ2)
       have l6 : Lm w w6 P V lo := by rw [h6]; exact (uh HL5).trans (Lm.set (.inl rfl))
       have HE : Hid (Bv w6 V lo kk ns (is ++ [j]) a1 c1 (some ⟨g, 0, none⟩) cap (xs ++ [.int .i64 jk, .int .i64 jn, .string (str jt), .slice ja1 jn1 jc1, .slice ja2 jn2 jc2])) := (uh HBDvz).push (uh HJDvz) (uh HO1).1 (uh HO1).2.1 (uh HO1).2.2.1 (uh HO1).2.2.2 (uh HG) (uh HAT) (uh HGL) r6 o6 k6 z6
       have HP6 : Hid (Pa w6 P T a' dd) := pa_keep (uh HPDvz) (uh HG) (fun k hk => (owns_lt (uh HBDvz).it k hk).1) k6 hPlo hPV hglo hg4 hgV4
       have HQ6 := hide q6
       have HL6 := hide l6
       clear g6 k6 r6 o6 z6 q6 l6
       go_simp
       rw [← h6]
       clear h6 c5 cf5
       refine hK.out _ _ (cq_of (uh HQ6)) (fun hHeld => ?_)
       clear hK K
       try simp only [Act.put, xq4, xq5, xq6]
       refine wpAnyH_done (by kernel_rfl) ?_ _
       go_end0
       exact .inl ⟨j, a', a1, c1, _, _, _, uh HMo, rfl, uh HP6, uh HL6, uh HQ6, uh HE⟩
     case ba351u10 =>
      obtain ⟨w5, h5⟩ : ∃ w5, w5 = w2.setCell ⟨V, 4, none⟩ (.slice (some ⟨g, 0, none⟩) (is.length + 1) cap) := ⟨_, rfl⟩
      have k5 : ∀ k, k ≠ V → w5.heap[k]? = w2.heap[k]? := fun k n1 => by rw [h5]; exact Below.heap_setCell _ ⟨V, 4, none⟩ _ k n1
      have o5 : OwnJ w5 lo (some ⟨g, 0, none⟩) cap (is.length + 1) (xs ++ zJ) := owns_same (uh HO) (fun k hk => k5 k (fun e => by simp [blk] at hk; omega))
      have r5 : w5.heap[V]? = some (.cells #[.int .i64 kk, .int .i64 0, .string ⟨#[]⟩, .slice a1 ns.length c1, .slice (some ⟨g, 0, none⟩) (is.length + 1) cap] 44 (0, 0)) := by rw [h5]; exact hS6 (uh HV2)
      have z5 : w5.heap.size = w2.heap.size := by rw [h5, siz1]
      have q5 : w5.heap[Q]? = some (.cells #[.pointer (some ⟨P, 0, none⟩)] 131 (0, 0)) := (k5 Q hQV).trans (uh HQ2)
      have l5 : Lm w w5 P V lo := by rw [h5]; exact (uh LM2).trans (Lm.set (.inl rfl))
      clear e0 e1 e2 e3 e4 f0 f1 f2 f3 f4
      obtain ⟨e0, f0⟩ := owns_cell o5 _ _ (uh HZ5 0 _ rfl)
      obtain ⟨e1, f1⟩ := owns_cell o5 _ _ (uh HZ5 1 _ rfl)
      obtain ⟨e2, f2⟩ := owns_cell o5 _ _ (uh HZ5 2 _ rfl)
      obtain ⟨e3, f3⟩ := owns_cell o5 _ _ (uh HZ5 3 _ rfl)
      obtain ⟨e4, f4⟩ := owns_cell o5 _ _ (uh HZ5 4 _ rfl)
      rw [Nat.add_zero] at e0 f0
      have HO5 := hide o5
      have HK5 := hide k5
      have HZz := hide z5
      have HL5 := hide l5
      have HQ5 := hide q5
      have HR5 := hide r5
      clear o5 k5 z5 l5 q5 r5
      go_simp
      rw [← h5]
      clear h5 c4 cfV
      refine hK.out _ _ (cq_of (uh HQ5)) (fun hHeld => ?_)
      clear hK K
      try simp only [Act.put, xq4, xq5, xq6]
      refine wpAnyH_ready (rs := [8]) (by kernel_rfl) (by simp) ?rda351x
      refine AllReadyH.cons (o := ?oa351x8) ?ha351x8 (fun K hK => ?ba351x8) AllReadyH.nil
      case ha351x8 => (simp only [xq1, xq2, xq3]) <;> with_reducible rfl
      case ba351x8 =>
       obtain ⟨w6, h6⟩ : ∃ w6, w6 = ((((w5.setCell ⟨g, is.length * 5, none⟩ (.int .i64 jk)).setCell ⟨g, is.length * 5 + 1, none⟩ (.int .i64 jn)).setCell ⟨g, is.length * 5 + 2, none⟩ (.string (str jt))).setCell ⟨g, is.length * 5 + 3, none⟩ (.slice ja1 jn1 jc1)).setCell ⟨g, is.length * 5 + 4, none⟩ (.slice ja2 jn2 jc2) := ⟨_, rfl⟩
       have o6 : OwnJ w6 lo (some ⟨g, 0, none⟩) cap (is.length + 1) (xs ++ [.int .i64 jk, .int .i64 jn, .string (str jt), .slice ja1 jn1 jc1, .slice ja2 jn2 jc2]) := by rw [h6]; exact own5 (uh HO5) (uh HXL) _ _ _ _ _
       have k6' : ∀ k, k ≠ g → w6.heap[k]? = w5.heap[k]? := fun k hk => by rw [h6]; exact far5 w5 g k _ _ _ _ _ _ _ _ _ _ hk
       have k6 : ∀ k, k ≠ V → k ≠ g → w6.heap[k]? = w2.heap[k]? := fun k n1 n2 => (k6' k n2).trans (uh HK5 k n1)
       have z6 : w6.heap.size = w2.heap.size := by rw [h6, siz5]; exact uh HZz
       have l6 : Lm w w6 P V lo := by rw [h6]; exact (((((uh HL5).trans (Lm.set (.inr hglo))).trans (Lm.set (.inr hglo))).trans (Lm.set (.inr hglo))).trans (Lm.set (.inr hglo))).trans (Lm.set (.inr hglo))
       have r6 := (k6' V (Ne.symm hgV)).trans (uh HR5)
       have q6 : w6.heap[Q]? = some (.cells #[.pointer (some ⟨P, 0, none⟩)] 131 (0, 0)) := (k6 Q hQV (by omega)).trans (uh HQ2)
       have HE : Hid (Bv w6 V lo kk ns (is ++ [j]) a1 c1 (some ⟨g, 0, none⟩) cap (xs ++ [.int .i64 jk, .int .i64 jn, .string (str jt), .slice ja1 jn1 jc1, .slice ja2 jn2 jc2])) := (uh HBDvz).push (uh HJDvz) (uh HO1).1 (uh HO1).2.1 (uh HO1).2.2.1 (uh HO1).2.2.2 (uh HG) (uh HAT) (uh HGL) r6 o6 k6 z6
       have HP6 : Hid (Pa w6 P T a' dd) := pa_keep (uh HPDvz) (uh HG) (fun k hk => (owns_lt (uh HBDvz).it k hk).1) k6 hPlo hPV hglo hg4 hgV4
       have HQ6 := hide q6
       have HL6 := hide l6
       clear k6 k6' r6 o6 z6 q6 l6
       go_simp
       rw [← h6]
       clear h6 e0 e1 e2 e3 e4 f0 f1 f2 f3 f4
       refine hK.out _ _ (cq_of (uh HQ6)) (fun hHeld => ?_)
       clear hK K
       try simp only [Act.put, xq4, xq5, xq6]
       refine wpAnyH_done (by kernel_rfl) ?_ _
       go_end0
       exact .inl ⟨j, a', a1, c1, _, _, _, uh HMo, rfl, uh HP6, uh HL6, uh HQ6, uh HE⟩
 case ba5 =>
  obtain ⟨Dz, hDz⟩ : ∃ Dz, Dz = D.alloc (.cells #[.int .i64 0, .int .i64 0, .string ⟨#[]⟩, .slice none 0 0, .slice none 0 0] 44) := ⟨_, rfl⟩
  obtain ⟨Z, hZ⟩ : ∃ Z, Z = D.heap.size := ⟨_, rfl⟩
  have hbDz : Below D.heap.size D Dz := by rw [hDz]; exact bA _
  have hz : Dz.heap[Z]? = some (.cells zJ.toArray 44 (0, 0)) := by rw [hDz, hZ]; exact heap_alloc_new _ _
  have HPDz := hide ((uh HPD).below hbDz)
  have HBDz := hide ((uh HBD).below hbDz)
  have HQDz := hide ((hbDz.block Q (aI (uh HQD)).1).trans (uh HQD))
  have SZDz : Hid (lo ≤ Dz.heap.size) := Nat.le_trans (uh SZD) hbDz.size
  have LMDz : Hid (Lm w Dz P V lo) := (uh LMD).trans (Lm.ofMv (Mv.ofB hbDz) (uh SZD))
  have HZDz := hide hz
  clear hz hbDz
  go_simp
  rw [← hDz, ← hZ]
  clear hDz hZ
  refine hK.out _ _ (cq_of (uh HQDz)) (fun hHeld => ?_)
  clear hK K
  try simp only [Act.put, xq4, xq5, xq6]
  refine wpAnyH_ready (rs := [1, 3]) (by kernel_rfl) (by simp) ?rda5
  refine AllReadyH.cons (o := ?oa51) ?ha51 (fun K hK => ?ba51) (AllReadyH.cons (o := ?oa53) ?ha53 (fun K hK => ?ba53) AllReadyH.nil)
  case ha51 => (simp only [xq1, xq2, xq3]) <;> with_reducible rfl
  case ha53 => (simp only [xq1, xq2, xq3]) <;> with_reducible rfl
  case ba51 =>
   have c4 := (uh HBDz).cells.2.1
   go_simp
   clear c4
   refine hK.out _ _ (cq_of (uh HQDz)) (fun hHeld => ?_)
   clear hK K
   try simp only [Act.put, xq4, xq5, xq6]
   refine wpAnyH_take (i := 4) (oi := ?_) (v := ?_) ?_ (by kernel_rfl) ?_ ?_ ?_ ?_ hHeld ?_
   rotate_left 2
   ·(simp only [xq1, xq2, xq3]) <;> with_reducible rfl
   ·kernel_rfl
   ·kernel_rfl
   ·exact fun _ _ _ h => h
   ·exact Or.inl ⟨by rfl, by (intro w hSw; (try dsimp only at hSw); go_simp <;> with_reducible rfl)⟩
   simp only [Act.put, xq4, xq5, xq6]
   refine wpAnyH_ready (rs := [3]) (by kernel_rfl) (by simp) ?rda51
   refine AllReadyH.cons (o := ?oa513) ?ha513 (fun K hK => ?ba513) AllReadyH.nil
   case ha513 => (simp only [xq1, xq2, xq3]) <;> with_reducible rfl
   case ba513 =>
    have OLDe : ∃ OLD, OLD = Dz.heap.size := ⟨_, rfl⟩
    obtain ⟨OLD, hOLD⟩ := OLDe
    go_simp
    refine (uh HV _ Dz (uh HPDz)).mono ?_
    rintro e Dzv (⟨j, val, a', hM, rfl, hP3, hMv3, hJ⟩ | ⟨y, a', hM, rfl, h2, h3⟩)
    rotate_left 1
    ·exact ⟨rfl, LiP.nay hM h2 ((uh LMDz).trans (Lm.ofMv h3 (uh SZDz)))⟩
    obtain ⟨jk, jn, jt, ja1, jn1, jc1, ja2, jn2, jc2, rfl⟩ := hJ.form
    have HPDzv := hide hP3
    have HBDzv := hide ((uh HBDz).mv hMv3 hPlo hPV)
    have HQDzv := hide ((hMv3.block Q (aI (uh HQDz)).1 (fun e => hQP (Option.some.inj e))).trans (uh HQDz))
    have SZDzv : Hid (lo ≤ Dzv.heap.size) := Nat.le_trans (uh SZDz) hMv3.size
    have LMDzv : Hid (Lm w Dzv P V lo) := (uh LMDz).trans (Lm.ofMv hMv3 (uh SZDz))
    have HJDzv : Hid (JV Dzv (fun k => OLD ≤ k ∧ k < Dzv.heap.size) (.agg #[.int .i64 jk, .int .i64 jn, .string (str jt), .slice ja1 jn1 jc1, .slice ja2 jn2 jc2]) j) := JV.keep (fun k hk => ⟨⟨by rw [hOLD]; exact hk.1, hk.2⟩, rfl⟩) j _ hJ
    have HO1 : Hid (lo ≤ OLD ∧ V < OLD ∧ (∀ k, blk a1 = some k → k < OLD) ∧ (∀ k, blk a2 = some k → k < OLD)) := by rw [hOLD]; exact ⟨uh SZDz, (uh HBDz).lt, fun k hk => (owns_lt (uh HBDz).nm k hk).2, fun k hk => (owns_lt (uh HBDz).it k hk).2⟩
    have HMo := hide hM
    have HZDzv := hide ((hMv3.block Z (aI (uh HZDz)).1 (fun e => by have h5 := Option.some.inj e; have h6 := (uh HZDz); have h7 := (uh HPDz).row; rw [← h5] at h7; rw [h6] at h7; cases h7)).trans (uh HZDz))
    clear hM hP3 hMv3 hJ hOLD
    refine hK.out _ _ (cq_of (uh HQDzv)) (fun hHeld => ?_)
    clear hK K
    try simp only [Act.put, xq4, xq5, xq6]
    refine wpAnyH_ready (rs := [6]) (by kernel_rfl) (by simp) ?rda513t
    refine AllReadyH.cons (o := ?oa513t6) ?ha513t6 (fun K hK => ?ba513t6) AllReadyH.nil
    case ha513t6 => (simp only [xq1, xq2, xq3]) <;> with_reducible rfl
    case ba513t6 =>
     refine stp_appz Dzv rfl (.tmp 3) (.tmp 7) rfl lo a2 c2 is.length xs rfl (uh HBDzv).it Z _ rfl (uh HZDzv) his (uh SZDzv) ?_
     intro g cap w2 HO HG HAT HGL
     have hglo : lo ≤ g := (owns_lt (uh HO) g rfl).1
     have hQ2 : w2.heap[Q]? = some (.cells #[.pointer (some ⟨P, 0, none⟩)] 131 (0, 0)) := ((uh HG).block Q (aI (uh HQDzv)).1 (fun e => by have := (owns_lt (uh HBDzv).it Q e.symm).1; omega)).trans (uh HQDzv)
     have hV2 : w2.heap[V]? = some (.cells #[.int .i64 kk, .int .i64 0, .string ⟨#[]⟩, .slice a1 ns.length c1, .slice a2 is.length c2] 44 (0, 0)) := ((uh HG).block V (uh HBDzv).lt (fun e => (uh HBDzv).v2 e.symm)).trans (uh HBDzv).row
     have HQ2 := hide hQ2
     have HV2 := hide hV2
     have hxl : xs.length = is.length * 5 := (uh HBDzv).it.1
     have hgV : g ≠ V := by
      rintro rfl
      rcases uh HAT with e | e
      ·exact (uh HBDzv).v2 e
      ·have := (uh HBDzv).lt; omega
     have LM2 : Hid (Lm w w2 P V lo) := (uh LMDzv).trans (Lm.ofG (uh HG) (uh SZDzv) (fun k hk => (owns_lt (uh HBDzv).it k hk).1))
     have hz5 : ∀ m v, zJ[m]? = some v → (xs ++ zJ)[is.length * 5 + m]? = some v := fun m v hm => by rw [List.getElem?_append_right (by omega), show is.length * 5 + m - xs.length = m by omega]; exact hm
     obtain ⟨e0, f0⟩ := owns_cell (uh HO) _ _ (hz5 0 _ rfl)
     obtain ⟨e1, f1⟩ := owns_cell (uh HO) _ _ (hz5 1 _ rfl)
     obtain ⟨e2, f2⟩ := owns_cell (uh HO) _ _ (hz5 2 _ rfl)
     obtain ⟨e3, f3⟩ := owns_cell (uh HO) _ _ (hz5 3 _ rfl)
     obtain ⟨e4, f4⟩ := owns_cell (uh HO) _ _ (hz5 4 _ rfl)
     rw [Nat.add_zero] at e0 f0
     have c4 : w2.cell? ⟨V, 4, none⟩ = some (.slice a2 is.length c2) := cR6 hV2
     have cfV : w2.frozen? ⟨V, 4, none⟩ = false := frozen_of_row _ _ _ _ _ hV2
     have HXL := hide hxl
     have HZ5 := hide hz5
     clear hQ2 hV2 hxl hz5
     refine hK.out _ _ (cq_of (uh HQ2)) (fun hHeld => ?_)
     clear hK K
     try simp only [Act.put, xq4, xq5, xq6]
     have hil : (is.length : Int) < (is.length : Int) + 1 := by omega
     refine wpAnyH_take (i := 7) (oi := ?_) (v := ?_) ?_ (by kernel_rfl) ?_ ?_ ?_ ?_ hHeld ?_
     rotate_left 2
     ·(simp only [xq1, xq2, xq3]) <;> with_reducible rfl
     ·kernel_rfl
     ·kernel_rfl
     ·exact fun _ _ _ h => h
     ·exact Or.inl ⟨by rfl, by (intro w hSw; (try dsimp only at hSw); go_simp <;> with_reducible rfl)⟩
     simp only [Act.put, xq4, xq5, xq6]
     refine wpAnyH_take (i := 9) (oi := ?_) (v := ?_) ?_ (by kernel_rfl) ?_ ?_ ?_ ?_ hHeld ?_
     rotate_left 2
     ·(simp only [xq1, xq2, xq3]) <;> with_reducible rfl
     ·kernel_rfl
     ·kernel_rfl
     ·exact fun _ _ _ h => h
     ·exact Or.inl ⟨by rfl, by (intro w hSw; (try dsimp only at hSw); go_simp <;> with_reducible rfl)⟩
     simp only [Act.put, xq4, xq5, xq6]
     refine wpAnyH_ready (rs := [8, 10]) (by kernel_rfl) (by simp) ?rda513u
     refine AllReadyH.cons (o := ?oa513u8) ?ha513u8 (fun K hK => ?ba513u8) (AllReadyH.cons (o := ?oa513u10) ?ha513u10 (fun K hK => ?ba513u10) AllReadyH.nil)
     case ha513u8 => (simp only [xq1, xq2, xq3]) <;> with_reducible rfl
     case ha513u10 => (simp only [xq1, xq2, xq3]) <;> with_reducible rfl
     case ba513u8 =>
      obtain ⟨w5, h5⟩ : ∃ w5, w5 = ((((w2.setCell ⟨g, is.length * 5, none⟩ (.int .i64 jk)).setCell ⟨g, is.length * 5 + 1, none⟩ (.int .i64 jn)).setCell ⟨g, is.length * 5 + 2, none⟩ (.string (str jt))).setCell ⟨g, is.length * 5 + 3, none⟩ (.slice ja1 jn1 jc1)).setCell ⟨g, is.length * 5 + 4, none⟩ (.slice ja2 jn2 jc2) := ⟨_, rfl⟩
      have o5 : OwnJ w5 lo (some ⟨g, 0, none⟩) cap (is.length + 1) (xs ++ [.int .i64 jk, .int .i64 jn, .string (str jt), .slice ja1 jn1 jc1, .slice ja2 jn2 jc2]) := by rw [h5]; exact own5 (uh HO) (uh HXL) _ _ _ _ _
      have k5 : ∀ k, k ≠ g → w5.heap[k]? = w2.heap[k]? := fun k hk => by rw [h5]; exact far5 w2 g k _ _ _ _ _ _ _ _ _ _ hk
      have z5 : w5.heap.size = w2.heap.size := by rw [h5]; exact siz5 w2 g _ _ _ _ _ _ _ _ _ _
      have l5 : Lm w w5 P V lo := by rw [h5]; exact (((((uh LM2).trans (Lm.set (.inr hglo))).trans (Lm.set (.inr hglo))).trans (Lm.set (.inr hglo))).trans (Lm.set (.inr hglo))).trans (Lm.set (.inr hglo))
      have q5 : w5.heap[Q]? = some (.cells #[.pointer (some ⟨P, 0, none⟩)] 131 (0, 0)) := (k5 Q (by omega)).trans (uh HQ2)
      have r5 : w5.heap[V]? = some (.cells #[.int .i64 kk, .int .i64 0, .string ⟨#[]⟩, .slice a1 ns.length c1, .slice a2 is.length c2] 44 (0, 0)) := (k5 V (Ne.symm hgV)).trans (uh HV2)
      have c5 : w5.cell? ⟨V, 4, none⟩ = some (.slice a2 is.length c2) := cR6 r5
      have cf5 : w5.frozen? ⟨V, 4, none⟩ = false := frozen_of_row _ _ _ _ _ r5
      have HO5 := hide o5
      have HK5 := hide k5
      have HZz := hide z5
      have HL5 := hide l5
      have HQ5 := hide q5
      have HR5 := hide r5
      clear o5 k5 z5 l5 q5 r5 c4 cfV
      go_simp
      rw [← h5]
      clear h5 e0 e1 e2 e3 e4 f0 f1 f2 f3 f4
      refine hK.out _ _ (cq_of (uh HQ5)) (fun hHeld => ?_)
      clear hK K
      try simp only [Act.put, xq4, xq5, xq6]
      refine wpAnyH_ready (rs := [10]) (by kernel_rfl) (by simp) ?rda513w
      refine AllReadyH.cons (o := ?oa513w10) ?ha513w10 (fun K hK => ?ba513w10) AllReadyH.nil
      case ha513w10 => (simp only [xq1, xq2, xq3]) <;> with_reducible rfl
      case ba513w10 =>
       obtain ⟨w6, h6⟩ : ∃ w6, w6 = w5.setCell ⟨V, 4, none⟩ (.slice (some ⟨g, 0, none⟩) (is.length + 1) cap) := ⟨_, rfl⟩
       have g6 := grownBy_setCell w5 ⟨V, 4, none⟩ (.slice (some ⟨g, 0, none⟩) (is.length + 1) cap)
       rw [← h6] at g6
       have k6 : ∀ k, k ≠ V → k ≠ g → w6.heap[k]? = w2.heap[k]? := fun k n1 n2 => (by rw [h6]; exact Below.heap_setCell _ ⟨V, 4, none⟩ _ k n1 : w6.heap[k]? = w5.heap[k]?).trans (uh HK5 k n2)
       have r6 : w6.heap[V]? = some (.cells #[.int .i64 kk, .int .i64 0, .string ⟨#[]⟩, .slice a1 ns.length c1, .slice (some ⟨g, 0, none⟩) (is.length + 1) cap] 44 (0, 0)) := by rw [h6]; exact hS6 (uh HR5)
       have o6 : OwnJ w6 lo (some ⟨g, 0, none⟩) cap (is.length + 1) (xs ++ [.int .i64 jk, .int .i64 jn, .string (str jt), .slice ja1 jn1 jc1, .slice ja2 jn2 jc2]) := owns_same (uh HO5) (fun k hk => by rw [h6]; exact Below.heap_setCell _ ⟨V, 4, none⟩ _ k (fun e => by simp [blk] at hk; simp only at e; omega))
       have z6 : w6.heap.size = w2.heap.size := by rw [h6, siz1]; exact uh HZz
       have q6 : w6.heap[Q]? = some (.cells #[.pointer (some ⟨P, 0, none⟩)] 131 (0, 0)) := (k6 Q hQV (by omega)).trans (uh HQ2)
       have l6 : Lm w w6 P V lo := by rw [h6]; exact (uh HL5).trans (Lm.set (.inl rfl))
       have HE : Hid (Bv w6 V lo kk ns (is ++ [j]) a1 c1 (some ⟨g, 0, none⟩) cap (xs ++ [.int .i64 jk, .int .i64 jn, .string (str jt), .slice ja1 jn1 jc1, .slice ja2 jn2 jc2])) := (uh HBDzv).push (uh HJDzv) (uh HO1).1 (uh HO1).2.1 (uh HO1).2.2.1 (uh HO1).2.2.2 (uh HG) (uh HAT) (uh HGL) r6 o6 k6 z6
       have HP6 : Hid (Pa w6 P T a' dd) := pa_keep (uh HPDzv) (uh HG) (fun k hk => (owns_lt (uh HBDzv).it k hk).1) k6 hPlo hPV hglo hg4 hgV4
       have HQ6 := hide q6
       have HL6 := hide l6
       clear g6 k6 r6 o6 z6 q6 l6
       go_simp
       rw [← h6]
       clear h6 c5 cf5
       refine hK.out _ _ (cq_of (uh HQ6)) (fun hHeld => ?_)
       clear hK K
       try simp only [Act.put, xq4, xq5, xq6]
       refine wpAnyH_done (by kernel_rfl) ?_ _
       go_end0
       exact .inl ⟨j, a', a1, c1, _, _, _, uh HMo, rfl, uh HP6, uh HL6, uh HQ6, uh HE⟩
     case ba513u10 =>
      obtain ⟨w5, h5⟩ : ∃ w5, w5 = w2.setCell ⟨V, 4, none⟩ (.slice (some ⟨g, 0, none⟩) (is.length + 1) cap) := ⟨_, rfl⟩
      have k5 : ∀ k, k ≠ V → w5.heap[k]? = w2.heap[k]? := fun k n1 => by rw [h5]; exact Below.heap_setCell _ ⟨V, 4, none⟩ _ k n1
      have o5 : OwnJ w5 lo (some ⟨g, 0, none⟩) cap (is.length + 1) (xs ++ zJ) := owns_same (uh HO) (fun k hk => k5 k (fun e => by simp [blk] at hk; omega))
      have r5 : w5.heap[V]? = some (.cells #[.int .i64 kk, .int .i64 0, .string ⟨#[]⟩, .slice a1 ns.length c1, .slice (some ⟨g, 0, none⟩) (is.length + 1) cap] 44 (0, 0)) := by rw [h5]; exact hS6 (uh HV2)
      have z5 : w5.heap.size = w2.heap.size := by rw [h5, siz1]
      have q5 : w5.heap[Q]? = some (.cells #[.pointer (some ⟨P, 0, none⟩)] 131 (0, 0)) := (k5 Q hQV).trans (uh HQ2)
      have l5 : Lm w w5 P V lo := by rw [h5]; exact (uh LM2).trans (Lm.set (.inl rfl))
      clear e0 e1 e2 e3 e4 f0 f1 f2 f3 f4
      obtain ⟨e0, f0⟩ := owns_cell o5 _ _ (uh HZ5 0 _ rfl)
      obtain ⟨e1, f1⟩ := owns_cell o5 _ _ (uh HZ5 1 _ rfl)
      obtain ⟨e2, f2⟩ := owns_cell o5 _ _ (uh HZ5 2 _ rfl)
      obtain ⟨e3, f3⟩ := owns_cell o5 _ _ (uh HZ5 3 _ rfl)
      obtain ⟨e4, f4⟩ := owns_cell o5 _ _ (uh HZ5 4 _ rfl)
      rw [Nat.add_zero] at e0 f0
      have HO5 := hide o5
      have HK5 := hide k5
      have HZz := hide z5
      have HL5 := hide l5
      have HQ5 := hide q5
      have HR5 := hide r5
      clear o5 k5 z5 l5 q5 r5
      go_simp
      rw [← h5]
      clear h5 c4 cfV
      refine hK.out _ _ (cq_of (uh HQ5)) (fun hHeld => ?_)
      clear hK K
      try simp only [Act.put, xq4, xq5, xq6]
      refine wpAnyH_ready (rs := [8]) (by kernel_rfl) (by simp) ?rda513x
      refine AllReadyH.cons (o := ?oa513x8) ?ha513x8 (fun K hK => ?ba513x8) AllReadyH.nil
      case ha513x8 => (simp only [xq1, xq2, xq3]) <;> with_reducible rfl
      case ba513x8 =>
       obtain ⟨w6, h6⟩ : ∃ w6, w6 = ((((w5.setCell ⟨g, is.length * 5, none⟩ (.int .i64 jk)).setCell ⟨g, is.length * 5 + 1, none⟩ (.int .i64 jn)).setCell ⟨g, is.length * 5 + 2, none⟩ (.string (str jt))).setCell ⟨g, is.length * 5 + 3, none⟩ (.slice ja1 jn1 jc1)).setCell ⟨g, is.length * 5 + 4, none⟩ (.slice ja2 jn2 jc2) := ⟨_, rfl⟩
       have o6 : OwnJ w6 lo (some ⟨g, 0, none⟩) cap (is.length + 1) (xs ++ [.int .i64 jk, .int .i64 jn, .string (str jt), .slice ja1 jn1 jc1, .slice ja2 jn2 jc2]) := by rw [h6]; exact own5 (uh HO5) (uh HXL) _ _ _ _ _
       have k6' : ∀ k, k ≠ g → w6.heap[k]? = w5.heap[k]? := fun k hk => by rw [h6]; exact far5 w5 g k _ _ _ _ _ _ _ _ _ _ hk
       have k6 : ∀ k, k ≠ V → k ≠ g → w6.heap[k]? = w2.heap[k]? := fun k n1 n2 => (k6' k n2).trans (uh HK5 k n1)
       have z6 : w6.heap.size = w2.heap.size := by rw [h6, siz5]; exact uh HZz
       have l6 : Lm w w6 P V lo := by rw [h6]; exact (((((uh HL5).trans (Lm.set (.inr hglo))).trans (Lm.set (.inr hglo))).trans (Lm.set (.inr hglo))).trans (Lm.set (.inr hglo))).trans (Lm.set (.inr hglo))
       have r6 := (k6' V (Ne.symm hgV)).trans (uh HR5)
       have q6 : w6.heap[Q]? = some (.cells #[.pointer (some ⟨P, 0, none⟩)] 131 (0, 0)) := (k6 Q hQV (by omega)).trans (uh HQ2)
       have HE : Hid (Bv w6 V lo kk ns (is ++ [j]) a1 c1 (some ⟨g, 0, none⟩) cap (xs ++ [.int .i64 jk, .int .i64 jn, .string (str jt), .slice ja1 jn1 jc1, .slice ja2 jn2 jc2])) := (uh HBDzv).push (uh HJDzv) (uh HO1).1 (uh HO1).2.1 (uh HO1).2.2.1 (uh HO1).2.2.2 (uh HG) (uh HAT) (uh HGL) r6 o6 k6 z6
       have HP6 : Hid (Pa w6 P T a' dd) := pa_keep (uh HPDzv) (uh HG) (fun k hk => (owns_lt (uh HBDzv).it k hk).1) k6 hPlo hPV hglo hg4 hgV4
       have HQ6 := hide q6
       have HL6 := hide l6
       clear k6 k6' r6 o6 z6 q6 l6
       go_simp
       rw [← h6]
       clear h6 e0 e1 e2 e3 e4 f0 f1 f2 f3 f4
       refine hK.out _ _ (cq_of (uh HQ6)) (fun hHeld => ?_)
       clear hK K
       try simp only [Act.put, xq4, xq5, xq6]
       refine wpAnyH_done (by kernel_rfl) ?_ _
       go_end0
       exact .inl ⟨j, a', a1, c1, _, _, _, uh HMo, rfl, uh HP6, uh HL6, uh HQ6, uh HE⟩
  case ba53 =>
   have OLDe : ∃ OLD, OLD = Dz.heap.size := ⟨_, rfl⟩
   obtain ⟨OLD, hOLD⟩ := OLDe
   go_simp
   refine (uh HV _ Dz (uh HPDz)).mono ?_
   rintro e Dzv (⟨j, val, a', hM, rfl, hP3, hMv3, hJ⟩ | ⟨y, a', hM, rfl, h2, h3⟩)
   rotate_left 1
   ·exact ⟨rfl, LiP.nay hM h2 ((uh LMDz).trans (Lm.ofMv h3 (uh SZDz)))⟩
   obtain ⟨jk, jn, jt, ja1, jn1, jc1, ja2, jn2, jc2, rfl⟩ := hJ.form
   have HPDzv := hide hP3
   have HBDzv := hide ((uh HBDz).mv hMv3 hPlo hPV)
   have HQDzv := hide ((hMv3.block Q (aI (uh HQDz)).1 (fun e => hQP (Option.some.inj e))).trans (uh HQDz))
   have SZDzv : Hid (lo ≤ Dzv.heap.size) := Nat.le_trans (uh SZDz) hMv3.size
   have LMDzv : Hid (Lm w Dzv P V lo) := (uh LMDz).trans (Lm.ofMv hMv3 (uh SZDz))
   have HJDzv : Hid (JV Dzv (fun k => OLD ≤ k ∧ k < Dzv.heap.size) (.agg #[.int .i64 jk, .int .i64 jn, .string (str jt), .slice ja1 jn1 jc1, .slice ja2 jn2 jc2]) j) := JV.keep (fun k hk => ⟨⟨by rw [hOLD]; exact hk.1, hk.2⟩, rfl⟩) j _ hJ
   have HO1 : Hid (lo ≤ OLD ∧ V < OLD ∧ (∀ k, blk a1 = some k → k < OLD) ∧ (∀ k, blk a2 = some k → k < OLD)) := by rw [hOLD]; exact ⟨uh SZDz, (uh HBDz).lt, fun k hk => (owns_lt (uh HBDz).nm k hk).2, fun k hk => (owns_lt (uh HBDz).it k hk).2⟩
   have HMo := hide hM
   have HZDzv := hide ((hMv3.block Z (aI (uh HZDz)).1 (fun e => by have h5 := Option.some.inj e; have h6 := (uh HZDz); have h7 := (uh HPDz).row; rw [← h5] at h7; rw [h6] at h7; cases h7)).trans (uh HZDz))
   clear hM hP3 hMv3 hJ hOLD
   refine hK.out _ _ (cq_of (uh HQDzv)) (fun hHeld => ?_)
   clear hK K
   try simp only [Act.put, xq4, xq5, xq6]
   refine wpAnyH_ready (rs := [1]) (by kernel_rfl) (by simp) ?rda53
   refine AllReadyH.cons (o := ?oa531) ?ha531 (fun K hK => ?ba531) AllReadyH.nil
   case ha531 => (simp only [xq1, xq2, xq3]) <;> with_reducible rfl
   case ba531 =>
    have c4 := (uh HBDzv).cells.2.1
    go_simp
    clear c4
    refine hK.out _ _ (cq_of (uh HQDzv)) (fun hHeld => ?_)
    clear hK K
    try simp only [Act.put, xq4, xq5, xq6]
    refine wpAnyH_take (i := 4) (oi := ?_) (v := ?_) ?_ (by kernel_rfl) ?_ ?_ ?_ ?_ hHeld ?_
    rotate_left 2
    ·(simp only [xq1, xq2, xq3]) <;> with_reducible rfl
    ·kernel_rfl
    ·kernel_rfl
    ·exact fun _ _ _ h => h
    ·exact Or.inl ⟨by rfl, by (intro w hSw; (try dsimp only at hSw); go_simp <;> with_reducible rfl)⟩
    simp only [Act.put, xq4, xq5, xq6]
    refine wpAnyH_ready (rs := [6]) (by kernel_rfl) (by simp) ?rda531t
    refine AllReadyH.cons (o := ?oa531t6) ?ha531t6 (fun K hK => ?ba531t6) AllReadyH.nil
    case ha531t6 => (simp only [xq1, xq2, xq3]) <;> with_reducible rfl
    case ba531t6 =>
     refine stp_appz Dzv rfl (.tmp 3) (.tmp 7) rfl lo a2 c2 is.length xs rfl (uh HBDzv).it Z _ rfl (uh HZDzv) his (uh SZDzv) ?_
     intro g cap w2 HO HG HAT HGL
     have hglo : lo ≤ g := (owns_lt (uh HO) g rfl).1
     have hQ2 : w2.heap[Q]? = some (.cells #[.pointer (some ⟨P, 0, none⟩)] 131 (0, 0)) := ((uh HG).block Q (aI (uh HQDzv)).1 (fun e => by have := (owns_lt (uh HBDzv).it Q e.symm).1; omega)).trans (uh HQDzv)
     have hV2 : w2.heap[V]? = some (.cells #[.int .i64 kk, .int .i64 0, .string ⟨#[]⟩, .slice a1 ns.length c1, .slice a2 is.length c2] 44 (0, 0)) := ((uh HG).block V (uh HBDzv).lt (fun e => (uh HBDzv).v2 e.symm)).trans (uh HBDzv).row
     have HQ2 := hide hQ2
     have HV2 := hide hV2
     have hxl : xs.length = is.length * 5 := (uh HBDzv).it.1
     have hgV : g ≠ V := by
      rintro rfl
      rcases uh HAT with e | e
      ·exact (uh HBDzv).v2 e
      ·have := (uh HBDzv).lt; omega
     have LM2 : Hid (Lm w w2 P V lo) := (uh LMDzv).trans (Lm.ofG (uh HG) (uh SZDzv) (fun k hk => (owns_lt (uh HBDzv).it k hk).1))
     have hz5 : ∀ m v, zJ[m]? = some v → (xs ++ zJ)[is.length * 5 + m]? = some v := fun m v hm => by rw [List.getElem?_append_right (by omega), show is.length * 5 + m - xs.length = m by omega]; exact hm
     obtain ⟨e0, f0⟩ := owns_cell (uh HO) _ _ (hz5 0 _ rfl)
     obtain ⟨e1, f1⟩ := owns_cell (uh HO) _ _ (hz5 1 _ rfl)
     obtain ⟨e2, f2⟩ := owns_cell (uh HO) _ _ (hz5 2 _ rfl)
     obtain ⟨e3, f3⟩ := owns_cell (uh HO) _ _ (hz5 3 _ rfl)
     obtain ⟨e4, f4⟩ := owns_cell (uh HO) _ _ (hz5 4 _ rfl)
     rw [Nat.add_zero] at e0 f0
     have c4 : w2.cell? ⟨V, 4, none⟩ = some (.slice a2 is.length c2) := cR6 hV2
     have cfV : w2.frozen? ⟨V, 4, none⟩ = false := frozen_of_row _ _ _ _ _ hV2
     have HXL := hide hxl
     have HZ5 := hide hz5
     clear hQ2 hV2 hxl hz5
     refine hK.out _ _ (cq_of (uh HQ2)) (fun hHeld => ?_)
     clear hK K
     try simp only [Act.put, xq4, xq5, xq6]
     have hil : (is.length : Int) < (is.length : Int) + 1 := by omega
     refine wpAnyH_take (i := 7) (oi := ?_) (v := ?_) ?_ (by kernel_rfl) ?_ ?_ ?_ ?_ hHeld ?_
     rotate_left 2
     ·(simp only [xq1, xq2, xq3]) <;> with_reducible rfl
     ·kernel_rfl
     ·kernel_rfl
     ·exact fun _ _ _ h => h
     ·exact Or.inl ⟨by rfl, by (intro w hSw; (try dsimp only at hSw); go_simp <;> with_reducible rfl)⟩
     simp only [Act.put, xq4, xq5, xq6]
     refine wpAnyH_take (i := 9) (oi := ?_) (v := ?_) ?_ (by kernel_rfl) ?_ ?_ ?_ ?_ hHeld ?_
     rotate_left 2
     ·(simp only [xq1, xq2, xq3]) <;> with_reducible rfl
     ·kernel_rfl
     ·kernel_rfl
     ·exact fun _ _ _ h => h
     ·exact Or.inl ⟨by rfl, by (intro w hSw; (try dsimp only at hSw); go_simp <;> with_reducible rfl)⟩
     simp only [Act.put, xq4, xq5, xq6]
     refine wpAnyH_ready (rs := [8, 10]) (by kernel_rfl) (by simp) ?rda531u
     refine AllReadyH.cons (o := ?oa531u8) ?ha531u8 (fun K hK => ?ba531u8) (AllReadyH.cons (o := ?oa531u10) ?ha531u10 (fun K hK => ?ba531u10) AllReadyH.nil)
     case ha531u8 => (simp only [xq1, xq2, xq3]) <;> with_reducible rfl
     case ha531u10 => (simp only [xq1, xq2, xq3]) <;> with_reducible rfl
     case ba531u8 =>
      obtain ⟨w5, h5⟩ : ∃ w5, w5 = ((((w2.setCell ⟨g, is.length * 5, none⟩ (.int .i64 jk)).setCell ⟨g, is.length * 5 + 1, none⟩ (.int .i64 jn)).setCell ⟨g, is.length * 5 + 2, none⟩ (.string (str jt))).setCell ⟨g, is.length * 5 + 3, none⟩ (.slice ja1 jn1 jc1)).setCell ⟨g, is.length * 5 + 4, none⟩ (.slice ja2 jn2 jc2) := ⟨_, rfl⟩
      have o5 : OwnJ w5 lo (some ⟨g, 0, none⟩) cap (is.length + 1) (xs ++ [.int .i64 jk, .int .i64 jn, .string (str jt), .slice ja1 jn1 jc1, .slice ja2 jn2 jc2]) := by rw [h5]; exact own5 (uh HO) (uh HXL) _ _ _ _ _
      have k5 : ∀ k, k ≠ g → w5.heap[k]? = w2.heap[k]? := fun k hk => by rw [h5]; exact far5 w2 g k _ _ _ _ _ _ _ _ _ _ hk
      have z5 : w5.heap.size = w2.heap.size := by rw [h5]; exact siz5 w2 g _ _ _ _ _ _ _ _ _ _
      have l5 : Lm w w5 P V lo := by rw [h5]; exact (((((uh LM2).trans (Lm.set (.inr hglo))).trans (Lm.set (.inr hglo))).trans (Lm.set (.inr hglo))).trans (Lm.set (.inr hglo))).trans (Lm.set (.inr hglo))
      have q5 : w5.heap[Q]? = some (.cells #[.pointer (some ⟨P, 0, none⟩)] 131 (0, 0)) := (k5 Q (by omega)).trans (uh HQ2)
      have r5 : w5.heap[V]? = some (.cells #[.int .i64 kk, .int .i64 0, .string ⟨#[]⟩, .slice a1 ns.length c1, .slice a2 is.length c2] 44 (0, 0)) := (k5 V (Ne.symm hgV)).trans (uh HV2)
      have c5 : w5.cell? ⟨V, 4, none⟩ = some (.slice a2 is.length c2) := cR6 r5
      have cf5 : w5.frozen? ⟨V, 4, none⟩ = false := frozen_of_row _ _ _ _ _ r5
      have HO5 := hide o5
      have HK5 := hide k5
      have HZz := hide z5
      have HL5 := hide l5
      have HQ5 := hide q5
      have HR5 := hide r5
      clear o5 k5 z5 l5 q5 r5 c4 cfV
      go_simp
      rw [← h5]
      clear h5 e0 e1 e2 e3 e4 f0 f1 f2 f3 f4
      refine hK.out _ _ (cq_of (uh HQ5)) (fun hHeld => ?_)
      clear hK K
      try simp only [Act.put, xq4, xq5, xq6]
      refine wpAnyH_ready (rs := [10]) (by kernel_rfl) (by simp) ?rda531w
      refine AllReadyH.cons (o := ?oa531w10) ?ha531w10 (fun K hK => ?ba531w10) AllReadyH.nil
      case ha531w10 => (simp only [xq1, xq2, xq3]) <;> with_reducible rfl
      case ba531w10 =>
       obtain ⟨w6, h6⟩ : ∃ w6, w6 = w5.setCell ⟨V, 4, none⟩ (.slice (some ⟨g, 0, none⟩) (is.length + 1) cap) := ⟨_, rfl⟩
       have g6 := grownBy_setCell w5 ⟨V, 4, none⟩ (.slice (some ⟨g, 0, none⟩) (is.length + 1) cap)
       rw [← h6] at g6
       have k6 : ∀ k, k ≠ V → k ≠ g → w6.heap[k]? = w2.heap[k]? := fun k n1 n2 => (by rw [h6]; exact Below.heap_setCell _ ⟨V, 4, none⟩ _ k n1 : w6.heap[k]? = w5.heap[k]?).trans (uh HK5 k n2)
       have r6 : w6.heap[V]? = some (.cells #[.int .i64 kk, .int .i64 0, .string ⟨#[]⟩, .slice a1 ns.length c1, .slice (some ⟨g, 0, none⟩) (is.length + 1) cap] 44 (0, 0)) := by rw [h6]; exact hS6 (uh HR5)
       have o6 : OwnJ w6 lo (some ⟨g, 0, none⟩) cap (is.length + 1) (xs ++ [.int .i64 jk, .int .i64 jn, .string (str jt), .slice ja1 jn1 jc1, .slice ja2 jn2 jc2]) := owns_same (uh HO5) (fun k hk => by rw [h6]; exact Below.heap_setCell _ ⟨V, 4, none⟩ _ k (fun e => by simp [blk] at hk; simp only at e; omega))
       have z6 : w6.heap.size = w2.heap.size := by rw [h6, siz1]; exact uh HZz
       have q6 : w6.heap[Q]? = some (.cells #[.pointer (some ⟨P, 0, none⟩)] 131 (0, 0)) := (k6 Q hQV (by omega)).trans (uh HQ2)
       have l6 : Lm w w6 P V lo := by rw [h6]; exact (uh HL5).trans (Lm.set (.inl rfl))
       have HE : Hid (Bv w6 V lo kk ns (is ++ [j]) a1 c1 (some ⟨g, 0, none⟩) cap (xs ++ [.int .i64 jk, .int .i64 jn, .string (str jt), .slice ja1 jn1 jc1, .slice ja2 jn2 jc2])) := (uh HBDzv).push (uh HJDzv) (uh HO1).1 (uh HO1).2.1 (uh HO1).2.2.1 (uh HO1).2.2.2 (uh HG) (uh HAT) (uh HGL) r6 o6 k6 z6
       have HP6 : Hid (Pa w6 P T a' dd) := pa_keep (uh HPDzv) (uh HG) (fun k hk => (owns_lt (uh HBDzv).it k hk).1) k6 hPlo hPV hglo hg4 hgV4
       have HQ6 := hide q6
       have HL6 := hide l6
       clear g6 k6 r6 o6 z6 q6 l6
       go_simp
       rw [← h6]
       clear h6 c5 cf5
       refine hK.out _ _ (cq_of (uh HQ6)) (fun hHeld => ?_)
       clear hK K
       try simp only [Act.put, xq4, xq5, xq6]
       refine wpAnyH_done (by kernel_rfl) ?_ _
       go_end0
       exact .inl ⟨j, a', a1, c1, _, _, _, uh HMo, rfl, uh HP6, uh HL6, uh HQ6, uh HE⟩
     case ba531u10 =>
      obtain ⟨w5, h5⟩ : ∃ w5, w5 = w2.setCell ⟨V, 4, none⟩ (.slice (some ⟨g, 0, none⟩) (is.length + 1) cap) := ⟨_, rfl⟩
      have k5 : ∀ k, k ≠ V → w5.heap[k]? = w2.heap[k]? := fun k n1 => by rw [h5]; exact Below.heap_setCell _ ⟨V, 4, none⟩ _ k n1
      have o5 : OwnJ w5 lo (some ⟨g, 0, none⟩) cap (is.length + 1) (xs ++ zJ) := owns_same (uh HO) (fun k hk => k5 k (fun e => by simp [blk] at hk; omega))
      have r5 : w5.heap[V]? = some (.cells #[.int .i64 kk, .int .i64 0, .string ⟨#[]⟩, .slice a1 ns.length c1, .slice (some ⟨g, 0, none⟩) (is.length + 1) cap] 44 (0, 0)) := by rw [h5]; exact hS6 (uh HV2)
      have z5 : w5.heap.size = w2.heap.size := by rw [h5, siz1]
      have q5 : w5.heap[Q]? = some (.cells #[.pointer (some ⟨P, 0, none⟩)] 131 (0, 0)) := (k5 Q hQV).trans (uh HQ2)
      have l5 : Lm w w5 P V lo := by rw [h5]; exact (uh LM2).trans (Lm.set (.inl rfl))
      clear e0 e1 e2 e3 e4 f0 f1 f2 f3 f4
      obtain ⟨e0, f0⟩ := owns_cell o5 _ _ (uh HZ5 0 _ rfl)
      obtain ⟨e1, f1⟩ := owns_cell o5 _ _ (uh HZ5 1 _ rfl)
      obtain ⟨e2, f2⟩ := owns_cell o5 _ _ (uh HZ5 2 _ rfl)
      obtain ⟨e3, f3⟩ := owns_cell o5 _ _ (uh HZ5 3 _ rfl)
      obtain ⟨e4, f4⟩ := owns_cell o5 _ _ (uh HZ5 4 _ rfl)
      rw [Nat.add_zero] at e0 f0
      have HO5 := hide o5
      have HK5 := hide k5
      have HZz := hide z5
      have HL5 := hide l5
      have HQ5 := hide q5
      have HR5 := hide r5
      clear o5 k5 z5 l5 q5 r5
      go_simp
      rw [← h5]
      clear h5 c4 cfV
      refine hK.out _ _ (cq_of (uh HQ5)) (fun hHeld => ?_)
      clear hK K
      try simp only [Act.put, xq4, xq5, xq6]
      refine wpAnyH_ready (rs := [8]) (by kernel_rfl) (by simp) ?rda531x
      refine AllReadyH.cons (o := ?oa531x8) ?ha531x8 (fun K hK => ?ba531x8) AllReadyH.nil
      case ha531x8 => (simp only [xq1, xq2, xq3]) <;> with_reducible rfl
      case ba531x8 =>
       obtain ⟨w6, h6⟩ : ∃ w6, w6 = ((((w5.setCell ⟨g, is.length * 5, none⟩ (.int .i64 jk)).setCell ⟨g, is.length * 5 + 1, none⟩ (.int .i64 jn)).setCell ⟨g, is.length * 5 + 2, none⟩ (.string (str jt))).setCell ⟨g, is.length * 5 + 3, none⟩ (.slice ja1 jn1 jc1)).setCell ⟨g, is.length * 5 + 4, none⟩ (.slice ja2 jn2 jc2) := ⟨_, rfl⟩
       have o6 : OwnJ w6 lo (some ⟨g, 0, none⟩) cap (is.length + 1) (xs ++ [.int .i64 jk, .int .i64 jn, .string (str jt), .slice ja1 jn1 jc1, .slice ja2 jn2 jc2]) := by rw [h6]; exact own5 (uh HO5) (uh HXL) _ _ _ _ _
       have k6' : ∀ k, k ≠ g → w6.heap[k]? = w5.heap[k]? := fun k hk => by rw [h6]; exact far5 w5 g k _ _ _ _ _ _ _ _ _ _ hk
       have k6 : ∀ k, k ≠ V → k ≠ g → w6.heap[k]? = w2.heap[k]? := fun k n1 n2 => (k6' k n2).trans (uh HK5 k n1)
       have z6 : w6.heap.size = w2.heap.size := by rw [h6, siz5]; exact uh HZz
       have l6 : Lm w w6 P V lo := by rw [h6]; exact (((((uh HL5).trans (Lm.set (.inr hglo))).trans (Lm.set (.inr hglo))).trans (Lm.set (.inr hglo))).trans (Lm.set (.inr hglo))).trans (Lm.set (.inr hglo))
       have r6 := (k6' V (Ne.symm hgV)).trans (uh HR5)
       have q6 : w6.heap[Q]? = some (.cells #[.pointer (some ⟨P, 0, none⟩)] 131 (0, 0)) := (k6 Q hQV (by omega)).trans (uh HQ2)
       have HE : Hid (Bv w6 V lo kk ns (is ++ [j]) a1 c1 (some ⟨g, 0, none⟩) cap (xs ++ [.int .i64 jk, .int .i64 jn, .string (str jt), .slice ja1 jn1 jc1, .slice ja2 jn2 jc2])) := (uh HBDzv).push (uh HJDzv) (uh HO1).1 (uh HO1).2.1 (uh HO1).2.2.1 (uh HO1).2.2.2 (uh HG) (uh HAT) (uh HGL) r6 o6 k6 z6
       have HP6 : Hid (Pa w6 P T a' dd) := pa_keep (uh HPDzv) (uh HG) (fun k hk => (owns_lt (uh HBDzv).it k hk).1) k6 hPlo hPV hglo hg4 hgV4
       have HQ6 := hide q6
       have HL6 := hide l6
       clear k6 k6' r6 o6 z6 q6 l6
       go_simp
       rw [← h6]
       clear h6 e0 e1 e2 e3 e4 f0 f1 f2 f3 f4
       refine hK.out _ _ (cq_of (uh HQ6)) (fun hHeld => ?_)
       clear hK K
       try simp only [Act.put, xq4, xq5, xq6]
       refine wpAnyH_done (by kernel_rfl) ?_ _
       go_end0
       exact .inl ⟨j, a', a1, c1, _, _, _, uh HMo, rfl, uh HP6, uh HL6, uh HQ6, uh HE⟩
end Go.Proofs.YtmpjeahibfdehaaGreatDoor
end
section
set_option linter.unusedVariables false
set_option maxRecDepth 1000000
namespace Go.Proofs.YtmpjeahibfdehaaGreatDoor
open Go.RowKit

/-- No more is left than there was. -/
def VaL (V : List UInt8 → Rs Js) : Prop := ∀ l v r, V l = .ok v r → r.length ≤ l.length
def mbL (V : List UInt8 → Rs Js) (acc : List Js) (l : List UInt8) : Rs (List Js) := match V l with | .no r y => .no r y | .ok v r => .ok (acc ++ [v]) r
theorem li_me (V : List UInt8 → Rs Js) : ∀ (f : Nat) (acc : List Js) (l : List UInt8), liL V f acc l = meL (mbL V) f acc l
 | 0, acc, l => rfl
 | f + 1, acc, l => by
  rw [liL, meL, mbL]
  cases hV : V l with
  | no r y => rfl
  | ok v r =>
   simp only
   cases hs : skB r with
   | nil => rfl
   | cons c r2 =>
    simp only
    split
    ·exact li_me V f _ _
    ·rfl
theorem Bv.done {w : World} {V lo : Nat} {k : Int} {ns : List (List UInt8)} {is : List Js} {a1 : Option Addr} {c1 : Nat} {a2 : Option Addr} {c2 : Nat} {xs : List Value} (h : Bv w V lo k ns is a1 c1 a2 c2 xs) : JV w (fun b => lo ≤ b ∧ b < w.heap.size) (.agg #[.int .i64 k, .int .i64 0, .string ⟨#[]⟩, .slice a1 ns.length c1, .slice a2 is.length c2]) (.mk k 0 [] ns is) := by
 simp only [JV]
 have n1 : ns.length ≤ c1 ∧ c1 ≤ maxLen ∧ (a1 = none → c1 = 0) := by
  rcases owns_cases h.nm with ⟨rfl, rfl, h0, _⟩ | ⟨g, cur, rfl, _, _, h1, h2, _⟩
  ·exact ⟨by omega, by unfold maxLen; omega, fun _ => rfl⟩
  ·exact ⟨h1, h2, fun e => by cases e⟩
 have n2 : is.length ≤ c2 ∧ c2 ≤ maxLen ∧ (a2 = none → c2 = 0) := by
  rcases owns_cases h.it with ⟨rfl, rfl, h0, _⟩ | ⟨g, cur, rfl, _, _, h1, h2, _⟩
  ·exact ⟨by omega, by unfold maxLen; omega, fun _ => rfl⟩
  ·exact ⟨h1, h2, fun e => by cases e⟩
 refine ⟨a1, c1, a2, c2, rfl, ?_, n1.1, n1.2.1, n1.2.2, n2.1, n2.2.1, n2.2.2, ?_⟩
 ·intro hne
  rcases owns_cases h.nm with ⟨_, _, h0, _⟩ | ⟨g, cur, rfl, hb, hg, _⟩
  ·exact absurd (List.eq_nil_of_length_eq_zero h0) hne
  ·refine ⟨g, 0, rfl, ⟨hb, (aI hg).1⟩, fun i s hs => ?_⟩
   rw [Nat.zero_add]
   exact (owns_cell h.nm i _ (nsv_get ns i s hs)).1
 ·rw [jvs_iff]
  intro m j hj
  rw [Nat.zero_add]
  obtain ⟨v, ⟨v0, v1, v2, v3, v4, rfl, q0, q1, q2, q3, q4⟩, hv⟩ := h.el m j hj
  rcases owns_cases h.it with ⟨_, _, h0, _⟩ | ⟨g, cur, rfl, hb, hg, _⟩
  ·rw [List.eq_nil_of_length_eq_zero h0] at hj; simp at hj
  ·refine ⟨g, 0, v0, v1, v2, v3, v4, rfl, ⟨hb, (aI hg).1⟩, ?_, ?_, ?_, ?_, ?_, JV.keep (fun b hb => ⟨⟨hb.1, hb.2.1⟩, rfl⟩) j _ hv⟩
   ·rw [Nat.zero_add]; exact (owns_cell h.it _ _ q0).1
   ·rw [Nat.zero_add]; exact (owns_cell h.it _ _ q1).1
   ·rw [Nat.zero_add]; exact (owns_cell h.it _ _ q2).1
   ·rw [Nat.zero_add]; exact (owns_cell h.it _ _ q3).1
   ·rw [Nat.zero_add]; exact (owns_cell h.it _ _ q4).1
/-- A list, from behind its bracket on. -/
def liF (V : List UInt8 → Rs Js) (r : List UInt8) : Rs Js := match mmM 93 [] (fun l => liL V (l.length + 1) [] l) r with | .no r2 y => .no r2 y | .ok x r2 => .ok (.mk 4 0 [] [] x) r2
theorem liF_ok {V : List UInt8 → Rs Js} {r : List UInt8} {x : List Js} {r2 : List UInt8} (h : mmM 93 [] (fun l => liL V (l.length + 1) [] l) r = .ok x r2) : liF V r = .ok (.mk 4 0 [] [] x) r2 := by unfold liF; rw [h]
theorem liF_no {V : List UInt8 → Rs Js} {r : List UInt8} {r2 : List UInt8} {y : Nat} (h : mmM 93 [] (fun l => liL V (l.length + 1) [] l) r = .no r2 y) : liF V r = .no r2 y := by unfold liF; rw [h]
/-- The list's own state. -/
def LiI (P V Q lo : Nat) (w : World) (s : List Js) (n : Nat) : Prop := s.length ≤ n ∧ w.heap[Q]? = some (.cells #[.pointer (some ⟨P, 0, none⟩)] 131 (0, 0)) ∧ ∃ a1 c1 a2 c2 xs, Bv w V lo 4 [] s a1 c1 a2 c2 xs
theorem below3 (w : World) (A B C : Obj) : Below w.heap.size w (((w.alloc A).alloc B).alloc C) := (below2 w A B).alloc (by simp; omega) _
set_option maxHeartbeats 4000000 in
theorem list_any (P : Nat) (T : List UInt8) (d : Nat) (Vf : List UInt8 → Rs Js) (hV : VaC P T (d + 1) Vf) (hL : VaL Vf) (a : Nat) (r : List UInt8) (w : World) (h : Pa w P T a d) (hd : d < 16) (hl : T.drop a = 91 :: r) :
  Calls Tryz.prog 103 #[.pointer (some ⟨P, 0, none⟩)] w fun e w' => Po (fun j val w' => JV w' (Nw w w') val j) T w P d (liF Vf r) e w' := by
 obtain ⟨S, hS⟩ : ∃ S, S = w.heap.size := ⟨_, rfl⟩
 obtain ⟨W, hW⟩ : ∃ W, W = ((w.alloc (.cells #[.pointer (some ⟨P, 0, none⟩)] 131)).alloc (.cells #[.int .i64 0, .int .i64 0, .string ⟨#[]⟩, .slice none 0 0, .slice none 0 0] 44)).alloc (.cells #[.int .i64 4, .int .i64 0, .string ⟨#[]⟩, .slice none 0 0, .slice none 0 0] 44) := ⟨_, rfl⟩
 have hbW : Below w.heap.size w W := by rw [hW]; exact below3 _ _ _ _
 have hsW : W.heap.size = S + 3 := by rw [hW, hS]; simp
 have hQ : W.heap[S]? = some (.cells #[.pointer (some ⟨P, 0, none⟩)] 131 (0, 0)) := by
  rw [hW, hS, heap_alloc_old _ _ (by simp; omega), heap_alloc_old _ _ (by simp)]; exact heap_alloc_new _ _
 have hR : W.heap[S + 1]? = some (.cells #[.int .i64 0, .int .i64 0, .string ⟨#[]⟩, .slice none 0 0, .slice none 0 0] 44 (0, 0)) := by
  rw [hW, hS, heap_alloc_old _ _ (by simp)]; exact heap_alloc2_new _ _ _
 have hVr : W.heap[S + 2]? = some (.cells #[.int .i64 4, .int .i64 0, .string ⟨#[]⟩, .slice none 0 0, .slice none 0 0] 44 (0, 0)) := by
  rw [hW, hS]
  have e : w.heap.size + 2 = ((w.alloc (.cells #[.pointer (some ⟨P, 0, none⟩)] 131)).alloc (.cells #[.int .i64 0, .int .i64 0, .string ⟨#[]⟩, .slice none 0 0, .slice none 0 0] 44)).heap.size := by simp
  rw [e]; exact heap_alloc_new _ _
 have hPS : P < S := by rw [hS]; exact h.lt
 have hg := h.gp
 have hBv : Bv W (S + 2) (S + 3) 4 [] [] none 0 none 0 [] := ⟨hVr, World.ownsRow_nil W _ _ _, World.ownsRow_nil W _ _ _, fun m j hj => by simp at hj, by simp [blk], by simp [blk], fun k hk => by simp [blk] at hk⟩
 have HMem : Hid (∀ (w : World) (a : Nat) (s : List Js) (n : Nat), Pa w P T a (d + 1) → LiI P (S + 2) S (S + 3) w s n → S + 3 ≤ w.heap.size → n ≤ 65536 → Calls Tryz.prog 139 #[.pointer (some ⟨S + 2, 0, none⟩), .pointer (some ⟨S, 0, none⟩)] w fun e w' => (∃ s' a', mbL Vf s (T.drop a) = .ok s' (T.drop a') ∧ e = .returned (.tuple #[]) ∧ Pa w' P T a' (d + 1) ∧ Lm w w' P (S + 2) (S + 3) ∧ LiI P (S + 2) S (S + 3) w' s' (n + 1)) ∨ (∃ y a', mbL Vf s (T.drop a) = .no (T.drop a') y ∧ e = flt a' y ∧ a' ≤ T.length ∧ Lm w w' P (S + 2) (S + 3))) := by
  intro w a s n hp hi hz hn
  obtain ⟨hi1, hi2, a1, c1, a2, c2, xs, hi3⟩ := hi
  refine (list1_any P T (d + 1) Vf hV (S + 2) S (S + 3) a 4 [] s a1 c1 a2 c2 xs w hp hi3 hi2 (by omega) (by omega) (by omega) (by omega) (by omega) hz (by omega) (by omega) (by omega)).mono ?_
  rintro e w' (⟨j, a', b1, d1, b2, d2, ys, hM, rfl, hp', hlm, hq, hb⟩ | ⟨y, a', hM, rfl, h2, h3⟩)
  ·exact .inl ⟨s ++ [j], a', by simp only [mbL, hM], rfl, hp', hlm, by simp; omega, hq, b1, d1, b2, d2, ys, hb⟩
  ·exact .inr ⟨y, a', by simp only [mbL, hM], rfl, h2, h3⟩
 have hIk : ∀ w w' s n, LiI P (S + 2) S (S + 3) w s n → S + 3 ≤ w.heap.size → Mv w w' P → LiI P (S + 2) S (S + 3) w' s n := by
  rintro w w' s n ⟨h1, h2, a1, c1, a2, c2, xs, h3⟩ hz hm
  exact ⟨h1, (hm.block S (by omega) (fun e => by have := Option.some.inj e; omega)).trans h2, a1, c1, a2, c2, xs, h3.mv hm (by omega) (by omega)⟩
 have hlen : ∀ s l s' r, mbL Vf s l = .ok s' r → r.length ≤ l.length := by
  intro s l s' r hm
  unfold mbL at hm
  cases hv : Vf l with
  | no r y => rw [hv] at hm; cases hm
  | ok v r2 => rw [hv] at hm; simp only [Rs.ok.injEq] at hm; rw [← hm.2]; exact hL l v r2 hv
 have HME := hide (members_l P T d (S + 2) (S + 3) S 93 (mbL Vf) (LiI P (S + 2) S (S + 3)) hIk (uh HMem) hlen a [] 91 r W (h.below hbW) hd hl ⟨Nat.zero_le _, hQ, none, 0, none, 0, [], hBv⟩ (by omega))
 have hfun : (fun l => meL (mbL Vf) (l.length + 1) [] l) = (fun l => liL Vf (l.length + 1) [] l) := funext fun l => (li_me Vf _ _ _).symm
 rw [hfun] at HME
 obtain ⟨R2, hR2⟩ : ∃ R2, R2 = liF Vf r := ⟨_, rfl⟩
 have HOK : Hid (∀ x r2, mmM 93 [] (fun l => liL Vf (l.length + 1) [] l) r = .ok x r2 → R2 = .ok (.mk 4 0 [] [] x) r2) := fun x r2 hx => by rw [hR2]; exact liF_ok hx
 have HNO : Hid (∀ r2 y, mmM 93 [] (fun l => liL Vf (l.length + 1) [] l) r = .no r2 y → R2 = .no r2 y) := fun r2 y hx => by rw [hR2]; exact liF_no hx
 rw [← hR2]
 have HQ := hide hQ
 have HR := hide hR
 have cQ : W.cell? ⟨S, 0, none⟩ = some (.pointer (some ⟨P, 0, none⟩)) := cq_of hQ
 have HbW := hide hbW
 have HS := hide hS
 have HsW := hide hsW
 have HPS := hide hPS
 rw [show ((93 : UInt8).toNat : Int) = 93 from rfl] at HME
 clear hBv HMem hIk hlen hfun hQ hR hVr hbW h hg hR2 hV hL hsW hPS hl
 have hmf : ∀ (fn : Fn) (first cap : Array Value) (w : World), (Instr.makeFunc fn first cap).run Tryz.prog w = .ok (.func fn first cap) w := fun _ _ _ _ => rfl
 go_enter Tryz.func103, Tryz.ntmps103
 go_upto_region 2 with fail
 rw [← hW, ← hS]
 clear hW hS
 go_wp2_with fail
 refine (uh HME).mono ?_
 rintro e w5 (⟨s, a5, n, hM5, rfl, hP5, hL5, hI5⟩ | ⟨y, a5, hM5, rfl, h2, h3⟩)
 rotate_left 1
 ·refine ⟨rfl, Po.nay (uh HNO _ _ hM5) h2 ?_⟩
  exact ⟨h3.os.trans (uh HbW).os, h3.tape.trans (uh HbW).tape, h3.output.trans (uh HbW).output, Nat.le_trans (uh HbW).size h3.size, fun k hk hn => (h3.block k (by have := uh HS; omega) (fun e => hn (by rw [e])) (by have := uh HS; omega)).trans ((uh HbW).block k hk)⟩
 ·obtain ⟨_, _, a1, c1, a2, c2, xs, hB⟩ := hI5
  have r5 := hB.row
  have g0 : w5.cell? ⟨S + 2, 0, none⟩ = some (.int .i64 4) := cR6 r5
  have g1 : w5.cell? ⟨S + 2, 1, none⟩ = some (.int .i64 0) := cR6 r5
  have g2 : w5.cell? ⟨S + 2, 2, none⟩ = some (.string ⟨#[]⟩) := cR6 r5
  have g3 : w5.cell? ⟨S + 2, 3, none⟩ = some (.slice a1 0 c1) := cR6 r5
  have g4 : w5.cell? ⟨S + 2, 4, none⟩ = some (.slice a2 s.length c2) := cR6 r5
  have R5 : w5.heap[S + 1]? = some (.cells #[.int .i64 0, .int .i64 0, .string ⟨#[]⟩, .slice none 0 0, .slice none 0 0] 44 (0, 0)) := (hL5.block (S + 1) (by omega) (by have := uh HPS; omega) (by omega)).trans (uh HR)
  have q0 : w5.cell? ⟨S + 1, 0, none⟩ = some (.int .i64 0) := cR6 R5
  have q1 : w5.cell? ⟨S + 1, 1, none⟩ = some (.int .i64 0) := cR6 R5
  have q2 : w5.cell? ⟨S + 1, 2, none⟩ = some (.string ⟨#[]⟩) := cR6 R5
  have q3 : w5.cell? ⟨S + 1, 3, none⟩ = some (.slice none 0 0) := cR6 R5
  have q4 : w5.cell? ⟨S + 1, 4, none⟩ = some (.slice none 0 0) := cR6 R5
  have fz : ∀ j, w5.frozen? ⟨S + 1, j, none⟩ = false := fun j => frozen_of_row _ _ _ _ _ R5
  have f0 := fz 0
  have f1 := fz 1
  have f2 := fz 2
  have f3 := fz 3
  have f4 := fz 4
  obtain ⟨w6, h6⟩ : ∃ w6, w6 = ((((w5.setCell ⟨S + 1, 0, none⟩ (.int .i64 4)).setCell ⟨S + 1, 1, none⟩ (.int .i64 0)).setCell ⟨S + 1, 2, none⟩ (.string ⟨#[]⟩)).setCell ⟨S + 1, 3, none⟩ (.slice a1 0 c1)).setCell ⟨S + 1, 4, none⟩ (.slice a2 s.length c2) := ⟨_, rfl⟩
  have k6 : ∀ k, k ≠ S + 1 → w6.heap[k]? = w5.heap[k]? := fun k hk => by rw [h6]; exact far5 w5 (S + 1) k _ _ _ _ _ _ _ _ _ _ hk
  have z6 : w6.heap.size = w5.heap.size := by rw [h6]; exact siz5 w5 _ _ _ _ _ _ _ _ _ _ _
  have R6 : w6.heap[S + 1]? = some (.cells #[.int .i64 4, .int .i64 0, .string ⟨#[]⟩, .slice a1 0 c1, .slice a2 s.length c2] 44 (0, 0)) := by
   rw [h6]
   exact hS6 (hS6 (hS6 (hS6 (hS6 R5))))
  have t0 : w6.cell? ⟨S + 1, 0, none⟩ = some (.int .i64 4) := cR6 R6
  have t1 : w6.cell? ⟨S + 1, 1, none⟩ = some (.int .i64 0) := cR6 R6
  have t2 : w6.cell? ⟨S + 1, 2, none⟩ = some (.string ⟨#[]⟩) := cR6 R6
  have t3 : w6.cell? ⟨S + 1, 3, none⟩ = some (.slice a1 0 c1) := cR6 R6
  have t4 : w6.cell? ⟨S + 1, 4, none⟩ = some (.slice a2 s.length c2) := cR6 R6
  have HJ : Hid (JV w6 (Nw w w6) (.agg #[.int .i64 4, .int .i64 0, .string ⟨#[]⟩, .slice a1 0 c1, .slice a2 s.length c2]) (.mk 4 0 [] [] s)) := JV.keep (fun k hk => ⟨⟨by have := uh HS; omega, by omega⟩, k6 k (by omega)⟩) _ _ hB.done
  have hgp := hP5.gp
  have HP6 : Hid (Pa w6 P T a5 d) := { hP5 with row := (k6 P (by have := uh HPS; omega)).trans hP5.row, tb := hP5.tb.keep (fun k hk => k6 k (by have := uh HPS; rcases hk with rfl | rfl <;> omega)) }
  have HM6 : Hid (Mv w w6 P) := ⟨by rw [h6]; exact hL5.os.trans (uh HbW).os, by rw [h6]; exact hL5.tape.trans (uh HbW).tape, by rw [h6]; exact hL5.output.trans (uh HbW).output, by rw [z6]; exact Nat.le_trans (uh HbW).size hL5.size, fun k hk hn => (k6 k (by have := uh HS; omega)).trans ((hL5.block k (by have := uh HS; omega) (fun e => hn (by rw [e])) (by have := uh HS; omega)).trans ((uh HbW).block k hk))⟩
  have HM := hide hM5
  clear hB r5 R5 fz k6 z6 R6 hP5 hL5 hM5 HME cQ HR HQ
  go_wp2_with fail
  rw [← h6]
  clear h6
  refine ⟨rfl, .agg #[.int .i64 4, .int .i64 0, .string ⟨#[]⟩, .slice a1 0 c1, .slice a2 s.length c2], by simp [results, Tryz.results103, go_sem, t0, t1, t2, t3, t4], ?_⟩
  exact Po.yes (uh HOK _ _ (uh HM)) (uh HP6) (uh HM6) (uh HJ)
end Go.Proofs.YtmpjeahibfdehaaGreatDoor
end
