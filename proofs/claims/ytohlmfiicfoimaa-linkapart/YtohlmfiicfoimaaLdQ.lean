/-
  link: where Conns' row lies; a call that came in by value.
-/
import Derived.Test.YtohlmfiicfoimaaLdP
set_option linter.unusedVariables false
namespace Go.Proofs.Ytohlmfiicfoimaa
open Go.RowKit Go.Maps Go.Sort Go.Shelf Go.WideShapes Go.ChangeShapes

theorem irow_loc {w : World} {base n : Nat} {v : Value} {l : List Int} (h : w.ownsRow base 3 1 v n (l.map encZ)) : ∃ a c, v = .slice a l.length c ∧ IRow w a l ∧ ∀ b, blk a = some b → base ≤ b ∧ b < w.heap.size := by
  have hlen : l.length = n := by have := h.1; simpa using this
  rcases h.2 with ⟨hv, hn⟩ | ⟨g, cap, cur, hv, hb, hg, hle, hm, hs, ht⟩
  · refine ⟨none, 0, ?_, fun hne => absurd (List.eq_nil_of_length_eq_zero (by omega)) hne, fun b hb => by simp [blk] at hb⟩
    rw [hv, hlen, hn]
  · refine ⟨some ⟨g, 0, none⟩, cap, by rw [hlen]; exact hv, fun hne => ⟨g, 0, rfl, fun i s hi => ?_⟩, fun b hb' => by simp [blk] at hb'; subst hb'; exact ⟨hb, (Array.getElem?_eq_some_iff.1 hg).1⟩⟩
    have hlt := (List.getElem?_eq_some_iff.1 hi).1
    rw [cell_of_row w g (0 + i) cur _ (0, 0) hg, Nat.zero_add]
    have h1 : (cur.toList.take (n * 1))[i]? = (l.map encZ)[i]? := by rw [ht]
    rw [List.getElem?_take, if_pos (by omega), List.getElem?_map, hi] at h1
    simpa [encZ] using h1
set_option maxHeartbeats 2000000 in
theorem pconns_loc {w : World} {g : Nat → Tag} {N bm base : Nat} {M : Nm} {P : Nat → Pg} (h : PN w g N bm base M P) (hM : Mok M) :
    Calls Try.prog 11 #[.pointer (some ⟨N, 0, none⟩)] w fun e w' => ∃ a c l, e = .returned (.slice a l.length c) ∧ Hid (l = M.ids) ∧ Hid (IRow w' a l) ∧ Hid (Below w.heap.size w w') ∧ Hid (∀ b, blk a = some b → w.heap.size ≤ b ∧ b < w'.heap.size) := by
  obtain ⟨n, D, h⟩ := h
  have e0 := h.nt.n0
  have hsl := h.nt.own.size_le
  have hn := h.hn
  have hlim := hM.lim
  have HS := hide (sortedI_c bm n D _ w h.nt.own (by unfold maxLen; omega) (by omega))
  have HK := hide (h.keys hM)
  have HM := hide hM
  clear h hM
  go_enter Try.func11, Try.ntmps11
  go_wp2_with (first
    | (go_at_call 36; refine (unmade_not N bm w e0).mono ?_; rintro e w1 ⟨rfl, hw1⟩; have hw1 := hw1.symm; subst hw1)
    | (go_at_call 38; refine (keysI_c (some bm) w).mono ?_; rintro e w2 ⟨rfl, rfl⟩)
    | (go_at_call 37; refine (unhide HS).mono ?_; rintro e w3 ⟨v, ss, rfl, hperm, hrow, hnil, hb⟩))
  go_ret
  obtain ⟨a, c, rfl, hir, hlo⟩ := irow_loc hrow
  have hp : (ss.mergeSort (fun x y => decide (x ≤ y))).Perm M.ids := ((List.mergeSort_perm ss _).trans hperm).trans (unhide HK)
  have he : ss.mergeSort (fun x y => decide (x ≤ y)) = M.ids := List.Perm.eq_of_pairwise (le := fun a b : Int => a ≤ b) (fun a b _ _ h1 h2 => by omega) ((List.pairwise_mergeSort (fun a b c h1 h2 => by simp at *; omega) (fun a b => by simp; omega) ss).imp (fun h => by simpa using h)) ((unhide HM).ids_rise.imp (fun h => by omega)) hp
  refine ⟨a, c, _, rfl, he, hir, ?_, fun b hb => ⟨by have := (hlo b hb).1; simp at this; omega, (hlo b hb).2⟩⟩
  have h1 : Below w.heap.size w (w.alloc (.cells #[.map (some bm)] 57)) := (Below.refl _ _).alloc (Nat.le_refl _) _
  exact h1.trans (hb.mono h1.size)
theorem np_connsl {w0 w : World} {N bm X : Nat} {Mp Mr : Nm} {T : Nat} {Z : Nat → Prop} (h : NQ w0 w N bm X Mp Mr T Z) (hM : Mok Mp) :
    Calls Try.prog 11 #[.pointer (some ⟨N, 0, none⟩)] w fun e w' => ∃ a c l, e = .returned (.slice a l.length c) ∧ Hid (l = Mp.ids) ∧ Hid (IRow w' a l) ∧ Hid (Below w.heap.size w w') ∧ Hid (∀ b, blk a = some b → w.heap.size ≤ b ∧ b < w'.heap.size) := by
  obtain ⟨g, P, R, h1, _⟩ := h
  exact pconns_loc h1 hM
theorem IRow.belowq {w w' : World} {B : Nat} {a : Option Addr} {l : List Int} (h : IRow w a l) (hb : Below B w w') (hB : w.heap.size ≤ B) : IRow w' a l := by
  intro hne
  obtain ⟨b, off, rfl, hc⟩ := h hne
  exact ⟨b, off, rfl, fun i s hi => by rw [hb.cell (Nat.lt_of_lt_of_le (World.block_lt_of_cell? w _ (hc i s hi)) hB)]; exact hc i s hi⟩
theorem IRow.zs {w w' : World} {a : Option Addr} {l : List Int} {Z : Nat → Prop} (h : IRow w a l) (hz : ZS w w' Z) (hb : ∀ b, blk a = some b → Z b) : IRow w' a l := by
  intro hne
  obtain ⟨b, off, rfl, hc⟩ := h hne
  exact ⟨b, off, rfl, fun i s hi => (World.cell?_of_block (a := ⟨b, off + i, none⟩) (hz.2 b (hb b rfl))).trans (hc i s hi)⟩
set_option maxRecDepth 100000 in
/-- A call that came in by value. -/
theorem dv_open {H : Type} {enc : TypeId × Value → H} {w : World} {base : Nat} {v : Value} {d : DataW H} {p : List MemPlace} (hv : Value.okWide Try.prog w .any base 33 v)
    (h : DataW.Trod enc Try.prog w 0 (fun _ => true) true 33 v d p) : ∃ (d : Dl) (x : Option Addr) (c : Nat), v = .agg #[.int .i64 d.o, .int .i64 d.i, .int .i64 d.a, .int .i64 d.b, .slice x d.l.length c] ∧ DlV w d x c := by
  obtain ⟨cs, rfl, hsz⟩ := okWide_struct Try.underlying33 hv
  obtain ⟨fuel, hf⟩ := h
  obtain ⟨d, x, c, hcs, hd⟩ := dl_el hf
  refine ⟨d, x, c, ?_, hd⟩
  simp [Value.cells, dlCells] at hcs
  obtain ⟨l⟩ := cs
  simp at hcs
  rw [hcs]
#print axioms pconns_loc
#print axioms dv_open
end Go.Proofs.Ytohlmfiicfoimaa
