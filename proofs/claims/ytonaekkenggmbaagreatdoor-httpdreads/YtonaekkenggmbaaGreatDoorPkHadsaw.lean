/-
  A ROW OF BYTES OF ONE'S OWN THAT CAME OF A TEXT: its block may bear a mark behind its last cell: append onto it.
-/
import Derived.Test.YtonaekkenggmbaaGreatDoorPkHadsae
import Derived.ArgAppend
import Derived.Deep.Upon
import Derived.Lib.AppendStr
import Derived.Lib.ConvBytes
section
set_option linter.unusedVariables false
namespace Go.Proofs.YtonaekkenggmbaaGreatDoor
open Go.RowKit

/-- The slice lies at the front of a block of one's own (from 'base' on), none of whose cells is marked. -/
def Omg (w : World) (base : Nat) (x : Option Addr) (k : Nat) (l : List UInt8) : Prop :=
  ∃ b cur fz, x = some ⟨b, 0, none⟩ ∧ base ≤ b ∧ w.heap[b]? = some (.cells cur 5 fz) ∧ (∀ j, j < cur.size → ¬ (fz.1 ≤ j ∧ j < fz.2)) ∧ k ≤ cur.size ∧ l.length ≤ k ∧ k ≤ maxLen ∧ ∀ i, i < l.length → w.cell? ⟨b, i, none⟩ = some (.int .u8 ((l.getD i 0).toNat : Int))
theorem Omg.toBs {w : World} {base : Nat} {x : Option Addr} {k : Nat} {l : List UInt8} (h : Omg w base x k l) : Bs w x k l := by
  obtain ⟨b, cur, fz, rfl, h1, h2, h3, h4, h5, h6, h7⟩ := h
  exact ⟨fun _ => ⟨b, 0, rfl, fun i hi => by rw [Nat.zero_add]; exact h7 i hi⟩, h5, h6, fun h => by cases h⟩
theorem Omg.lt {w : World} {base : Nat} {x : Option Addr} {k : Nat} {l : List UInt8} (h : Omg w base x k l) : ∀ g, blk x = some g → base ≤ g ∧ g < w.heap.size := by
  intro g hg
  obtain ⟨b, cur, fz, rfl, h1, h2, _⟩ := h
  simp [blk] at hg
  subst hg
  exact ⟨h1, (Array.getElem?_eq_some_iff.1 h2).1⟩
theorem Omg.below {w w' : World} {B base : Nat} {x : Option Addr} {k : Nat} {l : List UInt8} (h : Omg w base x k l) (hb : Below B w w') (hB : w.heap.size ≤ B) : Omg w' base x k l := by
  obtain ⟨b, cur, fz, rfl, h1, h2, h3, h4, h5, h6, h7⟩ := h
  have e := hb.block b (Nat.lt_of_lt_of_le (Array.getElem?_eq_some_iff.1 h2).1 hB)
  exact ⟨b, cur, fz, rfl, h1, e.trans h2, h3, h4, h5, h6, fun i hi => (World.cell?_of_block (a := ⟨b, i, none⟩) e).trans (h7 i hi)⟩
theorem Omg.ofOwn {w : World} {base : Nat} {x : Option Addr} {k : Nat} {l : List UInt8} (h : OwnB w base x k l) (hx : x ≠ none) : Omg w base x k l := by
  rcases h.cases with ⟨rfl, _⟩ | ⟨g, cur, rfl, hb, hg, hle, hm, hs, ht⟩
  · exact absurd rfl hx
  · refine ⟨g, cur, (0, 0), rfl, hb, hg, fun j _ h => by simp at h, by omega, hle, hm, fun i hi => ?_⟩
    rw [cell_of_row w g i cur _ (0, 0) hg, ← bs_get l i hi, ← ht, List.getElem?_take, if_pos hi]
    simp
theorem frz {w : World} {b : Nat} {cur : Array Value} {t : TypeId} {fz : Nat × Nat} (h : w.heap[b]? = some (.cells cur t fz)) (j : Nat) (hj : ¬ (fz.1 ≤ j ∧ j < fz.2)) : w.frozen? ⟨b, j, none⟩ = false := by
  obtain ⟨lo, hi⟩ := fz
  simp only [World.frozen?, h, Bool.and_eq_false_iff, decide_eq_false_iff_not]
  simp only at hj
  omega
theorem gtr8 {a b c : World} {row : Option Nat} (h : a.grownBy b row) (k : b.grownBy c row) : a.grownBy c row :=
  ⟨k.os.trans h.os, k.tape.trans h.tape, k.output.trans h.output, Nat.le_trans h.size k.size, fun i hi hne => (k.block i (Nat.lt_of_lt_of_le hi h.size) hne).trans (h.block i hi hne)⟩
theorem setCells_grown8 (b : Nat) : ∀ (vs : List Value) (o : Nat) (w : World), w.grownBy (w.setCells b o vs) (some b)
  | [], _, w => World.grownBy.refl _ _
  | v :: r, o, w => gtr8 (gsc w ⟨b, o, none⟩ v) (setCells_grown8 b r (o + 1) (w.setCell ⟨b, o, none⟩ v))
theorem setCells_row8 (b : Nat) (T : TypeId) (fz : Nat × Nat) : ∀ (vs : List Value) (o : Nat) (w : World) (cur : Array Value), w.heap[b]? = some (.cells cur T fz) → ∃ cur', (w.setCells b o vs).heap[b]? = some (.cells cur' T fz) ∧ cur'.size = cur.size
  | [], _, w, cur, h => ⟨cur, h, rfl⟩
  | v :: r, o, w, cur, h => by
    have h0 : (w.setCell ⟨b, o, none⟩ v).heap[b]? = some (.cells (cur.setIfInBounds o v) T fz) := by
      rw [setCell_eq_setRow w b o cur T fz v h]
      exact setRow_heap w b cur _ T _ h
    obtain ⟨cur', h1, h2⟩ := setCells_row8 b T fz r (o + 1) (w.setCell ⟨b, o, none⟩ v) _ h0
    exact ⟨cur', h1, by rw [h2]; simp⟩
theorem omg_room {w : World} {base b k : Nat} {l l2 : List UInt8} (h : Omg w base (some ⟨b, 0, none⟩) k l) (hroom : l.length + l2.length ≤ k) :
    (∀ j, j < (bs l2).length → (w.cell? ⟨b, l.length + j, none⟩).isSome = true) ∧ (∀ j, j < (bs l2).length → w.frozen? ⟨b, l.length + j, none⟩ = false) ∧ Omg (w.setCells b l.length (bs l2)) base (some ⟨b, 0, none⟩) k (l ++ l2) := by
  obtain ⟨b', cur, fz, e, h1, h2, h3, h4, h5, h6, h7⟩ := h
  cases e
  have hsome : ∀ j, j < (bs l2).length → (w.cell? ⟨b, l.length + j, none⟩).isSome = true := by
    intro j hj
    rw [bs_length] at hj
    rw [cell_of_row w b _ _ _ _ h2, Array.getElem?_eq_getElem (by omega)]
    rfl
  refine ⟨hsome, fun j hj => frz h2 _ (h3 _ (by rw [bs_length] at hj; omega)), ?_⟩
  obtain ⟨cur', hc1, hc2⟩ := setCells_row8 b _ fz (bs l2) l.length w cur h2
  refine ⟨b, cur', fz, rfl, h1, hc1, fun j hj => h3 j (by omega), by omega, by simp; omega, h6, fun j hj => ?_⟩
  by_cases hjl : j < l.length
  · rw [World.cell?_setCells_out b _ _ _ _ (fun _ _ => Or.inl hjl), h7 j hjl]
    simp [List.getD_eq_getElem?_getD, hjl, List.getElem?_append_left hjl]
  · have hj2 : j - l.length < l2.length := by simp at hj; omega
    have := World.cell?_setCells_in b (bs l2) l.length w hsome (j - l.length) (by rw [bs_length]; exact hj2)
    rw [show l.length + (j - l.length) = j by omega] at this
    rw [this]
    have e2 := bs_get l2 (j - l.length) hj2
    rw [List.getElem?_eq_getElem (by rw [bs_length]; exact hj2)] at e2
    rw [e2]
    simp [List.getD_eq_getElem?_getD, List.getElem?_append_right (Nat.le_of_not_lt hjl)]
theorem omg_olds {w : World} {base b k : Nat} {l : List UInt8} (h : Omg w base (some ⟨b, 0, none⟩) k l) : ∀ j u, (bs l)[j]? = some u → w.cell? ((⟨b, 0, none⟩ : Addr).add j) = some u := by
  intro j u hu
  have hj : j < l.length := by
    have := (List.getElem?_eq_some_iff.1 hu).1
    simpa [bs_length] using this
  rw [bs_get l j hj] at hu
  obtain rfl := Option.some.inj hu
  obtain ⟨b', cur, fz, e, h1, h2, h3, h4, h5, h6, h7⟩ := h
  cases e
  rw [addr_add, Nat.zero_add]
  exact h7 j hj
/-- append(s, text...). -/
theorem run_apptext (ty : TypeId) (base b k : Nat) (l l2 : List UInt8) (w : World) (h : Omg w base (some ⟨b, 0, none⟩) k l) (hlen : l.length + l2.length ≤ 140737488355328) (hbase : base ≤ w.heap.size) :
    ∃ x' k' w', (Builtin.append_ #[28, 9] ty #[.slice (some ⟨b, 0, none⟩) l.length k, .string (str l2)]).run Tryz.prog w = .ok (.slice x' (l ++ l2).length k') w' ∧ Omg w' base x' k' (l ++ l2) ∧ w.grownBy w' (some b) := by
  obtain ⟨i, hi, hz0, hz1, hz2⟩ := info_parts Tryz.infoB
  have hmx : l.length + l2.length ≤ maxLen := by unfold maxLen; omega
  have hsz : (str l2).size = l2.length := str_size l2
  have hsc : Lib.strCells (str l2) = bs l2 := rfl
  by_cases hroom : l.length + l2.length ≤ k
  · obtain ⟨r1, r2, r3⟩ := omg_room h hroom
    refine ⟨some ⟨b, 0, none⟩, k, _, ?_, r3, setCells_grown8 b _ _ _⟩
    have hf := Lib.run_firstCells_string (P := Tryz.prog) w 1 (str l2)
    have hst := run_storeCells_cells (P := Tryz.prog) b l.length (bs l2) 0 w (by simpa using r1) (by simpa using r2) (bs_one l2)
    simp only [Nat.add_zero] at hst
    rw [List.length_append]
    rw [hsz, hsc] at hf
    simp [Builtin.append_, run_underlying Tryz.underlying28, run_underlying Tryz.underlying9, sizeOf, typeInfo, hi, hz1, Builtin.lenOf, hroom, hf, Addr.add_lit, hst, hsz]
  · have hr := Lib.run_append_grow_string (P := Tryz.prog) w 28 9 ty 5 i (.int .u8 0) Tryz.underlying28 Tryz.underlying9 hi hz0 ⟨b, 0, none⟩ l.length k (bs l) (by rw [hz1]; simp [bs_length]) (omg_olds h) (str l2) (by omega) (by rw [hsz]; omega) (by rw [hz2]; exact growslice_fits (by omega) (by omega))
    have hge := grownCap_ge w (l.length + (str l2).size) k 5
    have hcm := grownCap_le_maxLen w (l.length + (str l2).size) k 5 (by omega)
    have hll : (l ++ l2).length = l.length + (str l2).size := by rw [List.length_append, hsz]
    refine ⟨_, _, _, by rw [hll]; exact hr, Omg.ofOwn (k := grownCap w (l.length + (str l2).size) k 5) (base := base) ⟨by rw [bs_length]; omega, .inr ⟨w.heap.size, _, _, by rw [hll], hbase, heap_alloc_new w.drew _, by rw [hll]; exact hge, hcm, ?_, ?_⟩⟩ (by simp), ⟨rfl, rfl, rfl, by simp, fun k hk _ => Below.heap_alloc w.drew _ k hk⟩⟩
    · have hz1' : (Value.int IntKind.u8 0).cells.size = 1 := rfl
      simp only [Array.size_append, List.size_toArray, size_zeroCells, hz1', bs_length, Lib.strCells_length]
      omega
    · simp only [Array.toList_append, List.append_assoc]
      rw [hsc, ← List.append_assoc, ← bs_append, show (l ++ l2).length * 1 = (bs (l ++ l2)).length by rw [bs_length]; omega]
      exact List.take_left
/-- append(s, y...). -/
theorem run_appbytes (ty : TypeId) (base b k : Nat) (l : List UInt8) (a2 : Option Addr) (cap2 : Nat) (l2 : List UInt8) (w : World) (h : Omg w base (some ⟨b, 0, none⟩) k l) (hsrc : Row w a2 l2) (hnone : a2 = none → cap2 = 0) (hlen : l.length + l2.length ≤ 140737488355328) (hbase : base ≤ w.heap.size) :
    ∃ x' k' w', (Builtin.append_ #[28, 28] ty #[.slice (some ⟨b, 0, none⟩) l.length k, .slice a2 l2.length cap2]).run Tryz.prog w = .ok (.slice x' (l ++ l2).length k') w' ∧ Omg w' base x' k' (l ++ l2) ∧ w.grownBy w' (some b) := by
  obtain ⟨i, hi, hz0, hz1, hz2⟩ := info_parts Tryz.infoB
  have hmx : l.length + l2.length ≤ maxLen := by unfold maxLen; omega
  cases a2 with
  | none =>
    have hl2 : l2 = [] := by
      apply Classical.byContradiction
      intro hne
      obtain ⟨b, off, hh, _⟩ := hsrc hne
      cases hh
    subst hl2
    obtain rfl := hnone rfl
    have hle : l.length ≤ k := h.toBs.le
    refine ⟨some ⟨b, 0, none⟩, k, w, ?_, by simpa using h, World.grownBy.refl _ _⟩
    have := run_append_nothing (P := Tryz.prog) w 28 28 ty 5 i Tryz.underlying28 hi (some ⟨b, 0, none⟩) l.length k hle (.slice none 0 0) (Src.ofNil w Tryz.underlying28 0)
    simpa using this
  | some ad =>
    have hnews : ∀ j u, (bs l2)[j]? = some u → w.cell? (ad.add j) = some u := by
      intro j u hu
      have hj : j < l2.length := by
        have := (List.getElem?_eq_some_iff.1 hu).1
        simpa [bs_length] using this
      obtain ⟨b, off, hh, hc⟩ := hsrc (by intro e; subst e; simp at hj)
      obtain rfl := Option.some.inj hh
      rw [bs_get l2 j hj] at hu
      obtain rfl := Option.some.inj hu
      rw [addr_add]
      exact hc j hj
    by_cases hroom : l.length + l2.length ≤ k
    · obtain ⟨r1, r2, r3⟩ := omg_room h hroom
      have hrun := run_append_room_cells (P := Tryz.prog) w 28 ty 5 i Tryz.underlying28 hi b 0 l.length k ad l2.length cap2 (bs l2) (by rw [hz1]; simp [bs_length]) hnews (bs_one l2) hroom (fun j hj => by rw [hz1, Nat.zero_add, Nat.mul_one]; exact r1 j hj) (fun j hj => by rw [hz1, Nat.zero_add, Nat.mul_one]; exact r2 j hj)
      rw [hz1, Nat.zero_add, Nat.mul_one] at hrun
      exact ⟨some ⟨b, 0, none⟩, k, _, by rw [List.length_append]; exact hrun, r3, setCells_grown8 b _ _ _⟩
    · obtain ⟨v', w', hrun, r1, r2⟩ := run_append_arg_grows (P := Tryz.prog) w 28 ty 5 i (.int .u8 0) 1 1 Tryz.underlying28 hi hz0 hz1 hz2 rfl (by decide) ⟨b, 0, none⟩ l.length k (bs l) (by simp [bs_length]) (omg_olds h) ad l2.length cap2 (bs l2) (by simp [bs_length]) hnews (by omega) hmx (by omega)
      have e1 : l.length + l2.length = (l ++ l2).length := by simp
      rw [e1, ← bs_append] at r1
      have hv : ∃ ad' cap', v' = .slice (some ad') (l ++ l2).length cap' := by
        rcases r1.2 with ⟨hv, hn⟩ | ⟨g, cap, cur, hv, _⟩
        · have := h.toBs.le; omega
        · exact ⟨_, _, hv⟩
      obtain ⟨a', cap', rfl⟩ := hv
      have ro : OwnB w' w.heap.size (some a') cap' (l ++ l2) := r1
      exact ⟨some a', cap', w', hrun, Omg.ofOwn (ro.base hbase) (by simp), ⟨r2.os, r2.tape, r2.output, r2.size, fun j hj _ => r2.block j hj (by simp)⟩⟩
theorem wp_apptext (w : World) {ops : Array Oper} {rest : List Oper} {o : Oper} {a : Act} {Q : Exit → Act → World → Prop} (hgd : o.guard = none) (s y : Operand)
    (ho : o.op = .call { callee := .builtin .append, args := #[s, y], argTypes := #[28, 9] })
    (base b k : Nat) (l : List UInt8) (hs : a.eval s = .slice (some ⟨b, 0, none⟩) l.length k) (h : Omg w base (some ⟨b, 0, none⟩) k l) (l2 : List UInt8) (hx : a.eval y = .string (str l2))
    (hlen : l.length + l2.length ≤ 140737488355328) (hbase : base ≤ w.heap.size)
    (hK : ∀ b' k' r w', Hid (r = l ++ l2) → Hid (Omg w' base (some ⟨b', 0, none⟩) k' r) → Hid (w.grownBy w' (some b)) → wpList Tryz.prog ops Q rest (a.put o.dst (.slice (some ⟨b', 0, none⟩) r.length k')) w') : wpList Tryz.prog ops Q (o :: rest) a w := by
  refine wpList_plain hgd fun K hK' => ?_
  obtain ⟨x', k', w', hrun, r1, r2⟩ := run_apptext o.type base b k l l2 w h hlen hbase
  obtain ⟨b', cur, fz, rfl, rest⟩ := r1
  unfold Oper.wp
  simp only [execOp, ho, resolve, invoke, builtin]
  simp [hs, hx, hrun, Result.andThen]
  have := hK' _ _ (hK b' k' (l ++ l2) w' rfl ⟨b', cur, fz, rfl, rest⟩ r2)
  rw [List.length_append] at this
  exact this
theorem wp_appbytes (w : World) {ops : Array Oper} {rest : List Oper} {o : Oper} {a : Act} {Q : Exit → Act → World → Prop} (hgd : o.guard = none) (s y : Operand)
    (ho : o.op = .call { callee := .builtin .append, args := #[s, y], argTypes := #[28, 28] })
    (base b k : Nat) (l : List UInt8) (hs : a.eval s = .slice (some ⟨b, 0, none⟩) l.length k) (h : Omg w base (some ⟨b, 0, none⟩) k l) (a2 : Option Addr) (cap2 : Nat) (l2 : List UInt8) (hx : a.eval y = .slice a2 l2.length cap2) (hsrc : Row w a2 l2) (hnone : a2 = none → cap2 = 0)
    (hlen : l.length + l2.length ≤ 140737488355328) (hbase : base ≤ w.heap.size)
    (hK : ∀ b' k' r w', Hid (r = l ++ l2) → Hid (Omg w' base (some ⟨b', 0, none⟩) k' r) → Hid (w.grownBy w' (some b)) → wpList Tryz.prog ops Q rest (a.put o.dst (.slice (some ⟨b', 0, none⟩) r.length k')) w') : wpList Tryz.prog ops Q (o :: rest) a w := by
  refine wpList_plain hgd fun K hK' => ?_
  obtain ⟨x', k', w', hrun, r1, r2⟩ := run_appbytes o.type base b k l a2 cap2 l2 w h hsrc hnone hlen hbase
  obtain ⟨b', cur, fz, rfl, rest⟩ := r1
  unfold Oper.wp
  simp only [execOp, ho, resolve, invoke, builtin]
  simp [hs, hx, hrun, Result.andThen]
  have := hK' _ _ (hK b' k' (l ++ l2) w' rfl ⟨b', cur, fz, rfl, rest⟩ r2)
  rw [List.length_append] at this
  exact this
/-- []byte(text) is one's own. -/
theorem to_omg (l : List UInt8) (w : World) (hl : l.length ≤ 140737488355328) : ∃ V c, (convert 9 28 (.string (str l))).run Tryz.prog w = .ok (.slice (some ⟨w.heap.size, 0, none⟩) l.length c) V ∧ Below w.heap.size w V ∧ w.heap.size < V.heap.size ∧ Omg V w.heap.size (some ⟨w.heap.size, 0, none⟩) c l := by
  have hge := grownCap_ge w (str l).size 0 5
  have hle := grownCap_le_maxLen w (str l).size 0 5 (by rw [str_size]; unfold maxLen; omega)
  refine ⟨Lib.bytesWorld w 5 (str l), grownCap w (str l).size 0 5, ?_, ?_, ?_, ?_⟩
  · have := Lib.run_convert_string_bytes (P := Tryz.prog) w 9 28 5 (str l) Tryz.underlying9 Tryz.underlying28 Tryz.underlying5
    rw [this, str_size]
  · exact ⟨rfl, rfl, rfl, by rw [Lib.bytesWorld_size]; omega, fun k hk => Lib.bytesWorld_at_old w _ _ k hk⟩
  · rw [Lib.bytesWorld_size]; omega
  · refine ⟨w.heap.size, _, _, rfl, Nat.le_refl _, Lib.bytesWorld_at_new w 5 (str l), fun j hj h => by simp only at h; omega, ?_, by rw [str_size] at hge; exact hge, hle, fun i hi => ?_⟩
    · unfold Lib.bytesCells
      simp
      have : (str l).data.size = (str l).size := rfl
      omega
    · rw [Lib.bytesWorld_cell w _ (str l) i (by rw [str_size]; exact hi)]
      congr 2
#print axioms wp_apptext
#print axioms wp_appbytes
#print axioms to_omg
end Go.Proofs.YtonaekkenggmbaaGreatDoor
end
