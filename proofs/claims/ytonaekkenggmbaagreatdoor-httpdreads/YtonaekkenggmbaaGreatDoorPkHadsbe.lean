/-
  A ROW OF BYTES OF ONE'S OWN THAT MAY HAVE BEEN CUT AT ITS FRONT: append onto it (as LnoA, over httpd's Kp).
-/
import Derived.Test.YtonaekkenggmbaaGreatDoorPkHadsag
import Derived.Test.YtonaekkenggmbaaGreatDoorPkHadsac
import Derived.Deep.Upon
section
set_option linter.unusedVariables false
namespace Go.Proofs.YtonaekkenggmbaaGreatDoor
open Go.RowKit

theorem bs_none (w : World) : Bs w none 0 [] := ⟨fun h => absurd rfl h, Nat.le_refl _, by unfold maxLen; omega, fun _ => rfl⟩
/-- The slice is nil and holds nothing, or it lies somewhere in a block of one's own (from 'base' on), with its whole capacity. -/
def Cmg (w : World) (base : Nat) (x : Option Addr) (k : Nat) (l : List UInt8) : Prop :=
  (x = none ∧ k = 0 ∧ l = []) ∨ ∃ b off cur, x = some ⟨b, off, none⟩ ∧ base ≤ b ∧ w.heap[b]? = some (.cells cur 5 (0, 0)) ∧ off + k ≤ cur.size ∧ l.length ≤ k ∧ k ≤ maxLen ∧ ∀ i, i < l.length → w.cell? ⟨b, off + i, none⟩ = some (.int .u8 ((l.getD i 0).toNat : Int))

theorem Cmg.nil (w : World) (base : Nat) : Cmg w base none 0 [] := .inl ⟨rfl, rfl, rfl⟩
theorem Cmg.move {w w' : World} {base : Nat} {x : Option Addr} {k : Nat} {l : List UInt8} (h : Cmg w base x k l) (hb : ∀ g, blk x = some g → g < w.heap.size → w'.heap[g]? = w.heap[g]?) : Cmg w' base x k l := by
  rcases h with h | ⟨b, off, cur, rfl, h1, h2, h3, h4, h5, h6⟩
  · exact .inl h
  · have e := hb b rfl (Array.getElem?_eq_some_iff.1 h2).1
    exact .inr ⟨b, off, cur, rfl, h1, e.trans h2, h3, h4, h5, fun i hi => (World.cell?_of_block (a := ⟨b, off + i, none⟩) e).trans (h6 i hi)⟩
theorem Cmg.below {w w' : World} {B base : Nat} {x : Option Addr} {k : Nat} {l : List UInt8} (h : Cmg w base x k l) (hb : Below B w w') (hB : w.heap.size ≤ B) : Cmg w' base x k l :=
  h.move (fun g _ hg => hb.block g (Nat.lt_of_lt_of_le hg hB))
theorem Cmg.kept {w w' : World} {base : Nat} {x : Option Addr} {k : Nat} {l : List UInt8} (h : Cmg w base x k l) {row : Option Nat} (hg : w.grownBy w' row) (hne : ∀ g, blk x = some g → row ≠ some g) : Cmg w' base x k l :=
  h.move (fun g e hlt => hg.block g hlt (fun h => hne g e h.symm))
theorem Cmg.kp {w w' : World} {base : Nat} {x : Option Addr} {k : Nat} {l : List UInt8} {S : Nat → Prop} (h : Cmg w base x k l) (hk : Kp w w' S) (hs : ∀ g, blk x = some g → ¬ S g) : Cmg w' base x k l :=
  h.move (fun g e hlt => hk.block g hlt (hs g e))
theorem Cmg.lt {w : World} {base : Nat} {x : Option Addr} {k : Nat} {l : List UInt8} (h : Cmg w base x k l) : ∀ g, blk x = some g → base ≤ g ∧ g < w.heap.size := by
  intro g hg
  rcases h with ⟨rfl, _⟩ | ⟨b, off, cur, rfl, h1, h2, _⟩
  · simp [blk] at hg
  · simp [blk] at hg
    subst hg
    exact ⟨h1, (Array.getElem?_eq_some_iff.1 h2).1⟩
theorem Cmg.cells {w : World} {base : Nat} {x : Option Addr} {k : Nat} {l : List UInt8} (h : Cmg w base x k l) : ∀ g, blk x = some g → ∃ cur, w.heap[g]? = some (.cells cur 5 (0, 0)) := by
  intro g hg
  rcases h with ⟨rfl, _⟩ | ⟨b, off, cur, rfl, h1, h2, _⟩
  · simp [blk] at hg
  · simp [blk] at hg
    subst hg
    exact ⟨cur, h2⟩
theorem Cmg.toBs {w : World} {base : Nat} {x : Option Addr} {k : Nat} {l : List UInt8} (h : Cmg w base x k l) : Bs w x k l := by
  rcases h with ⟨rfl, rfl, rfl⟩ | ⟨b, off, cur, rfl, h1, h2, h3, h4, h5, h6⟩
  · exact bs_none w
  · exact ⟨fun _ => ⟨b, off, rfl, h6⟩, h4, h5, fun h => by cases h⟩
theorem Cmg.base {w : World} {base base' : Nat} {x : Option Addr} {k : Nat} {l : List UInt8} (h : Cmg w base x k l) (hb : base' ≤ base) : Cmg w base' x k l := by
  rcases h with h | ⟨b, off, cur, h0, h1, h2⟩
  · exact .inl h
  · exact .inr ⟨b, off, cur, h0, Nat.le_trans hb h1, h2⟩
theorem OwnB.toCmg {w : World} {base : Nat} {x : Option Addr} {k : Nat} {l : List UInt8} (h : OwnB w base x k l) : Cmg w base x k l := by
  have hb := h.toBs
  rcases h.cases with h | ⟨g, cur, rfl, h1, h2, h3, h4, h5, h6⟩
  · exact .inl h
  · refine .inr ⟨g, 0, cur, rfl, h1, h2, by omega, h3, h4, fun i hi => ?_⟩
    obtain ⟨b, off, e, hc⟩ := hb.row (by intro e; subst e; simp at hi)
    simp at e
    obtain ⟨rfl, rfl⟩ := e
    exact hc i hi
/-- The row without its first bytes. -/
theorem Cmg.drop {w : World} {base b off : Nat} {k : Nat} {l : List UInt8} (h : Cmg w base (some ⟨b, off, none⟩) k l) (M : Nat) (hM : M ≤ l.length) : Cmg w base (some ⟨b, off + M, none⟩) (k - M) (l.drop M) := by
  rcases h with ⟨h, _⟩ | ⟨b', off', cur, e, h1, h2, h3, h4, h5, h6⟩
  · cases h
  · simp at e
    obtain ⟨rfl, rfl⟩ := e
    refine .inr ⟨b, off + M, cur, rfl, h1, h2, by omega, by simp; omega, by omega, fun i hi => ?_⟩
    have hi' : M + i < l.length := by simp at hi; omega
    have := h6 (M + i) hi'
    rw [Nat.add_assoc, this]
    simp [List.getD_eq_getElem?_getD]

theorem gtrp {a b c : World} {row : Option Nat} (h : a.grownBy b row) (k : b.grownBy c row) : a.grownBy c row :=
  ⟨k.os.trans h.os, k.tape.trans h.tape, k.output.trans h.output, Nat.le_trans h.size k.size, fun i hi hn => (k.block i (Nat.lt_of_lt_of_le hi h.size) hn).trans (h.block i hi hn)⟩
theorem setCells_grown (b : Nat) : ∀ (vs : List Value) (o : Nat) (w : World), w.grownBy (w.setCells b o vs) (some b)
  | [], _, w => World.grownBy.refl _ _
  | v :: r, o, w => gtrp (gsc w ⟨b, o, none⟩ v) (setCells_grown b r (o + 1) (w.setCell ⟨b, o, none⟩ v))
theorem setCells_row (b : Nat) (T : TypeId) : ∀ (vs : List Value) (o : Nat) (w : World) (cur : Array Value), w.heap[b]? = some (.cells cur T (0, 0)) → ∃ cur', (w.setCells b o vs).heap[b]? = some (.cells cur' T (0, 0)) ∧ cur'.size = cur.size
  | [], _, w, cur, h => ⟨cur, h, rfl⟩
  | v :: r, o, w, cur, h => by
    obtain ⟨cur', h1, h2⟩ := setCells_row b T r (o + 1) (w.setCell ⟨b, o, none⟩ v) _ (heap_setCell_same w b o cur T v h)
    exact ⟨cur', h1, by rw [h2]; simp⟩

theorem run_appc (ty : TypeId) (base : Nat) (x : Option Addr) (k : Nat) (l : List UInt8) (a2 : Option Addr) (cap2 : Nat) (l2 : List UInt8) (w : World) (h : Cmg w base x k l) (hsrc : Row w a2 l2) (hnone : a2 = none → cap2 = 0)
    (hlen : l.length + l2.length ≤ 140737488355328) (hbase : base ≤ w.heap.size) :
    ∃ x' k' w', (Builtin.append_ #[28, 28] ty #[.slice x l.length k, .slice a2 l2.length cap2]).run Tryz.prog w = .ok (.slice x' (l ++ l2).length k') w' ∧ Cmg w' base x' k' (l ++ l2) ∧ w.grownBy w' (blk x) ∧ (blk x' = blk x ∨ ∀ g, blk x' = some g → w.heap.size ≤ g) := by
  obtain ⟨i, hi, hz0, hz1, hz2⟩ := info_parts Tryz.infoB
  have hmx : l.length + l2.length ≤ maxLen := by unfold maxLen; omega
  cases a2 with
  | none =>
    have hl2 : l2 = [] := by
      apply Classical.byContradiction
      intro hne
      obtain ⟨b, off, hh, _⟩ := hsrc hne
      cases hh
    subst hl2
    obtain rfl := hnone rfl
    have hle : l.length ≤ k := h.toBs.le
    refine ⟨x, k, w, ?_, by simpa using h, World.grownBy.refl _ _, .inl rfl⟩
    have := run_append_nothing (P := Tryz.prog) w 28 28 ty 5 i Tryz.underlying28 hi x l.length k hle (.slice none 0 0) (Src.ofNil w Tryz.underlying28 0)
    simpa using this
  | some ad =>
    have hnews : ∀ j u, (bs l2)[j]? = some u → w.cell? (ad.add j) = some u := by
      intro j u hu
      have hj : j < l2.length := by
        have := (List.getElem?_eq_some_iff.1 hu).1
        simpa [bs_length] using this
      obtain ⟨b, off, hh, hc⟩ := hsrc (by intro e; subst e; simp at hj)
      obtain rfl := Option.some.inj hh
      rw [bs_get l2 j hj] at hu
      obtain rfl := Option.some.inj hu
      rw [addr_add]
      exact hc j hj
    rcases h with ⟨rfl, rfl, rfl⟩ | ⟨b, off, cur, rfl, h1, h2, h3, h4, h5, h6⟩
    · obtain ⟨v', w', hrun, r1, r2, _⟩ := run_append_own (P := Tryz.prog) w w.heap.size 28 ty 5 i (.int .u8 0) 1 1 Tryz.underlying28 hi hz0 hz1 hz2 rfl (by decide) (.slice none 0 0) 0 [] (World.ownsRow_nil w w.heap.size _ _) ad l2.length cap2 (bs l2) (by simp [bs_length]) hnews (bs_one l2) (by simpa using hmx) (by simpa using hlen) (Nat.le_refl _)
      have e1 : 0 + l2.length = l2.length := by omega
      rw [e1, List.nil_append] at r1
      have hv : ∃ a' cap', v' = .slice a' l2.length cap' := by
        rcases r1.2 with ⟨hv, hn⟩ | ⟨g, cap, cur, hv, _⟩
        · exact ⟨none, 0, by rw [hv, hn]⟩
        · exact ⟨_, _, hv⟩
      obtain ⟨a', cap', rfl⟩ := hv
      have ro : OwnB w' w.heap.size a' cap' l2 := r1
      exact ⟨a', cap', w', by simpa using hrun, by simpa using (ro.base hbase).toCmg, by simpa [Value.ownBlock, blk] using r2, .inr (fun g hg => (ro.lt g hg).1)⟩
    · have holds : ∀ j u, (bs l)[j]? = some u → w.cell? ((⟨b, off, none⟩ : Addr).add j) = some u := by
        intro j u hu
        have hj : j < l.length := by
          have := (List.getElem?_eq_some_iff.1 hu).1
          simpa [bs_length] using this
        rw [bs_get l j hj] at hu
        obtain rfl := Option.some.inj hu
        rw [addr_add]
        exact h6 j hj
      by_cases hroom : l.length + l2.length ≤ k
      · have hsome : ∀ j, j < (bs l2).length → (w.cell? ⟨b, off + l.length * i.size + j, none⟩).isSome = true := by
          intro j hj
          rw [bs_length] at hj
          rw [cell_of_row w b _ _ _ _ h2, Array.getElem?_eq_getElem (by rw [hz1]; omega)]
          rfl
        have hrun := run_append_room_cells (P := Tryz.prog) w 28 ty 5 i Tryz.underlying28 hi b off l.length k ad l2.length cap2 (bs l2) (by rw [hz1]; simp [bs_length]) hnews (bs_one l2) hroom hsome (fun j _ => frozen_of_row w b _ _ _ h2)
        rw [hz1, Nat.mul_one] at hrun hsome
        obtain ⟨cur', hc1, hc2⟩ := setCells_row b _ (bs l2) (off + l.length) w cur h2
        refine ⟨some ⟨b, off, none⟩, k, _, by rw [List.length_append]; exact hrun, .inr ⟨b, off, cur', rfl, h1, hc1, by omega, by simp; omega, h5, fun j hj => ?_⟩, setCells_grown b _ _ _, .inl rfl⟩
        by_cases hjl : j < l.length
        · rw [World.cell?_setCells_out b _ _ _ _ (fun _ _ => Or.inl (by show off + j < off + l.length; omega)), h6 j hjl]
          simp [List.getD_eq_getElem?_getD, hjl, List.getElem?_append_left hjl]
        · have hj2 : j - l.length < l2.length := by simp at hj; omega
          have := World.cell?_setCells_in b (bs l2) (off + l.length) w hsome (j - l.length) (by rw [bs_length]; exact hj2)
          rw [show off + l.length + (j - l.length) = off + j by omega] at this
          rw [this]
          have e2 := bs_get l2 (j - l.length) hj2
          rw [List.getElem?_eq_getElem (by rw [bs_length]; exact hj2)] at e2
          rw [e2]
          simp [List.getD_eq_getElem?_getD, List.getElem?_append_right (Nat.le_of_not_lt hjl)]
      · obtain ⟨v', w', hrun, r1, r2⟩ := run_append_arg_grows (P := Tryz.prog) w 28 ty 5 i (.int .u8 0) 1 1 Tryz.underlying28 hi hz0 hz1 hz2 rfl (by decide) ⟨b, off, none⟩ l.length k (bs l) (by simp [bs_length]) holds ad l2.length cap2 (bs l2) (by simp [bs_length]) hnews (by omega) hmx (by omega)
        have e1 : l.length + l2.length = (l ++ l2).length := by simp
        rw [e1, ← bs_append] at r1
        have hv : ∃ a' cap', v' = .slice a' (l ++ l2).length cap' := by
          rcases r1.2 with ⟨hv, hn⟩ | ⟨g, cap, cur, hv, _⟩
          · exact ⟨none, 0, by rw [hv, hn]⟩
          · exact ⟨_, _, hv⟩
        obtain ⟨a', cap', rfl⟩ := hv
        have ro : OwnB w' w.heap.size a' cap' (l ++ l2) := r1
        exact ⟨a', cap', w', hrun, (ro.base hbase).toCmg, ⟨r2.os, r2.tape, r2.output, r2.size, fun j hj _ => r2.block j hj (by simp)⟩, .inr (fun g hg => (ro.lt g hg).1)⟩

/-- append(s, y...) onto such a row, in a walk. -/
theorem wp_appc (w : World) {ops : Array Oper} {rest : List Oper} {o : Oper} {a : Act} {Q : Exit → Act → World → Prop} (hgd : o.guard = none) (s y : Operand)
    (ho : o.op = .call { callee := .builtin .append, args := #[s, y], argTypes := #[28, 28] })
    (base : Nat) (x : Option Addr) (k : Nat) (l : List UInt8) (n : Nat) (hs : a.eval s = .slice x n k) (hn : n = l.length) (h : Cmg w base x k l)
    (a2 : Option Addr) (cap2 : Nat) (l2 : List UInt8) (n2 : Nat) (hx : a.eval y = .slice a2 n2 cap2) (hn2 : n2 = l2.length) (hsrc : Row w a2 l2) (hnone : a2 = none → cap2 = 0)
    (hlen : l.length + l2.length ≤ 140737488355328) (hbase : base ≤ w.heap.size)
    (hK : ∀ x' k' r w', Hid (r = l ++ l2) → Hid (Cmg w' base x' k' r) → Hid (w.grownBy w' (blk x)) → Hid (blk x' = blk x ∨ ∀ g, blk x' = some g → w.heap.size ≤ g) → wpList Tryz.prog ops Q rest (a.put o.dst (.slice x' r.length k')) w') : wpList Tryz.prog ops Q (o :: rest) a w := by
  subst hn hn2
  refine wpList_plain hgd fun K hK' => ?_
  obtain ⟨x', k', w', hrun, r1, r2, r3⟩ := run_appc o.type base x k l a2 cap2 l2 w h hsrc hnone hlen hbase
  unfold Oper.wp
  simp only [execOp, ho, resolve, invoke, builtin]
  simp [hs, hx, hrun, Result.andThen]
  have := hK' _ _ (hK x' k' (l ++ l2) w' rfl r1 r2 r3)
  rw [List.length_append] at this
  exact this
theorem stp_appc (w : World) {ops : Array Oper} {o : Oper} {a : Act} {K : Act → World → Prop} {Q : Exit → Act → World → Prop} {E : Prop} (hgd : o.guard = none) (s y : Operand)
    (ho : o.op = .call { callee := .builtin .append, args := #[s, y], argTypes := #[28, 28] })
    (base : Nat) (x : Option Addr) (k : Nat) (l : List UInt8) (n : Nat) (hs : a.eval s = .slice x n k) (hn : n = l.length) (h : Cmg w base x k l)
    (a2 : Option Addr) (cap2 : Nat) (l2 : List UInt8) (n2 : Nat) (hx : a.eval y = .slice a2 n2 cap2) (hn2 : n2 = l2.length) (hsrc : Row w a2 l2) (hnone : a2 = none → cap2 = 0)
    (hlen : l.length + l2.length ≤ 140737488355328) (hbase : base ≤ w.heap.size)
    (hK : ∀ x' k' r w', Hid (r = l ++ l2) → Hid (Cmg w' base x' k' r) → Hid (w.grownBy w' (blk x)) → Hid (blk x' = blk x ∨ ∀ g, blk x' = some g → w.heap.size ≤ g) → K (a.put o.dst (.slice x' r.length k')) w') :
    if Region.wanted o (yielded ops a.tmps) = true then Oper.wp Tryz.prog o a w K Q else E := by
  refine stp_of_list hgd (wp_appc w hgd s y ho base x k l n hs hn h a2 cap2 l2 n2 hx hn2 hsrc hnone hlen hbase ?_)
  intro x' k' r w' h1 h2 h3 h4
  exact ⟨rfl, hK x' k' r w' h1 h2 h3 h4⟩
#print axioms wp_appc
#print axioms stp_appc
end Go.Proofs.YtonaekkenggmbaaGreatDoor
end
