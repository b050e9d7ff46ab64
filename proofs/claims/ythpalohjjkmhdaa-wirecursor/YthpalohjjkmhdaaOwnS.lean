/-
  SLICES OF SLICES OF BYTES THAT A CALL MAKES ITSELF.
-/
import Derived.Test.YthpalohjjkmhdaaSlc
set_option linter.unusedVariables false
namespace Go.Proofs.Ythpalohjjkmhdaa
open Go.RowKit

abbrev Sl := Option Addr × Nat × Nat
def sls (l : List Sl) : List Value := l.map fun x => .slice x.1 x.2.1 x.2.2
theorem sls_length (l : List Sl) : (sls l).length = l.length := by simp [sls]
theorem sls_append (l r : List Sl) : sls (l ++ r) = sls l ++ sls r := by simp [sls]
theorem sls_get (l : List Sl) (i : Nat) (x : Sl) (h : l[i]? = some x) : (sls l)[i]? = some (.slice x.1 x.2.1 x.2.2) := by simp [sls, h]
theorem sls_one (l : List Sl) : ∀ u ∈ sls l, u.oneCell' = true := by
  intro u hu
  obtain ⟨_, _, rfl⟩ := List.mem_map.1 hu
  rfl
def OwnS (w : World) (base : Nat) (a : Option Addr) (cap : Nat) (l : List Sl) : Prop := w.ownsRow base 22 1 (.slice a l.length cap) l.length (sls l)

theorem OwnS.cases {w : World} {base : Nat} {a : Option Addr} {cap : Nat} {l : List Sl} (h : OwnS w base a cap l) :
    (a = none ∧ cap = 0 ∧ l = []) ∨ ∃ g cur, a = some ⟨g, 0, none⟩ ∧ base ≤ g ∧ w.heap[g]? = some (.cells cur 22 (0, 0)) ∧ l.length ≤ cap ∧ cap ≤ maxLen ∧ cur.size = cap ∧ cur.toList.take l.length = sls l := by
  rcases h.2 with ⟨hv, hn⟩ | ⟨g, cap', cur, hv, hb, hg, hle, hm, hs, ht⟩
  · simp only [Value.slice.injEq] at hv
    exact .inl ⟨hv.1, hv.2.2, List.eq_nil_of_length_eq_zero hn⟩
  · simp only [Value.slice.injEq, true_and] at hv
    obtain ⟨rfl, rfl⟩ := hv
    exact .inr ⟨g, cur, rfl, hb, hg, hle, hm, by simpa using hs, by simpa using ht⟩
theorem OwnS.some {w : World} {base : Nat} {a : Option Addr} {cap : Nat} {l : List Sl} (h : OwnS w base a cap l) (hl : 0 < l.length) :
    ∃ g, a = Option.some ⟨g, 0, none⟩ ∧ base ≤ g ∧ g < w.heap.size ∧ (∀ i, w.frozen? ⟨g, i, none⟩ = false) ∧ ∀ i x, l[i]? = Option.some x → w.cell? ⟨g, i, none⟩ = Option.some (.slice x.1 x.2.1 x.2.2) := by
  rcases h.cases with ⟨_, _, rfl⟩ | ⟨g, cur, rfl, hb, hg, hle, hm, hs, ht⟩
  · simp at hl
  · refine ⟨g, rfl, hb, (Array.getElem?_eq_some_iff.1 hg).1, fun i => frozen_of_row w g i _ _ hg, fun i x hx => ?_⟩
    have hi := (List.getElem?_eq_some_iff.1 hx).1
    rw [cell_of_row w g i cur _ (0, 0) hg, ← sls_get l i x hx, ← ht, List.getElem?_take, if_pos hi]
    simp
theorem OwnS.lt {w : World} {base : Nat} {a : Option Addr} {cap : Nat} {l : List Sl} (h : OwnS w base a cap l) : ∀ k, blk a = Option.some k → base ≤ k ∧ k < w.heap.size := by
  intro k hk
  rcases h.cases with ⟨rfl, rfl, rfl⟩ | ⟨g, cur, rfl, hb, hg, _⟩
  · simp [blk] at hk
  · simp [blk] at hk
    subst hk
    exact ⟨hb, (Array.getElem?_eq_some_iff.1 hg).1⟩
theorem OwnS.nil (w : World) (base : Nat) : OwnS w base none 0 [] := World.ownsRow_nil w base _ _
theorem OwnS.kept {w w' : World} {base : Nat} {a : Option Addr} {cap : Nat} {l : List Sl} (h : OwnS w base a cap l) {row : Option Nat} (hg : w.grownBy w' row) (hne : blk a = none ∨ blk a ≠ row) : OwnS w' base a cap l := by
  refine World.ownsRow.kept h hg ?_
  cases a with
  | none => exact .inl rfl
  | some x =>
    rcases hne with h' | h'
    · cases h'
    · exact .inr h'
theorem OwnS.alloc {w : World} {base : Nat} {a : Option Addr} {cap : Nat} {l : List Sl} (h : OwnS w base a cap l) (o : Obj) : OwnS (w.alloc o) base a cap l := World.ownsRow.alloc h o
theorem OwnS.below {w w' : World} {base B : Nat} {a : Option Addr} {cap : Nat} {l : List Sl} (h : OwnS w base a cap l) (hb : Below B w w') (hB : w.heap.size ≤ B) : OwnS w' base a cap l := by
  refine ⟨h.1, ?_⟩
  rcases h.2 with hn | ⟨g, cap, cur, hv, hbb, hgg, rest⟩
  · exact .inl hn
  · refine .inr ⟨g, cap, cur, hv, hbb, ?_, rest⟩
    rw [hb.block g (by have := (Array.getElem?_eq_some_iff.1 hgg).1; omega)]
    exact hgg
/-- A row of slices and a row of bytes lie in two blocks. -/
theorem OwnS.ne {w : World} {base base' : Nat} {a b : Option Addr} {cap cap' : Nat} {l : List Sl} {r : List UInt8} (h : OwnS w base a cap l) (k : OwnB w base' b cap' r) : blk a = none ∨ blk a ≠ blk b := by
  rcases h.cases with ⟨rfl, _, _⟩ | ⟨g, cur, rfl, _, hg, _⟩
  · exact .inl rfl
  · right
    rcases k.cases with ⟨rfl, _, _⟩ | ⟨g', cur', rfl, _, hg', _⟩
    · simp [blk]
    · intro e
      simp [blk] at e
      subst e
      rw [hg] at hg'
      simp at hg'
theorem OwnS.ne' {w : World} {base base' : Nat} {a b : Option Addr} {cap cap' : Nat} {l : List Sl} {r : List UInt8} (h : OwnS w base a cap l) (k : OwnB w base' b cap' r) : blk b = none ∨ blk b ≠ blk a := by
  rcases h.ne k with h | h
  · cases hb : blk b with
    | none => exact .inl rfl
    | some x => right; rw [h]; simp
  · exact .inr (Ne.symm h)
theorem Try.infoS : (Try.prog.info? 22).map (fun i => (i.zero, i.size, i.bytes)) = some (some (.slice none 0 0), 1, 24) := by kernel_rfl

/-- append(s, p), s the call's own row of slices. -/
theorem wp_apps1 (w : World) {ops : Array Oper} {rest : List Oper} {o : Oper} {a : Act} {Q : Exit → Act → World → Prop} (hgd : o.guard = none) (s x : Operand)
    (ho : o.op = .call { callee := .builtin .append, args := #[s, x], argTypes := #[26, 26] })
    (base : Nat) (a1 : Option Addr) (cap1 : Nat) (l1 : List Sl) (hs : a.eval s = .slice a1 l1.length cap1) (hown : OwnS w base a1 cap1 l1)
    (b cap2 : Nat) (n : Sl) (hx : a.eval x = .slice (some ⟨b, 0, none⟩) 1 cap2) (hsrc : w.cell? ⟨b, 0, none⟩ = some (.slice n.1 n.2.1 n.2.2))
    (hlen : l1.length ≤ 100000000) (hbase : base ≤ w.heap.size)
    (h : ∀ a' cap' r w', Hid (r = l1 ++ [n]) → OwnS w' base a' cap' r → w.grownBy w' (blk a1) → wpList Try.prog ops Q rest (a.put o.dst (.slice a' r.length cap')) w') : wpList Try.prog ops Q (o :: rest) a w := by
  obtain ⟨i, hi, hz0, hz1, hz2⟩ := info_parts Try.infoS
  have hblk : (Value.slice a1 l1.length cap1).ownBlock = blk a1 := by cases a1 <;> rfl
  refine wpList_append_own w hgd s x 26 ho base 22 i (.slice none 0 0) 1 24 Try.underlying26 hi hz0 hz1 hz2 rfl (by decide) _ _ _ hs hown ⟨b, 0, none⟩ 1 cap2 (sls [n]) hx (by simp [sls_length]) ?_ (sls_one [n]) (by unfold maxLen; omega) (by omega) hbase ?_
  · intro j u hu
    have hj : j < 1 := by
      have := (List.getElem?_eq_some_iff.1 hu).1
      simpa [sls_length] using this
    obtain rfl : j = 0 := by omega
    rw [sls_get [n] 0 n (by simp)] at hu
    obtain rfl := Option.some.inj hu
    rw [addr_add]
    exact hsrc
  · intro v' w' h1 h2 _
    have e1 : l1.length + 1 = (l1 ++ [n]).length := by simp
    have e2 : sls l1 ++ sls [n] = sls (l1 ++ [n]) := (sls_append l1 [n]).symm
    rw [e1, e2] at h1
    have hv : ∃ a' cap', v' = .slice a' (l1 ++ [n]).length cap' := by
      rcases h1.2 with ⟨hv, hn⟩ | ⟨g, cap, cur, hv, _⟩
      · exact ⟨none, 0, by rw [hv, hn]⟩
      · exact ⟨_, _, hv⟩
    obtain ⟨a', cap', rfl⟩ := hv
    rw [hblk] at h2
    exact h a' cap' (l1 ++ [n]) w' rfl h1 h2
theorem cell_lits (w : World) (a : Option Addr) (n c : Nat) : (w.alloc (.cells #[.slice a n c] 22)).cell? ⟨w.heap.size, 0, none⟩ = some (.slice a n c) := by
  rw [cell_of_row _ w.heap.size _ #[.slice a n c] 22 (0, 0) (heap_alloc_new w _)]
  rfl

/-- The slices hold these lists, each in a row of the call's own, no two in one. -/
structure Pays (w : World) (base : Nat) (vs : List Sl) (ps : List (List UInt8)) : Prop where
  len : vs.length = ps.length
  own : ∀ (i : Nat) (p : List UInt8), ps[i]? = some p → ∃ a cap, vs[i]? = some (a, p.length, cap) ∧ OwnB w base a cap p
  apart : ∀ (i j : Nat) (x y : Sl), i < j → vs[i]? = some x → vs[j]? = some y → ∀ g h : Nat, blk x.1 = some g → blk y.1 = some h → g < h
theorem Pays.nil (w : World) (base : Nat) : Pays w base [] [] := ⟨rfl, fun i p h => by simp at h, fun i j x y _ h => by simp at h⟩
theorem Pays.below {w w' : World} {base B : Nat} {vs : List Sl} {ps : List (List UInt8)} (h : Pays w base vs ps) (hb : Below B w w') (hB : w.heap.size ≤ B) : Pays w' base vs ps :=
  ⟨h.len, fun i p hp => by obtain ⟨a, cap, h1, h2⟩ := h.own i p hp; exact ⟨a, cap, h1, h2.below hb hB⟩, h.apart⟩
theorem Pays.alloc {w : World} {base : Nat} {vs : List Sl} {ps : List (List UInt8)} (h : Pays w base vs ps) (o : Obj) : Pays (w.alloc o) base vs ps :=
  ⟨h.len, fun i p hp => by obtain ⟨a, cap, h1, h2⟩ := h.own i p hp; exact ⟨a, cap, h1, h2.alloc o⟩, h.apart⟩
/-- Something that is written in a row of slices changes no list. -/
theorem Pays.kept {w w' : World} {base base' : Nat} {vs us : List Sl} {ps : List (List UInt8)} {a : Option Addr} {cap : Nat} (h : Pays w base vs ps) (hS : OwnS w base' a cap us) (hg : w.grownBy w' (blk a)) : Pays w' base vs ps :=
  ⟨h.len, fun i p hp => by obtain ⟨b, c, h1, h2⟩ := h.own i p hp; exact ⟨b, c, h1, h2.kept hg (hS.ne' h2)⟩, h.apart⟩
theorem Pays.snoc {w w' : World} {base : Nat} {vs : List Sl} {ps : List (List UInt8)} {a : Option Addr} {cap : Nat} {p : List UInt8} (h : Pays w base vs ps) (hb : Below w.heap.size w w') (hbase : base ≤ w.heap.size) (ho : OwnB w' w.heap.size a cap p) : Pays w' base (vs ++ [(a, p.length, cap)]) (ps ++ [p]) := by
  have h' := h.below hb (Nat.le_refl _)
  refine ⟨by simp [h.len], fun i q hq => ?_, fun i j x y hij hx hy g k hg hk => ?_⟩
  · by_cases hi : i < ps.length
    · rw [List.getElem?_append_left hi] at hq
      obtain ⟨b, c, h1, h2⟩ := h'.own i q hq
      refine ⟨b, c, ?_, h2⟩
      rw [List.getElem?_append_left (by have := h.len; omega)]
      exact h1
    · have hi2 := (List.getElem?_eq_some_iff.1 hq).1
      simp at hi2
      obtain rfl : i = ps.length := by omega
      simp at hq
      subst hq
      refine ⟨a, cap, ?_, ho.base hbase⟩
      rw [← h.len]
      simp
  · have hj2 := (List.getElem?_eq_some_iff.1 hy).1
    simp at hj2
    rw [List.getElem?_append_left (by omega)] at hx
    by_cases hj : j < vs.length
    · rw [List.getElem?_append_left hj] at hy
      exact h.apart i j x y hij hx hy g k hg hk
    · obtain rfl : j = vs.length := by omega
      simp at hy
      subst hy
      have h1 := (ho.lt k hk).1
      have hi : i < ps.length := by have := (List.getElem?_eq_some_iff.1 hx).1; have := h.len; omega
      obtain ⟨b, c, e1, e2⟩ := h.own i _ (List.getElem?_eq_getElem hi)
      rw [hx] at e1
      obtain rfl := Option.some.inj e1
      have h2 := (e2.lt g hg).2
      omega

/-- b[E:], whatever b is. -/
theorem slice_tail (a : Option Addr) (cap E : Nat) (l : List UInt8) (hle : l.length ≤ cap) (h1 : E ≤ l.length) (hrow : l ≠ [] → ∃ b off, a = some ⟨b, off, none⟩) :
    ∃ a', (∀ w, (Instr.slice 22 (.slice a l.length cap) (some (.int .i64 (E : Int))) none none).run Try.prog w = .ok (.slice a' (l.drop E).length (cap - E)) w) ∧ ∀ w, Bs w a cap l → Bs w a' (cap - E) (l.drop E) := by
  refine ⟨if cap = E then a else a.map (·.add (E * 1)), fun w => ?_, fun w hB => ?_⟩
  · rw [run_slice_l (P := Try.prog) w 22 _ _ cap Try.elemB .i64 (E : Int) (by omega) (by omega), Try.sizeB]
    simp only [Result.andThen, sliced, Int.toNat_natCast, List.length_drop]
  · refine ⟨?_, by simp; have := hB.le; omega, by have := hB.most; omega, ?_⟩
    · by_cases hc : cap = E
      · intro h; exact absurd (List.drop_eq_nil_of_le (by omega)) h
      · rw [if_neg hc]
        by_cases hl : l = []
        · subst hl; intro h; simp at h
        · obtain ⟨b, off, rfl⟩ := hrow hl
          rw [Option.map_some, Nat.mul_one, addr_add]
          exact hB.row.drop E
    · intro h
      by_cases hc : cap = E
      · omega
      · rw [if_neg hc] at h
        have := hB.nz (by cases a <;> simp_all)
        omega
#print axioms wp_apps1
end Go.Proofs.Ythpalohjjkmhdaa
