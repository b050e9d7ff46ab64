/-
  SLICES OF WORDS, AND OF SLICES OF WORDS, THAT A CALL MAKES ITSELF.
-/
import Derived.Test.YthliodpihbbjfaaDoorOwn2
import Derived.Test.YthliodpihbbjfaaDoorCel
set_option linter.unusedVariables false
namespace Go.Proofs.YthliodpihbbjfaaDoor
open Go.RowKit

def OwnW (w : World) (base : Nat) (a : Option Addr) (cap : Nat) (l : List UInt32) : Prop := w.ownsRow base 110 1 (.slice a l.length cap) l.length (us l)

theorem OwnW.cases {w : World} {base : Nat} {a : Option Addr} {cap : Nat} {l : List UInt32} (h : OwnW w base a cap l) :
    (a = none ∧ cap = 0 ∧ l = []) ∨ ∃ g cur, a = some ⟨g, 0, none⟩ ∧ base ≤ g ∧ w.heap[g]? = some (.cells cur 110 (0, 0)) ∧ l.length ≤ cap ∧ cap ≤ maxLen ∧ cur.size = cap ∧ cur.toList.take l.length = us l := by
  rcases h.2 with ⟨hv, hn⟩ | ⟨g, cap', cur, hv, hb, hg, hle, hm, hs, ht⟩
  · simp only [Value.slice.injEq] at hv
    exact .inl ⟨hv.1, hv.2.2, List.eq_nil_of_length_eq_zero hn⟩
  · simp only [Value.slice.injEq, true_and] at hv
    obtain ⟨rfl, rfl⟩ := hv
    exact .inr ⟨g, cur, rfl, hb, hg, hle, hm, by simpa using hs, by simpa using ht⟩
/-- What is read at a place. -/
theorem OwnW.some {w : World} {base : Nat} {a : Option Addr} {cap : Nat} {l : List UInt32} (h : OwnW w base a cap l) (hl : 0 < l.length) :
    ∃ g, a = Option.some ⟨g, 0, none⟩ ∧ base ≤ g ∧ g < w.heap.size ∧ (∀ i, w.frozen? ⟨g, i, none⟩ = false) ∧ ∀ i, i < l.length → w.cell? ⟨g, i, none⟩ = Option.some (.int .u32 ((l.getD i 0).toNat : Int)) := by
  rcases h.cases with ⟨_, _, rfl⟩ | ⟨g, cur, rfl, hb, hg, hle, hm, hs, ht⟩
  · simp at hl
  · refine ⟨g, rfl, hb, (Array.getElem?_eq_some_iff.1 hg).1, fun i => frozen_of_row w g i _ _ hg, fun i hi => ?_⟩
    rw [cell_of_row w g i cur _ (0, 0) hg, ← us_get l i hi, ← ht, List.getElem?_take, if_pos hi]
    simp
theorem OwnW.lt {w : World} {base : Nat} {a : Option Addr} {cap : Nat} {l : List UInt32} (h : OwnW w base a cap l) : ∀ k, blk a = Option.some k → base ≤ k ∧ k < w.heap.size := by
  intro k hk
  rcases h.cases with ⟨rfl, rfl, rfl⟩ | ⟨g, cur, rfl, hb, hg, _⟩
  · simp [blk] at hk
  · simp [blk] at hk
    subst hk
    exact ⟨hb, (Array.getElem?_eq_some_iff.1 hg).1⟩
theorem OwnW.le {w : World} {base : Nat} {a : Option Addr} {cap : Nat} {l : List UInt32} (h : OwnW w base a cap l) : l.length ≤ cap ∧ cap ≤ maxLen := by
  rcases h.cases with ⟨rfl, rfl, rfl⟩ | ⟨g, cur, rfl, hb, hg, h1, h2, _⟩
  · simp
  · exact ⟨h1, h2⟩
theorem OwnW.nil (w : World) (base : Nat) : OwnW w base none 0 [] := World.ownsRow_nil w base _ _
theorem OwnW.kept {w w' : World} {base : Nat} {a : Option Addr} {cap : Nat} {l : List UInt32} (h : OwnW w base a cap l) {row : Option Nat} (hg : w.grownBy w' row) (hne : blk a = none ∨ blk a ≠ row) : OwnW w' base a cap l := by
  refine World.ownsRow.kept h hg ?_
  cases a with
  | none => exact .inl rfl
  | some x =>
    rcases hne with h' | h'
    · cases h'
    · exact .inr h'
theorem OwnW.alloc {w : World} {base : Nat} {a : Option Addr} {cap : Nat} {l : List UInt32} (h : OwnW w base a cap l) (o : Obj) : OwnW (w.alloc o) base a cap l := World.ownsRow.alloc h o
theorem OwnW.below {w w' : World} {base B : Nat} {a : Option Addr} {cap : Nat} {l : List UInt32} (h : OwnW w base a cap l) (hb : Below B w w') (hB : w.heap.size ≤ B) : OwnW w' base a cap l := by
  refine ⟨h.1, ?_⟩
  rcases h.2 with hn | ⟨g, cap, cur, hv, hbb, hgg, rest⟩
  · exact .inl hn
  · refine .inr ⟨g, cap, cur, hv, hbb, ?_, rest⟩
    rw [hb.block g (by have := (Array.getElem?_eq_some_iff.1 hgg).1; omega)]
    exact hgg
/-- A row of ints and a row of bytes lie in two blocks. -/
theorem OwnW.ne {w : World} {base base' : Nat} {a b : Option Addr} {cap cap' : Nat} {l : List UInt32} {r : List UInt8} (h : OwnW w base a cap l) (k : OwnB w base' b cap' r) : blk a = none ∨ blk a ≠ blk b := by
  rcases h.cases with ⟨rfl, _, _⟩ | ⟨g, cur, rfl, _, hg, _⟩
  · exact .inl rfl
  · right
    rcases k.cases with ⟨rfl, _, _⟩ | ⟨g', cur', rfl, _, hg', _⟩
    · simp [blk]
    · intro e
      simp [blk] at e
      subst e
      rw [hg] at hg'
      simp at hg'
theorem Tryd.infoW : (Tryd.prog.info? 110).map (fun i => (i.zero, i.size, i.bytes)) = some (some (.int .u32 0), 1, 4) := by kernel_rfl

theorem OwnW.base {w : World} {base base' : Nat} {a : Option Addr} {cap : Nat} {l : List UInt32} (h : OwnW w base a cap l) (hb : base' ≤ base) : OwnW w base' a cap l := by
  refine ⟨h.1, ?_⟩
  rcases h.2 with hn | ⟨g, cap, cur, hv, hbb, rest⟩
  · exact .inl hn
  · exact .inr ⟨g, cap, cur, hv, Nat.le_trans hb hbb, rest⟩
theorem us_one' (l : List UInt32) : ∀ u ∈ us l, u.oneCell' = true := by
  intro u hu
  obtain ⟨_, _, rfl⟩ := List.mem_map.1 hu
  rfl
/-- Words that lie from a block's start on. -/
def RowW (w : World) (b : Nat) (l : List UInt32) : Prop := ∀ i, i < l.length → w.cell? ⟨b, i, none⟩ = some (.int .u32 ((l.getD i 0).toNat : Int))
theorem RowW.below {w w' : World} {b B : Nat} {l : List UInt32} (h : RowW w b l) (hb : Below B w w') (hB : b < B) : RowW w' b l := fun i hi => by rw [hb.cell hB]; exact h i hi
theorem rowW_lit (w : World) (z : Int) (x : UInt32) (h : z = (x.toNat : Int)) : RowW (w.alloc (.cells #[.int .u32 z] 110)) w.heap.size [x] := by
  subst h
  intro i hi
  obtain rfl : i = 0 := by simpa using hi
  rw [cell_of_row _ w.heap.size _ #[.int .u32 (x.toNat : Int)] 110 (0, 0) (heap_alloc_new w _)]
  rfl

/-- append(s, x...) of words, s the call's own. -/
theorem wp_appw (w : World) {ops : Array Oper} {rest : List Oper} {o : Oper} {a : Act} {Q : Exit → Act → World → Prop} (hgd : o.guard = none) (s x : Operand)
    (ho : o.op = .call { callee := .builtin .append, args := #[s, x], argTypes := #[134, 134] })
    (base : Nat) (a1 : Option Addr) (cap1 : Nat) (l1 : List UInt32) (hs : a.eval s = .slice a1 l1.length cap1) (hown : OwnW w base a1 cap1 l1)
    (b n2 cap2 : Nat) (l2 : List UInt32) (hx : a.eval x = .slice (some ⟨b, 0, none⟩) n2 cap2) (hn2 : n2 = l2.length) (hsrc : RowW w b l2)
    (hlen : l1.length + l2.length ≤ 100000000) (hbase : base ≤ w.heap.size)
    (h : ∀ a' cap' r w', Hid (r = l1 ++ l2) → OwnW w' base a' cap' r → w.grownBy w' (blk a1) → wpList Tryd.prog ops Q rest (a.put o.dst (.slice a' r.length cap')) w') : wpList Tryd.prog ops Q (o :: rest) a w := by
  subst hn2
  obtain ⟨i, hi, hz0, hz1, hz2⟩ := info_parts Tryd.infoW
  have hblk : (Value.slice a1 l1.length cap1).ownBlock = blk a1 := by cases a1 <;> rfl
  refine wpList_append_own w hgd s x 134 ho base 110 i (.int .u32 0) 1 4 Tryd.underlying134 hi hz0 hz1 hz2 rfl (by decide) _ _ _ hs hown ⟨b, 0, none⟩ l2.length cap2 (us l2) hx (by simp [us_length]) ?_ (us_one' l2) (by unfold maxLen; omega) (by omega) hbase ?_
  · intro j u hu
    have hj : j < l2.length := by
      have := (List.getElem?_eq_some_iff.1 hu).1
      simpa [us_length] using this
    rw [us_get l2 j hj] at hu
    obtain rfl := Option.some.inj hu
    rw [addr_add, Nat.zero_add]
    exact hsrc j hj
  · intro v' w' h1 h2 _
    have e1 : l1.length + l2.length = (l1 ++ l2).length := by simp
    have e2 : us l1 ++ us l2 = us (l1 ++ l2) := by simp [us]
    rw [e1, e2] at h1
    have hv : ∃ a' cap', v' = .slice a' (l1 ++ l2).length cap' := by
      rcases h1.2 with ⟨hv, hn⟩ | ⟨g, cap, cur, hv, _⟩
      · exact ⟨none, 0, by rw [hv, hn]⟩
      · exact ⟨_, _, hv⟩
    obtain ⟨a', cap', rfl⟩ := hv
    rw [hblk] at h2
    exact h a' cap' (l1 ++ l2) w' rfl h1 h2
theorem OwnW.stored {w : World} {base g cap : Nat} {l : List UInt32} (h : OwnW w base (Option.some ⟨g, 0, none⟩) cap l) (j : Nat) (c : UInt32) (z : Int) (hz : z = (c.toNat : Int)) : OwnW (w.setCell ⟨g, j, none⟩ (.int .u32 z)) base (Option.some ⟨g, 0, none⟩) cap (l.set j c) := by
  subst hz
  have := World.ownsRow.stored h j (.int .u32 (c.toNat : Int))
  unfold OwnW
  rw [List.length_set]
  have e : us (l.set j c) = (us l).set j (.int .u32 (c.toNat : Int)) := by simp [us, List.map_set]
  rw [e]
  exact this.1
theorem ownW_lit (w : World) (base : Nat) (l : List UInt32) (hb : base ≤ w.heap.size) (hl : l.length ≤ 1000) (c : Array Value) (hc : c = (us l).toArray) : OwnW (w.alloc (.cells c 110)) base (some ⟨w.heap.size, 0, none⟩) l.length l := by
  subst hc
  refine ⟨by simp [us_length], .inr ⟨w.heap.size, l.length, (us l).toArray, rfl, hb, heap_alloc_new w _, Nat.le_refl _, by unfold maxLen; omega, by simp [us_length], ?_⟩⟩
  simp only [Nat.mul_one]
  exact List.take_of_length_le (by simp [us_length])
abbrev Sl := Option Addr × Nat × Nat
def sls (l : List Sl) : List Value := l.map fun x => .slice x.1 x.2.1 x.2.2
theorem sls_length (l : List Sl) : (sls l).length = l.length := by simp [sls]
theorem sls_append (l r : List Sl) : sls (l ++ r) = sls l ++ sls r := by simp [sls]
theorem sls_get (l : List Sl) (i : Nat) (x : Sl) (h : l[i]? = some x) : (sls l)[i]? = some (.slice x.1 x.2.1 x.2.2) := by simp [sls, h]
theorem sls_one (l : List Sl) : ∀ u ∈ sls l, u.oneCell' = true := by
  intro u hu
  obtain ⟨_, _, rfl⟩ := List.mem_map.1 hu
  rfl
def OwnT (w : World) (base : Nat) (a : Option Addr) (cap : Nat) (l : List Sl) : Prop := w.ownsRow base 134 1 (.slice a l.length cap) l.length (sls l)

theorem OwnT.cases {w : World} {base : Nat} {a : Option Addr} {cap : Nat} {l : List Sl} (h : OwnT w base a cap l) :
    (a = none ∧ cap = 0 ∧ l = []) ∨ ∃ g cur, a = some ⟨g, 0, none⟩ ∧ base ≤ g ∧ w.heap[g]? = some (.cells cur 134 (0, 0)) ∧ l.length ≤ cap ∧ cap ≤ maxLen ∧ cur.size = cap ∧ cur.toList.take l.length = sls l := by
  rcases h.2 with ⟨hv, hn⟩ | ⟨g, cap', cur, hv, hb, hg, hle, hm, hs, ht⟩
  · simp only [Value.slice.injEq] at hv
    exact .inl ⟨hv.1, hv.2.2, List.eq_nil_of_length_eq_zero hn⟩
  · simp only [Value.slice.injEq, true_and] at hv
    obtain ⟨rfl, rfl⟩ := hv
    exact .inr ⟨g, cur, rfl, hb, hg, hle, hm, by simpa using hs, by simpa using ht⟩
theorem OwnT.some {w : World} {base : Nat} {a : Option Addr} {cap : Nat} {l : List Sl} (h : OwnT w base a cap l) (hl : 0 < l.length) :
    ∃ g, a = Option.some ⟨g, 0, none⟩ ∧ base ≤ g ∧ g < w.heap.size ∧ (∀ i, w.frozen? ⟨g, i, none⟩ = false) ∧ ∀ i x, l[i]? = Option.some x → w.cell? ⟨g, i, none⟩ = Option.some (.slice x.1 x.2.1 x.2.2) := by
  rcases h.cases with ⟨_, _, rfl⟩ | ⟨g, cur, rfl, hb, hg, hle, hm, hs, ht⟩
  · simp at hl
  · refine ⟨g, rfl, hb, (Array.getElem?_eq_some_iff.1 hg).1, fun i => frozen_of_row w g i _ _ hg, fun i x hx => ?_⟩
    have hi := (List.getElem?_eq_some_iff.1 hx).1
    rw [cell_of_row w g i cur _ (0, 0) hg, ← sls_get l i x hx, ← ht, List.getElem?_take, if_pos hi]
    simp
theorem OwnT.lt {w : World} {base : Nat} {a : Option Addr} {cap : Nat} {l : List Sl} (h : OwnT w base a cap l) : ∀ k, blk a = Option.some k → base ≤ k ∧ k < w.heap.size := by
  intro k hk
  rcases h.cases with ⟨rfl, rfl, rfl⟩ | ⟨g, cur, rfl, hb, hg, _⟩
  · simp [blk] at hk
  · simp [blk] at hk
    subst hk
    exact ⟨hb, (Array.getElem?_eq_some_iff.1 hg).1⟩
theorem OwnT.nil (w : World) (base : Nat) : OwnT w base none 0 [] := World.ownsRow_nil w base _ _
theorem OwnT.kept {w w' : World} {base : Nat} {a : Option Addr} {cap : Nat} {l : List Sl} (h : OwnT w base a cap l) {row : Option Nat} (hg : w.grownBy w' row) (hne : blk a = none ∨ blk a ≠ row) : OwnT w' base a cap l := by
  refine World.ownsRow.kept h hg ?_
  cases a with
  | none => exact .inl rfl
  | some x =>
    rcases hne with h' | h'
    · cases h'
    · exact .inr h'
theorem OwnT.alloc {w : World} {base : Nat} {a : Option Addr} {cap : Nat} {l : List Sl} (h : OwnT w base a cap l) (o : Obj) : OwnT (w.alloc o) base a cap l := World.ownsRow.alloc h o
theorem OwnT.below {w w' : World} {base B : Nat} {a : Option Addr} {cap : Nat} {l : List Sl} (h : OwnT w base a cap l) (hb : Below B w w') (hB : w.heap.size ≤ B) : OwnT w' base a cap l := by
  refine ⟨h.1, ?_⟩
  rcases h.2 with hn | ⟨g, cap, cur, hv, hbb, hgg, rest⟩
  · exact .inl hn
  · refine .inr ⟨g, cap, cur, hv, hbb, ?_, rest⟩
    rw [hb.block g (by have := (Array.getElem?_eq_some_iff.1 hgg).1; omega)]
    exact hgg
/-- A row of slices and a row of bytes lie in two blocks. -/
theorem OwnT.ne {w : World} {base base' : Nat} {a b : Option Addr} {cap cap' : Nat} {l : List Sl} {r : List UInt8} (h : OwnT w base a cap l) (k : OwnB w base' b cap' r) : blk a = none ∨ blk a ≠ blk b := by
  rcases h.cases with ⟨rfl, _, _⟩ | ⟨g, cur, rfl, _, hg, _⟩
  · exact .inl rfl
  · right
    rcases k.cases with ⟨rfl, _, _⟩ | ⟨g', cur', rfl, _, hg', _⟩
    · simp [blk]
    · intro e
      simp [blk] at e
      subst e
      rw [hg] at hg'
      simp at hg'
theorem OwnT.ne' {w : World} {base base' : Nat} {a b : Option Addr} {cap cap' : Nat} {l : List Sl} {r : List UInt8} (h : OwnT w base a cap l) (k : OwnB w base' b cap' r) : blk b = none ∨ blk b ≠ blk a := by
  rcases h.ne k with h | h
  · cases hb : blk b with
    | none => exact .inl rfl
    | some x => right; rw [h]; simp
  · exact .inr (Ne.symm h)
theorem Tryd.infoT : (Tryd.prog.info? 134).map (fun i => (i.zero, i.size, i.bytes)) = some (some (.slice none 0 0), 1, 24) := by kernel_rfl

/-- append(s, p), s the call's own row of slices. -/
theorem wp_appt1 (w : World) {ops : Array Oper} {rest : List Oper} {o : Oper} {a : Act} {Q : Exit → Act → World → Prop} (hgd : o.guard = none) (s x : Operand)
    (ho : o.op = .call { callee := .builtin .append, args := #[s, x], argTypes := #[140, 140] })
    (base : Nat) (a1 : Option Addr) (cap1 : Nat) (l1 : List Sl) (hs : a.eval s = .slice a1 l1.length cap1) (hown : OwnT w base a1 cap1 l1)
    (b cap2 : Nat) (n : Sl) (hx : a.eval x = .slice (some ⟨b, 0, none⟩) 1 cap2) (hsrc : w.cell? ⟨b, 0, none⟩ = some (.slice n.1 n.2.1 n.2.2))
    (hlen : l1.length ≤ 100000000) (hbase : base ≤ w.heap.size)
    (h : ∀ a' cap' r w', Hid (r = l1 ++ [n]) → OwnT w' base a' cap' r → w.grownBy w' (blk a1) → wpList Tryd.prog ops Q rest (a.put o.dst (.slice a' r.length cap')) w') : wpList Tryd.prog ops Q (o :: rest) a w := by
  obtain ⟨i, hi, hz0, hz1, hz2⟩ := info_parts Tryd.infoT
  have hblk : (Value.slice a1 l1.length cap1).ownBlock = blk a1 := by cases a1 <;> rfl
  refine wpList_append_own w hgd s x 140 ho base 134 i (.slice none 0 0) 1 24 Tryd.underlying140 hi hz0 hz1 hz2 rfl (by decide) _ _ _ hs hown ⟨b, 0, none⟩ 1 cap2 (sls [n]) hx (by simp [sls_length]) ?_ (sls_one [n]) (by unfold maxLen; omega) (by omega) hbase ?_
  · intro j u hu
    have hj : j < 1 := by
      have := (List.getElem?_eq_some_iff.1 hu).1
      simpa [sls_length] using this
    obtain rfl : j = 0 := by omega
    rw [sls_get [n] 0 n (by simp)] at hu
    obtain rfl := Option.some.inj hu
    rw [addr_add]
    exact hsrc
  · intro v' w' h1 h2 _
    have e1 : l1.length + 1 = (l1 ++ [n]).length := by simp
    have e2 : sls l1 ++ sls [n] = sls (l1 ++ [n]) := (sls_append l1 [n]).symm
    rw [e1, e2] at h1
    have hv : ∃ a' cap', v' = .slice a' (l1 ++ [n]).length cap' := by
      rcases h1.2 with ⟨hv, hn⟩ | ⟨g, cap, cur, hv, _⟩
      · exact ⟨none, 0, by rw [hv, hn]⟩
      · exact ⟨_, _, hv⟩
    obtain ⟨a', cap', rfl⟩ := hv
    rw [hblk] at h2
    exact h a' cap' (l1 ++ [n]) w' rfl h1 h2
theorem cell_litt (w : World) (a : Option Addr) (n c : Nat) : (w.alloc (.cells #[.slice a n c] 134)).cell? ⟨w.heap.size, 0, none⟩ = some (.slice a n c) := by
  rw [cell_of_row _ w.heap.size _ #[.slice a n c] 134 (0, 0) (heap_alloc_new w _)]
  rfl

theorem OwnT.neW {w : World} {base base' : Nat} {a b : Option Addr} {cap cap' : Nat} {l : List Sl} {r : List UInt32} (h : OwnT w base a cap l) (k : OwnW w base' b cap' r) : blk a = none ∨ blk a ≠ blk b := by
  rcases h.cases with ⟨rfl, _, _⟩ | ⟨g, cur, rfl, _, hg, _⟩
  · exact .inl rfl
  · right
    rcases k.cases with ⟨rfl, _, _⟩ | ⟨g', cur', rfl, _, hg', _⟩
    · simp [blk]
    · intro e
      simp [blk] at e
      subst e
      rw [hg] at hg'
      simp at hg'
theorem neSym {a b : Option Nat} (h : a = none ∨ a ≠ b) : b = none ∨ b ≠ a := by
  rcases h with h | h
  · cases hb : b with
    | none => exact .inl rfl
    | some x => right; rw [h]; simp
  · exact .inr (Ne.symm h)
theorem OwnT.stored {w : World} {base g cap : Nat} {l : List Sl} (h : OwnT w base (Option.some ⟨g, 0, none⟩) cap l) (j : Nat) (x : Sl) : OwnT (w.setCell ⟨g, j, none⟩ (.slice x.1 x.2.1 x.2.2)) base (Option.some ⟨g, 0, none⟩) cap (l.set j x) := by
  have := World.ownsRow.stored h j (.slice x.1 x.2.1 x.2.2)
  unfold OwnT
  rw [List.length_set]
  have e : sls (l.set j x) = (sls l).set j (.slice x.1 x.2.1 x.2.2) := by simp [sls, List.map_set]
  rw [e]
  exact this.1
#print axioms wp_appw
#print axioms wp_appt1
end Go.Proofs.YthliodpihbbjfaaDoor
