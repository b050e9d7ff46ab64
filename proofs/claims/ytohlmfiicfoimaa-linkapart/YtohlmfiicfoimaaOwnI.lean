/-
  SLICES OF ints THAT A CALL MAKES ITSELF.
-/
import Derived.Test.YtohlmfiicfoimaaOwn
set_option linter.unusedVariables false
namespace Go.Proofs.Ytohlmfiicfoimaa
open Go.RowKit

def is (l : List Nat) : List Value := l.map fun (c : Nat) => .int .i64 (c : Int)
theorem is_length (l : List Nat) : (is l).length = l.length := by simp [is]
theorem is_append (l r : List Nat) : is (l ++ r) = is l ++ is r := by simp [is]
theorem is_get (l : List Nat) (i : Nat) (h : i < l.length) : (is l)[i]? = some (.int .i64 ((l.getD i 0 : Nat) : Int)) := by simp [is, h]
theorem is_one (l : List Nat) : ∀ u ∈ is l, u.oneCell' = true := by
  intro u hu
  obtain ⟨_, _, rfl⟩ := List.mem_map.1 hu
  rfl
def OwnI (w : World) (base : Nat) (a : Option Addr) (cap : Nat) (l : List Nat) : Prop := w.ownsRow base 3 1 (.slice a l.length cap) l.length (is l)

theorem OwnI.cases {w : World} {base : Nat} {a : Option Addr} {cap : Nat} {l : List Nat} (h : OwnI w base a cap l) :
    (a = none ∧ cap = 0 ∧ l = []) ∨ ∃ g cur, a = some ⟨g, 0, none⟩ ∧ base ≤ g ∧ w.heap[g]? = some (.cells cur 3 (0, 0)) ∧ l.length ≤ cap ∧ cap ≤ maxLen ∧ cur.size = cap ∧ cur.toList.take l.length = is l := by
  rcases h.2 with ⟨hv, hn⟩ | ⟨g, cap', cur, hv, hb, hg, hle, hm, hs, ht⟩
  · simp only [Value.slice.injEq] at hv
    exact .inl ⟨hv.1, hv.2.2, List.eq_nil_of_length_eq_zero hn⟩
  · simp only [Value.slice.injEq, true_and] at hv
    obtain ⟨rfl, rfl⟩ := hv
    exact .inr ⟨g, cur, rfl, hb, hg, hle, hm, by simpa using hs, by simpa using ht⟩
/-- What is read at a place. -/
theorem OwnI.some {w : World} {base : Nat} {a : Option Addr} {cap : Nat} {l : List Nat} (h : OwnI w base a cap l) (hl : 0 < l.length) :
    ∃ g, a = Option.some ⟨g, 0, none⟩ ∧ base ≤ g ∧ g < w.heap.size ∧ ∀ i, i < l.length → w.cell? ⟨g, i, none⟩ = Option.some (.int .i64 ((l.getD i 0 : Nat) : Int)) := by
  rcases h.cases with ⟨_, _, rfl⟩ | ⟨g, cur, rfl, hb, hg, hle, hm, hs, ht⟩
  · simp at hl
  · refine ⟨g, rfl, hb, (Array.getElem?_eq_some_iff.1 hg).1, fun i hi => ?_⟩
    rw [cell_of_row w g i cur _ (0, 0) hg, ← is_get l i hi, ← ht, List.getElem?_take, if_pos hi]
    simp
theorem OwnI.lt {w : World} {base : Nat} {a : Option Addr} {cap : Nat} {l : List Nat} (h : OwnI w base a cap l) : ∀ k, blk a = Option.some k → base ≤ k ∧ k < w.heap.size := by
  intro k hk
  rcases h.cases with ⟨rfl, rfl, rfl⟩ | ⟨g, cur, rfl, hb, hg, _⟩
  · simp [blk] at hk
  · simp [blk] at hk
    subst hk
    exact ⟨hb, (Array.getElem?_eq_some_iff.1 hg).1⟩
theorem OwnI.le {w : World} {base : Nat} {a : Option Addr} {cap : Nat} {l : List Nat} (h : OwnI w base a cap l) : l.length ≤ cap ∧ cap ≤ maxLen := by
  rcases h.cases with ⟨rfl, rfl, rfl⟩ | ⟨g, cur, rfl, hb, hg, h1, h2, _⟩
  · simp
  · exact ⟨h1, h2⟩
theorem OwnI.nil (w : World) (base : Nat) : OwnI w base none 0 [] := World.ownsRow_nil w base _ _
theorem OwnI.kept {w w' : World} {base : Nat} {a : Option Addr} {cap : Nat} {l : List Nat} (h : OwnI w base a cap l) {row : Option Nat} (hg : w.grownBy w' row) (hne : blk a = none ∨ blk a ≠ row) : OwnI w' base a cap l := by
  refine World.ownsRow.kept h hg ?_
  cases a with
  | none => exact .inl rfl
  | some x =>
    rcases hne with h' | h'
    · cases h'
    · exact .inr h'
theorem OwnI.alloc {w : World} {base : Nat} {a : Option Addr} {cap : Nat} {l : List Nat} (h : OwnI w base a cap l) (o : Obj) : OwnI (w.alloc o) base a cap l := World.ownsRow.alloc h o
theorem OwnI.below {w w' : World} {base B : Nat} {a : Option Addr} {cap : Nat} {l : List Nat} (h : OwnI w base a cap l) (hb : Below B w w') (hB : w.heap.size ≤ B) : OwnI w' base a cap l := by
  refine ⟨h.1, ?_⟩
  rcases h.2 with hn | ⟨g, cap, cur, hv, hbb, hgg, rest⟩
  · exact .inl hn
  · refine .inr ⟨g, cap, cur, hv, hbb, ?_, rest⟩
    rw [hb.block g (by have := (Array.getElem?_eq_some_iff.1 hgg).1; omega)]
    exact hgg
/-- A row of ints and a row of bytes lie in two blocks. -/
theorem OwnI.ne {w : World} {base base' : Nat} {a b : Option Addr} {cap cap' : Nat} {l : List Nat} {r : List UInt8} (h : OwnI w base a cap l) (k : OwnB w base' b cap' r) : blk a = none ∨ blk a ≠ blk b := by
  rcases h.cases with ⟨rfl, _, _⟩ | ⟨g, cur, rfl, _, hg, _⟩
  · exact .inl rfl
  · right
    rcases k.cases with ⟨rfl, _, _⟩ | ⟨g', cur', rfl, _, hg', _⟩
    · simp [blk]
    · intro e
      simp [blk] at e
      subst e
      rw [hg] at hg'
      simp at hg'
theorem Try.infoI : (Try.prog.info? 3).map (fun i => (i.zero, i.size, i.bytes)) = some (some (.int .i64 0), 1, 8) := by kernel_rfl

/-- append(s, n), s the call's own. -/
theorem wp_appi (w : World) {ops : Array Oper} {rest : List Oper} {o : Oper} {a : Act} {Q : Exit → Act → World → Prop} (hgd : o.guard = none) (s x : Operand)
    (ho : o.op = .call { callee := .builtin .append, args := #[s, x], argTypes := #[37, 37] })
    (base : Nat) (a1 : Option Addr) (cap1 : Nat) (l1 : List Nat) (hs : a.eval s = .slice a1 l1.length cap1) (hown : OwnI w base a1 cap1 l1)
    (b cap2 n : Nat) (hx : a.eval x = .slice (some ⟨b, 0, none⟩) 1 cap2) (hsrc : w.cell? ⟨b, 0, none⟩ = some (.int .i64 (n : Int)))
    (hlen : l1.length ≤ 100000000) (hbase : base ≤ w.heap.size)
    (h : ∀ a' cap' r w', Hid (r = l1 ++ [n]) → OwnI w' base a' cap' r → w.grownBy w' (blk a1) → wpList Try.prog ops Q rest (a.put o.dst (.slice a' r.length cap')) w') : wpList Try.prog ops Q (o :: rest) a w := by
  obtain ⟨i, hi, hz0, hz1, hz2⟩ := info_parts Try.infoI
  have hblk : (Value.slice a1 l1.length cap1).ownBlock = blk a1 := by cases a1 <;> rfl
  refine wpList_append_own w hgd s x 37 ho base 3 i (.int .i64 0) 1 8 Try.underlying37 hi hz0 hz1 hz2 rfl (by decide) _ _ _ hs hown ⟨b, 0, none⟩ 1 cap2 (is [n]) hx (by simp [is_length]) ?_ (is_one [n]) (by unfold maxLen; omega) (by omega) hbase ?_
  · intro j u hu
    have hj : j < 1 := by
      have := (List.getElem?_eq_some_iff.1 hu).1
      simpa [is_length] using this
    obtain rfl : j = 0 := by omega
    rw [is_get [n] 0 (by simp)] at hu
    obtain rfl := Option.some.inj hu
    rw [addr_add]
    exact hsrc
  · intro v' w' h1 h2 _
    have e1 : l1.length + 1 = (l1 ++ [n]).length := by simp
    have e2 : is l1 ++ is [n] = is (l1 ++ [n]) := (is_append l1 [n]).symm
    rw [e1, e2] at h1
    have hv : ∃ a' cap', v' = .slice a' (l1 ++ [n]).length cap' := by
      rcases h1.2 with ⟨hv, hn⟩ | ⟨g, cap, cur, hv, _⟩
      · exact ⟨none, 0, by rw [hv, hn]⟩
      · exact ⟨_, _, hv⟩
    obtain ⟨a', cap', rfl⟩ := hv
    rw [hblk] at h2
    exact h a' cap' (l1 ++ [n]) w' rfl h1 h2
theorem cell_liti (w : World) (z : Int) (n : Nat) (h : z = (n : Int)) : (w.alloc (.cells #[.int .i64 z] 3)).cell? ⟨w.heap.size, 0, none⟩ = some (.int .i64 (n : Int)) := by
  subst h
  rw [cell_of_row _ w.heap.size _ #[.int .i64 (n : Int)] 3 (0, 0) (heap_alloc_new w _)]
  rfl
#print axioms wp_appi
end Go.Proofs.Ytohlmfiicfoimaa
