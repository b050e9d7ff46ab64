/-
  link: whose each block is (tags), the plain model of a net; rows of pointers to connections that a call makes itself.
-/
import Derived.Test.YtohlmfiicfoimaaLrA
set_option linter.unusedVariables false
namespace Go.Proofs.Ytohlmfiicfoimaa
open Go.RowKit Go.Maps

/-! ### Rows of pointers of one's own -/
def pq (l : List Nat) : List Value := l.map fun (c : Nat) => .pointer (some ⟨c, 0, none⟩)
theorem pq_length (l : List Nat) : (pq l).length = l.length := by simp [pq]
theorem pq_append (l r : List Nat) : pq (l ++ r) = pq l ++ pq r := by simp [pq]
theorem pq_get (l : List Nat) (i : Nat) (h : i < l.length) : (pq l)[i]? = some (.pointer (Option.some ⟨l.getD i 0, 0, none⟩)) := by simp [pq, h]
theorem pq_one (l : List Nat) : ∀ u ∈ pq l, u.oneCell' = true := by
  intro u hu
  obtain ⟨_, _, rfl⟩ := List.mem_map.1 hu
  rfl
def OwnQ (w : World) (base : Nat) (a : Option Addr) (cap : Nat) (l : List Nat) : Prop := w.ownsRow base 75 1 (.slice a l.length cap) l.length (pq l)

theorem OwnQ.cases {w : World} {base : Nat} {a : Option Addr} {cap : Nat} {l : List Nat} (h : OwnQ w base a cap l) :
    (a = none ∧ cap = 0 ∧ l = []) ∨ ∃ g cur, a = some ⟨g, 0, none⟩ ∧ base ≤ g ∧ w.heap[g]? = some (.cells cur 75 (0, 0)) ∧ l.length ≤ cap ∧ cap ≤ maxLen ∧ cur.size = cap ∧ cur.toList.take l.length = pq l := by
  rcases h.2 with ⟨hv, hn⟩ | ⟨g, cap', cur, hv, hb, hg, hle, hm, hs, ht⟩
  · simp only [Value.slice.injEq] at hv
    exact .inl ⟨hv.1, hv.2.2, List.eq_nil_of_length_eq_zero hn⟩
  · simp only [Value.slice.injEq, true_and] at hv
    obtain ⟨rfl, rfl⟩ := hv
    exact .inr ⟨g, cur, rfl, hb, hg, hle, hm, by simpa using hs, by simpa using ht⟩
/-- What pq read at a place. -/
theorem OwnQ.some {w : World} {base : Nat} {a : Option Addr} {cap : Nat} {l : List Nat} (h : OwnQ w base a cap l) (hl : 0 < l.length) :
    ∃ g, a = Option.some ⟨g, 0, none⟩ ∧ base ≤ g ∧ g < w.heap.size ∧ ∀ i, i < l.length → w.cell? ⟨g, i, none⟩ = Option.some (.pointer (Option.some ⟨l.getD i 0, 0, none⟩)) := by
  rcases h.cases with ⟨_, _, rfl⟩ | ⟨g, cur, rfl, hb, hg, hle, hm, hs, ht⟩
  · simp at hl
  · refine ⟨g, rfl, hb, (Array.getElem?_eq_some_iff.1 hg).1, fun i hi => ?_⟩
    rw [cell_of_row w g i cur _ (0, 0) hg, ← pq_get l i hi, ← ht, List.getElem?_take, if_pos hi]
    simp
theorem OwnQ.lt {w : World} {base : Nat} {a : Option Addr} {cap : Nat} {l : List Nat} (h : OwnQ w base a cap l) : ∀ k, blk a = Option.some k → base ≤ k ∧ k < w.heap.size := by
  intro k hk
  rcases h.cases with ⟨rfl, rfl, rfl⟩ | ⟨g, cur, rfl, hb, hg, _⟩
  · simp [blk] at hk
  · simp [blk] at hk
    subst hk
    exact ⟨hb, (Array.getElem?_eq_some_iff.1 hg).1⟩
theorem OwnQ.le {w : World} {base : Nat} {a : Option Addr} {cap : Nat} {l : List Nat} (h : OwnQ w base a cap l) : l.length ≤ cap ∧ cap ≤ maxLen := by
  rcases h.cases with ⟨rfl, rfl, rfl⟩ | ⟨g, cur, rfl, hb, hg, h1, h2, _⟩
  · simp
  · exact ⟨h1, h2⟩
theorem OwnQ.nil (w : World) (base : Nat) : OwnQ w base none 0 [] := World.ownsRow_nil w base _ _
theorem OwnQ.kept {w w' : World} {base : Nat} {a : Option Addr} {cap : Nat} {l : List Nat} (h : OwnQ w base a cap l) {row : Option Nat} (hg : w.grownBy w' row) (hne : blk a = none ∨ blk a ≠ row) : OwnQ w' base a cap l := by
  refine World.ownsRow.kept h hg ?_
  cases a with
  | none => exact .inl rfl
  | some x =>
    rcases hne with h' | h'
    · cases h'
    · exact .inr h'
theorem OwnQ.alloc {w : World} {base : Nat} {a : Option Addr} {cap : Nat} {l : List Nat} (h : OwnQ w base a cap l) (o : Obj) : OwnQ (w.alloc o) base a cap l := World.ownsRow.alloc h o
theorem OwnQ.below {w w' : World} {base B : Nat} {a : Option Addr} {cap : Nat} {l : List Nat} (h : OwnQ w base a cap l) (hb : Below B w w') (hB : w.heap.size ≤ B) : OwnQ w' base a cap l := by
  refine ⟨h.1, ?_⟩
  rcases h.2 with hn | ⟨g, cap, cur, hv, hbb, hgg, rest⟩
  · exact .inl hn
  · refine .inr ⟨g, cap, cur, hv, hbb, ?_, rest⟩
    rw [hb.block g (by have := (Array.getElem?_eq_some_iff.1 hgg).1; omega)]
    exact hgg
/-- A row of pointers and a row of bytes lie in two blocks. -/
theorem OwnQ.ne {w : World} {base base' : Nat} {a b : Option Addr} {cap cap' : Nat} {l : List Nat} {r : List UInt8} (h : OwnQ w base a cap l) (k : OwnB w base' b cap' r) : blk a = none ∨ blk a ≠ blk b := by
  rcases h.cases with ⟨rfl, _, _⟩ | ⟨g, cur, rfl, _, hg, _⟩
  · exact .inl rfl
  · right
    rcases k.cases with ⟨rfl, _, _⟩ | ⟨g', cur', rfl, _, hg', _⟩
    · simp [blk]
    · intro e
      simp [blk] at e
      subst e
      rw [hg] at hg'
      simp at hg'
theorem Try.infoQ : (Try.prog.info? 75).map (fun i => (i.zero, i.size, i.bytes)) = some (some (.pointer none), 1, 8) := by kernel_rfl

/-- append(s, n), s the call's own. -/
theorem wp_appq (w : World) {ops : Array Oper} {rest : List Oper} {o : Oper} {a : Act} {Q : Exit → Act → World → Prop} (hgd : o.guard = none) (s x : Operand)
    (ho : o.op = .call { callee := .builtin .append, args := #[s, x], argTypes := #[28, 28] })
    (base : Nat) (a1 : Option Addr) (cap1 : Nat) (l1 : List Nat) (hs : a.eval s = .slice a1 l1.length cap1) (hown : OwnQ w base a1 cap1 l1)
    (b cap2 n : Nat) (hx : a.eval x = .slice (some ⟨b, 0, none⟩) 1 cap2) (hsrc : w.cell? ⟨b, 0, none⟩ = some (.pointer (some ⟨n, 0, none⟩)))
    (hlen : l1.length ≤ 100000000) (hbase : base ≤ w.heap.size)
    (h : ∀ a' cap' r w', Hid (r = l1 ++ [n]) → OwnQ w' base a' cap' r → w.grownBy w' (blk a1) → wpList Try.prog ops Q rest (a.put o.dst (.slice a' r.length cap')) w') : wpList Try.prog ops Q (o :: rest) a w := by
  obtain ⟨i, hi, hz0, hz1, hz2⟩ := info_parts Try.infoQ
  have hblk : (Value.slice a1 l1.length cap1).ownBlock = blk a1 := by cases a1 <;> rfl
  refine wpList_append_own w hgd s x 28 ho base 75 i (.pointer none) 1 8 Try.underlying28 hi hz0 hz1 hz2 rfl (by decide) _ _ _ hs hown ⟨b, 0, none⟩ 1 cap2 (pq [n]) hx (by simp [pq_length]) ?_ (pq_one [n]) (by unfold maxLen; omega) (by omega) hbase ?_
  · intro j u hu
    have hj : j < 1 := by
      have := (List.getElem?_eq_some_iff.1 hu).1
      simpa [pq_length] using this
    obtain rfl : j = 0 := by omega
    rw [pq_get [n] 0 (by simp)] at hu
    obtain rfl := Option.some.inj hu
    rw [addr_add]
    exact hsrc
  · intro v' w' h1 h2 _
    have e1 : l1.length + 1 = (l1 ++ [n]).length := by simp
    have e2 : pq l1 ++ pq [n] = pq (l1 ++ [n]) := (pq_append l1 [n]).symm
    rw [e1, e2] at h1
    have hv : ∃ a' cap', v' = .slice a' (l1 ++ [n]).length cap' := by
      rcases h1.2 with ⟨hv, hn⟩ | ⟨g, cap, cur, hv, _⟩
      · exact ⟨none, 0, by rw [hv, hn]⟩
      · exact ⟨_, _, hv⟩
    obtain ⟨a', cap', rfl⟩ := hv
    rw [hblk] at h2
    exact h a' cap' (l1 ++ [n]) w' rfl h1 h2

theorem OwnQ.kp {w w' : World} {base : Nat} {a : Option Addr} {cap : Nat} {l : List Nat} {S : Nat → Prop} (h : OwnQ w base a cap l) (k : Kp w w' S) (hs : ∀ g, blk a = Option.some g → ¬ S g) : OwnQ w' base a cap l := by
  refine ⟨h.1, ?_⟩
  rcases h.2 with hn | ⟨g, cap, cur, hv, hbb, hgg, rest⟩
  · exact .inl hn
  · refine .inr ⟨g, cap, cur, hv, hbb, ?_, rest⟩
    have e : blk a = Option.some g := by simp only [Value.slice.injEq] at hv; rw [hv.1]; rfl
    rw [k.block g (Array.getElem?_eq_some_iff.1 hgg).1 (hs g e)]
    exact hgg
theorem OwnQ.toRow {w : World} {base : Nat} {a : Option Addr} {cap : Nat} {l : List Nat} (h : OwnQ w base a cap l) : PRow w a l := by
  intro hne
  obtain ⟨g, rfl, _, _, hc⟩ := h.some (List.length_pos_iff.2 hne)
  refine ⟨g, 0, rfl, fun i s hi => ?_⟩
  have hlt := (List.getElem?_eq_some_iff.1 hi).1
  rw [Nat.zero_add, hc i hlt, List.getD_eq_getElem?_getD, hi]
  rfl
theorem cell_litq (w : World) (s : Nat) : (w.alloc (.cells #[.pointer (some ⟨s, 0, none⟩)] 75)).cell? ⟨w.heap.size, 0, none⟩ = some (.pointer (some ⟨s, 0, none⟩)) := by
  rw [cell_of_row _ w.heap.size _ #[.pointer (some ⟨s, 0, none⟩)] 75 (0, 0) (heap_alloc_new w _)]
  rfl

/-! ### Tags: (0, 0) nobody's; (1, i) the program's connection i; (2, i) the document's; (3, 0) the program's net; (4, 0) the document's -/
abbrev Tag := Nat × Nat
structure Ty (w w' : World) (g g' : Nat → Tag) (S : Tag → Prop) : Prop where
  kp : Kp w w' (fun k => S (g k))
  tag : ∀ k, k < w.heap.size ∨ w'.heap.size ≤ k → g' k = g k
def Fr (g : Nat → Tag) (w : World) : Prop := ∀ k, w.heap.size ≤ k → g k = (0, 0)
theorem Ty.fr {w w' : World} {g g' : Nat → Tag} {S : Tag → Prop} (h : Ty w w' g g' S) (f : Fr g w) : Fr g' w' := fun k hk => (h.tag k (.inr hk)).trans (f k (Nat.le_trans h.kp.size hk))
theorem Ty.refl (w : World) (g : Nat → Tag) (S : Tag → Prop) : Ty w w g g S := ⟨Kp.of (Below.refl _ _), fun _ _ => rfl⟩
theorem Ty.of {w w' : World} (g : Nat → Tag) {S : Tag → Prop} (h : Below w.heap.size w w') : Ty w w' g g S := ⟨Kp.of h, fun _ _ => rfl⟩
theorem Ty.ofKp {w w' : World} {g : Nat → Tag} {S : Tag → Prop} {Q : Nat → Prop} (h : Kp w w' Q) (hq : ∀ k, Q k → S (g k)) : Ty w w' g g S := ⟨⟨h.os, h.tape, h.output, h.size, fun k hk hs => h.block k hk (fun hk' => hs (hq k hk'))⟩, fun _ _ => rfl⟩
theorem Ty.trans {w w1 w2 : World} {g g1 g2 : Nat → Tag} {S : Tag → Prop} (h : Ty w w1 g g1 S) (k : Ty w1 w2 g1 g2 S) : Ty w w2 g g2 S := by
  refine ⟨⟨k.kp.os.trans h.kp.os, k.kp.tape.trans h.kp.tape, k.kp.output.trans h.kp.output, Nat.le_trans h.kp.size k.kp.size, fun i hi hs => ?_⟩, fun i hi => ?_⟩
  · have h1 := Nat.lt_of_lt_of_le hi h.kp.size
    rw [k.kp.block i h1 (by rw [h.tag i (.inl hi)]; exact hs)]
    exact h.kp.block i hi hs
  · rcases hi with hi | hi
    · rw [k.tag i (.inl (Nat.lt_of_lt_of_le hi h.kp.size)), h.tag i (.inl hi)]
    · rw [k.tag i (.inr hi), h.tag i (.inr (Nat.le_trans k.kp.size hi))]
theorem Ty.mono {w w' : World} {g g' : Nat → Tag} {S S' : Tag → Prop} (h : Ty w w' g g' S) (hs : ∀ t, S t → S' t) : Ty w w' g g' S' := ⟨⟨h.kp.os, h.kp.tape, h.kp.output, h.kp.size, fun k hk hn => h.kp.block k hk (fun x => hn (hs _ x))⟩, h.tag⟩
/-- A block that was made gets a tag. -/
def tagAt (g : Nat → Tag) (b : Nat) (t : Tag) : Nat → Tag := fun k => if k = b then t else g k
theorem tagAt_same (g : Nat → Tag) (b : Nat) (t : Tag) : tagAt g b t b = t := by simp [tagAt]
theorem tagAt_other (g : Nat → Tag) {b k : Nat} (t : Tag) (h : k ≠ b) : tagAt g b t k = g k := by simp [tagAt, h]
/-- Where a slice lies gets a tag, if it lies anywhere. -/
def tagO (g : Nat → Tag) (a : Option Addr) (t : Tag) : Nat → Tag := fun k => if blk a = some k then t else g k
theorem tagO_same (g : Nat → Tag) {a : Option Addr} (t : Tag) {k : Nat} (h : blk a = some k) : tagO g a t k = t := by simp [tagO, h]
theorem tagO_other (g : Nat → Tag) {a : Option Addr} (t : Tag) {k : Nat} (h : blk a ≠ some k) : tagO g a t k = g k := by simp [tagO, h]

/-! ### The model -/
structure Cn where
  id : Nat
  p : Int
  q : Int
  c : Nat → Bool
  L : Nat → List UInt8
structure Nm where
  cs : List Cn
  last : Nat
def Cn.side (c : Cn) (node : Int) : Int := if c.p = node then 0 else if c.q = node then 1 else -1
def Cn.live (c : Cn) : Bool := !(c.c 0 && c.c 1 && decide (c.L 0 = []) && decide (c.L 1 = []))
def Cn.rows (c : Cn) (t : Nat) (l : List UInt8) : Cn := { c with L := upd c.L t l }
def Cn.shut (c : Cn) (t : Nat) : Cn := { c with c := upd c.c t true }
def Nm.get (M : Nm) (id : Int) : Option Cn := M.cs.find? (fun c => decide ((c.id : Int) = id))
/-- One connection is another one, and goes where nothing can happen in it any more. -/
def Nm.put (M : Nm) (c : Cn) : Nm := { M with cs := (M.cs.map fun d => if d.id = c.id then c else d).filter Cn.live }
def Nm.drop (M : Nm) (f : Cn → Bool) : Nm := { M with cs := M.cs.filter fun c => !f c }
structure Mok (M : Nm) : Prop where
  rise : M.cs.Pairwise (fun a b => a.id < b.id)
  top : ∀ c ∈ M.cs, c.id ≤ M.last
  one : ∀ c ∈ M.cs, 1 ≤ c.id
  live : ∀ c ∈ M.cs, c.live = true
  ends : ∀ c ∈ M.cs, c.p ≠ c.q
  most : ∀ c ∈ M.cs, (c.L 0).length ≤ 131072 ∧ (c.L 1).length ≤ 131072
  few : M.cs.length ≤ 64
  lim : M.last ≤ 1000000
theorem Nm.get_some {M : Nm} {id : Int} {c : Cn} (h : M.get id = some c) : c ∈ M.cs ∧ (c.id : Int) = id := ⟨List.mem_of_find?_eq_some h, by simpa using List.find?_some h⟩
theorem Nm.get_none {M : Nm} {id : Int} (h : M.get id = none) : ∀ c ∈ M.cs, (c.id : Int) ≠ id := fun c hc e => by
  have := List.find?_eq_none.1 h c hc
  simp [e] at this
theorem Mok.inj {M : Nm} (h : Mok M) {c d : Cn} (hc : c ∈ M.cs) (hd : d ∈ M.cs) (e : c.id = d.id) : c = d := by
  have hp := h.rise
  rw [List.pairwise_iff_getElem] at hp
  obtain ⟨i, hi, rfl⟩ := List.getElem_of_mem hc
  obtain ⟨j, hj, rfl⟩ := List.getElem_of_mem hd
  rcases Nat.lt_trichotomy i j with h1 | h1 | h1
  · have := hp i j hi hj h1; omega
  · subst h1; rfl
  · have := hp j i hj hi h1; omega
#print axioms Mok.inj
end Go.Proofs.Ytohlmfiicfoimaa
