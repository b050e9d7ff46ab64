/-
  SLICES OF BYTES THAT A CALL MAKES ITSELF: what they hold is one list of bytes; append and make, told in these words, for every walk of this seat.; CUTS OF A SLICE OF BYTES, as run equations, and what they read.; MORE ON SLICES OF THE CALL's OWN: where an append leaves them, one byte read, one byte stored.; append of bytes onto one's own, AS A STEP OF A REGION THAT DRAWS ITS ORDER, whatever is appended (nil and nothing too): out of the law for plain regions.
-/
import Derived.Test.YtmpjeahibfdehaaGreatDoorPkMtesab
import Derived.Laws.AppendOwnNone
import Derived.Lib.AppendStr
section
set_option linter.unusedVariables false
namespace Go.Proofs.YtmpjeahibfdehaaGreatDoor
open Go.RowKit

/-- Bytes as cells. -/
def bs (l : List UInt8) : List Value := l.map fun c => .int .u8 (c.toNat : Int)
theorem bs_length (l : List UInt8) : (bs l).length = l.length := by simp [bs]
theorem bs_append (l r : List UInt8) : bs (l ++ r) = bs l ++ bs r := by simp [bs]
theorem bs_get (l : List UInt8) (i : Nat) (h : i < l.length) : (bs l)[i]? = some (.int .u8 ((l.getD i 0).toNat : Int)) := by simp [bs, h]
theorem bs_one (l : List UInt8) : ∀ u ∈ bs l, u.oneCell' = true := by
 intro u hu
 obtain ⟨_, _, rfl⟩ := List.mem_map.1 hu
 rfl

/-- The slice value begins a row of the call's own (from block 'base' on) that holds these bytes; or it is nil and there are none. -/
def OwnB (w : World) (base : Nat) (a : Option Addr) (cap : Nat) (l : List UInt8) : Prop := w.ownsRow base 5 1 (.slice a l.length cap) l.length (bs l)

theorem addr_add (b off i : Nat) : Addr.add ⟨b, off, Option.none⟩ i = ⟨b, off + i, Option.none⟩ := by
 unfold Addr.add
 split
 ·rename_i h; subst h; rfl
 ·rfl

/-- Where the row begins. -/
def blk (a : Option Addr) : Option Nat := a.map (·.block)

theorem OwnB.cases {w : World} {base : Nat} {a : Option Addr} {cap : Nat} {l : List UInt8} (h : OwnB w base a cap l) :
  (a = none ∧ cap = 0 ∧ l = []) ∨ ∃ g cur, a = some ⟨g, 0, none⟩ ∧ base ≤ g ∧ w.heap[g]? = some (.cells cur 5 (0, 0)) ∧ l.length ≤ cap ∧ cap ≤ maxLen ∧ cur.size = cap ∧ cur.toList.take l.length = bs l := by
 rcases h.2 with ⟨hv, hn⟩ | ⟨g, cap', cur, hv, hb, hg, hle, hm, hs, ht⟩
 ·simp only [Value.slice.injEq] at hv
  exact .inl ⟨hv.1, hv.2.2, List.eq_nil_of_length_eq_zero hn⟩
 ·simp only [Value.slice.injEq, true_and] at hv
  obtain ⟨rfl, rfl⟩ := hv
  exact .inr ⟨g, cur, rfl, hb, hg, hle, hm, by simpa using hs, by simpa using ht⟩

theorem OwnB.toBs {w : World} {base : Nat} {a : Option Addr} {cap : Nat} {l : List UInt8} (h : OwnB w base a cap l) : Bs w a cap l := by
 rcases h.cases with ⟨rfl, rfl, rfl⟩ | ⟨g, cur, rfl, hb, hg, hle, hm, hs, ht⟩
 ·exact ⟨fun h => absurd rfl h, Nat.le_refl _, by unfold maxLen; omega, fun _ => rfl⟩
 ·refine ⟨fun _ => ⟨g, 0, rfl, fun i hi => ?_⟩, hle, hm, fun h => by cases h⟩
  rw [Nat.zero_add, cell_of_row w g i cur _ (0, 0) hg, ← bs_get l i hi, ← ht, List.getElem?_take, if_pos hi]
  simp

theorem OwnB.lt {w : World} {base : Nat} {a : Option Addr} {cap : Nat} {l : List UInt8} (h : OwnB w base a cap l) : ∀ k, blk a = some k → base ≤ k ∧ k < w.heap.size := by
 intro k hk
 rcases h.cases with ⟨rfl, rfl, rfl⟩ | ⟨g, cur, rfl, hb, hg, _⟩
 ·simp [blk] at hk
 ·simp [blk] at hk
  subst hk
  exact ⟨hb, (aI hg).1⟩

theorem OwnB.nil (w : World) (base : Nat) : OwnB w base none 0 [] := World.ownsRow_nil w base _ _

theorem OwnB.kept {w w' : World} {base : Nat} {a : Option Addr} {cap : Nat} {l : List UInt8} (h : OwnB w base a cap l) {row : Option Nat} (hg : w.grownBy w' row) (hne : blk a = none ∨ blk a ≠ row) : OwnB w' base a cap l := by
 refine World.ownsRow.kept h hg ?_
 cases a with
 | none => exact .inl rfl
 | some x =>
  rcases hne with h' | h'
  ·cases h'
  ·exact .inr h'

theorem OwnB.alloc {w : World} {base : Nat} {a : Option Addr} {cap : Nat} {l : List UInt8} (h : OwnB w base a cap l) (o : Obj) : OwnB (w.alloc o) base a cap l := World.ownsRow.alloc h o

theorem OwnB.below {w w' : World} {base B : Nat} {a : Option Addr} {cap : Nat} {l : List UInt8} (h : OwnB w base a cap l) (hb : Below B w w') (hB : w.heap.size ≤ B) : OwnB w' base a cap l := by
 refine ⟨h.1, ?_⟩
 rcases h.2 with hn | ⟨g, cap, cur, hv, hbb, hgg, rest⟩
 ·exact .inl hn
 ·refine .inr ⟨g, cap, cur, hv, hbb, ?_, rest⟩
  rw [hb.block g (by have := (aI hgg).1; omega)]
  exact hgg

theorem OwnB.base {w : World} {base base' : Nat} {a : Option Addr} {cap : Nat} {l : List UInt8} (h : OwnB w base a cap l) (hb : base' ≤ base) : OwnB w base' a cap l := by
 refine ⟨h.1, ?_⟩
 rcases h.2 with hn | ⟨g, cap, cur, hv, hbb, rest⟩
 ·exact .inl hn
 ·exact .inr ⟨g, cap, cur, hv, by omega, rest⟩

theorem Row.below {w w' : World} {B : Nat} {a : Option Addr} {l : List UInt8} (h : Row w a l) (hb : Below B w w') (hB : w.heap.size ≤ B) : Row w' a l := by
 intro hne
 obtain ⟨b, off, rfl, hc⟩ := h hne
 refine ⟨b, off, rfl, fun i hi => ?_⟩
 have := hc i hi
 have hlt := World.block_lt_of_cell? w _ this
 simp only at hlt
 rw [hb.cell (by simp only; omega)]
 exact this

theorem Bs.below {w w' : World} {B : Nat} {a : Option Addr} {cap : Nat} {l : List UInt8} (h : Bs w a cap l) (hb : Below B w w') (hB : w.heap.size ≤ B) : Bs w' a cap l := ⟨h.row.below hb hB, h.le, h.most, h.nz⟩

/-- A row that is read stays, where another block is written. -/
theorem Row.grown {w w' : World} {a : Option Addr} {l : List UInt8} (h : Row w a l) {row : Option Nat} (hg : w.grownBy w' row) (hne : blk a = none ∨ blk a ≠ row) : Row w' a l := by
 intro hn
 obtain ⟨b, off, rfl, hc⟩ := h hn
 refine ⟨b, off, rfl, fun i hi => ?_⟩
 exact hg.cell (hc i hi) (by
  rcases hne with h' | h'
  ·cases h'
  ·exact h')
theorem Bs.grown {w w' : World} {a : Option Addr} {cap : Nat} {l : List UInt8} (h : Bs w a cap l) {row : Option Nat} (hg : w.grownBy w' row) (hne : blk a = none ∨ blk a ≠ row) : Bs w' a cap l := ⟨h.row.grown hg hne, h.le, h.most, h.nz⟩
theorem Row.alloc {w : World} {a : Option Addr} {l : List UInt8} (h : Row w a l) (o : Obj) : Row (w.alloc o) a l := h.below ((Below.refl _ _).alloc (Nat.le_refl _) o) (Nat.le_refl _)
theorem Bs.alloc {w : World} {a : Option Addr} {cap : Nat} {l : List UInt8} (h : Bs w a cap l) (o : Obj) : Bs (w.alloc o) a cap l := ⟨h.row.alloc o, h.le, h.most, h.nz⟩

/-- The row that is read lies below the heap's end. -/
theorem Row.lt {w : World} {a : Option Addr} {l : List UInt8} (h : Row w a l) (hne : l ≠ []) : ∀ k, blk a = some k → k < w.heap.size := by
 intro k hk
 obtain ⟨b, off, rfl, hc⟩ := h hne
 simp [blk] at hk
 subst hk
 have hl : 0 < l.length := List.length_pos_iff.2 hne
 exact World.block_lt_of_cell? w _ (hc 0 hl)

/-- Below, behind what append and make leave. -/
theorem below_grown {B : Nat} {w0 w w' : World} {a : Option Addr} (h : Below B w0 w) (hg : w.grownBy w' (blk a)) (hB : B ≤ w0.heap.size) (hr : ∀ k, blk a = some k → B ≤ k) : Below B w0 w' :=
 h.grown hg (Nat.le_trans hB h.size) hr

theorem Tryz.infoB : (Tryz.prog.info? 5).map (fun i => (i.zero, i.size, i.bytes)) = some (some (.int .u8 0), 1, 1) := by kernel_rfl

/-- One byte, laid in a new block. -/
theorem row_lit (w : World) (z : Int) (c : UInt8) (h : z = (c.toNat : Int)) : Row (w.alloc (.cells #[.int .u8 z] 5)) (some ⟨w.heap.size, 0, none⟩) [c] := by
 intro _
 refine ⟨w.heap.size, 0, rfl, fun i hi => ?_⟩
 have : i = 0 := by simp at hi; exact hi
 subst this
 subst h
 rw [cell_of_row _ w.heap.size _ #[.int .u8 (c.toNat : Int)] 5 (0, 0) (heap_alloc_new w _)]
 rfl

/-- append(s, x...), s the call's own, x any slice of bytes that can be read. -/
theorem wp_app (w : World) {ops : Array Oper} {rest : List Oper} {o : Oper} {a : Act} {Q : Exit → Act → World → Prop} (hgd : o.guard = none) (s x : Operand)
  (ho : o.op = .call { callee := .builtin .append, args := #[s, x], argTypes := #[80, 80] })
  (base : Nat) (a1 : Option Addr) (cap1 : Nat) (l1 : List UInt8) (hs : a.eval s = .slice a1 l1.length cap1) (hown : OwnB w base a1 cap1 l1)
  (a2 : Option Addr) (cap2 : Nat) (l2 : List UInt8) (n2 : Nat) (hx : a.eval x = .slice a2 n2 cap2) (hn2 : n2 = l2.length) (hsrc : Row w a2 l2) (hnone : a2 = none → cap2 = 0)
  (hlen : l1.length + l2.length ≤ 140737488355328) (hbase : base ≤ w.heap.size)
  (h : ∀ a' cap' r w', Hid (r = l1 ++ l2) → OwnB w' base a' cap' r → w.grownBy w' (blk a1) → wpList Tryz.prog ops Q rest (a.put o.dst (.slice a' r.length cap')) w') : wpList Tryz.prog ops Q (o :: rest) a w := by
 subst hn2
 obtain ⟨i, hi, hz0, hz1, hz2⟩ := info_parts Tryz.infoB
 have hblk : (Value.slice a1 l1.length cap1).ownBlock = blk a1 := by cases a1 <;> rfl
 cases a2 with
 | none =>
  have hl2 : l2 = [] := by
   apply Classical.byContradiction
   intro hne
   obtain ⟨b, off, hh, _⟩ := hsrc hne
   cases hh
  subst hl2
  have hc0 := hnone rfl
  subst hc0
  refine wpList_append_own_none hgd s x 80 ho base 5 i 1 Tryz.underlying80 hi _ _ _ hs hown hx ?_
  have := h a1 cap1 l1 w (by show _ = _; simp) hown (World.grownBy.refl _ _)
  exact this
 | some ad =>
  refine wpList_append_own w hgd s x 80 ho base 5 i (.int .u8 0) 1 1 Tryz.underlying80 hi hz0 hz1 hz2 rfl (by decide) _ _ _ hs hown ad l2.length cap2 (bs l2) hx (by simp [bs_length]) ?_ (bs_one l2) (by unfold maxLen; omega) (by omega) hbase ?_
  ·intro j u hu
   have hj : j < l2.length := by
    have := (List.getElem?_eq_some_iff.1 hu).1
    simpa [bs_length] using this
   obtain ⟨b, off, hh, hc⟩ := hsrc (by intro e; subst e; simp at hj)
   obtain rfl := Option.some.inj hh
   rw [bs_get l2 j hj] at hu
   obtain rfl := Option.some.inj hu
   rw [addr_add]
   exact hc j hj
  ·intro v' w' h1 h2 _
   have e1 : l1.length + l2.length = (l1 ++ l2).length := by simp
   have e2 : bs l1 ++ bs l2 = bs (l1 ++ l2) := (bs_append l1 l2).symm
   rw [e1, e2] at h1
   have hv : ∃ a' cap', v' = .slice a' (l1 ++ l2).length cap' := by
    rcases h1.2 with ⟨hv, hn⟩ | ⟨g, cap, cur, hv, _⟩
    ·exact ⟨none, 0, by rw [hv, hn]⟩
    ·exact ⟨_, _, hv⟩
   obtain ⟨a', cap', rfl⟩ := hv
   rw [hblk] at h2
   exact h a' cap' (l1 ++ l2) w' rfl h1 h2

/-- append(s, text...), s the call's own. -/
theorem wp_apps (w : World) {ops : Array Oper} {rest : List Oper} {o : Oper} {a : Act} {Q : Exit → Act → World → Prop} (hgd : o.guard = none) (s x : Operand)
  (ho : o.op = .call { callee := .builtin .append, args := #[s, x], argTypes := #[80, 9] })
  (base : Nat) (a1 : Option Addr) (cap1 : Nat) (l1 : List UInt8) (hs : a.eval s = .slice a1 l1.length cap1) (hown : OwnB w base a1 cap1 l1)
  (s2 : ByteArray) (hx : a.eval x = .string s2)
  (hlen : l1.length + s2.size ≤ 140737488355328) (hbase : base ≤ w.heap.size)
  (h : ∀ a' cap' r w', Hid (r = l1 ++ s2.data.toList) → OwnB w' base a' cap' r → w.grownBy w' (blk a1) → wpList Tryz.prog ops Q rest (a.put o.dst (.slice a' r.length cap')) w') : wpList Tryz.prog ops Q (o :: rest) a w := by
 obtain ⟨i, hi, hz0, hz1, hz2⟩ := info_parts Tryz.infoB
 have hblk : (Value.slice a1 l1.length cap1).ownBlock = blk a1 := by cases a1 <;> rfl
 refine Lib.wpList_append_own_string w hgd s x 80 9 ho base 5 i Tryz.underlying80 Tryz.underlying9 hi hz0 hz1 hz2 _ _ _ hs hown s2 hx (by unfold maxLen; omega) (by omega) hbase ?_
 intro v' w' h1 h2 _
 have e0 : s2.data.toList.length = s2.size := by rw [Array.length_toList]; rfl
 have e1 : l1.length + s2.size = (l1 ++ s2.data.toList).length := by rw [List.length_append, e0]
 have e2 : bs l1 ++ Lib.strCells s2 = bs (l1 ++ s2.data.toList) := by rw [bs_append]; rfl
 rw [e1, e2] at h1
 have hv : ∃ a' cap', v' = .slice a' (l1 ++ s2.data.toList).length cap' := by
  rcases h1.2 with ⟨hv, hn⟩ | ⟨g, cap, cur, hv, _⟩
  ·exact ⟨none, 0, by rw [hv, hn]⟩
  ·exact ⟨_, _, hv⟩
 obtain ⟨a', cap', rfl⟩ := hv
 rw [hblk] at h2
 exact h a' cap' (l1 ++ s2.data.toList) w' rfl h1 h2

end Go.Proofs.YtmpjeahibfdehaaGreatDoor
end
section
set_option linter.unusedVariables false
namespace Go.Proofs.YtmpjeahibfdehaaGreatDoor
open Go.RowKit

theorem Tryz.sizeB (w : World) : (sizeOf (Tryz.prog.elem 80)).run Tryz.prog w = .ok 1 w := by kernel_rfl
theorem Tryz.elemB : Tryz.prog.underlying 80 = some (.slice (Tryz.prog.elem 80)) := by kernel_rfl

theorem slice_from (b off n cap E : Nat) (l : Int) (w : World) (hl : l = (E : Int)) (h1 : E ≤ n) (h3 : ¬ cap = E) :
  (Instr.slice 80 (.slice (some ⟨b, off, none⟩) n cap) (some (.int .i64 l)) none none).run Tryz.prog w = .ok (.slice (some ⟨b, off + E, none⟩) (n - E) (cap - E)) w := by
 subst hl
 rw [run_slice_l (P := Tryz.prog) w 80 _ n cap Tryz.elemB .i64 (E : Int) (by omega) (by omega), Tryz.sizeB]
 simp only [Result.andThen, sliced, Int.toNat_natCast, if_neg h3, Option.map_some, Nat.mul_one, addr_add]

theorem Row.take {w : World} {a : Option Addr} {l : List UInt8} (h : Row w a l) (n : Nat) : Row w a (l.take n) := by
 intro hne
 obtain ⟨b, off, rfl, hc⟩ := h (by intro e; subst e; simp at hne)
 refine ⟨b, off, rfl, fun i hi => ?_⟩
 have hi' : i < n ∧ i < l.length := by simp at hi; omega
 rw [hc i hi'.2]
 simp [List.getD, hi'.1]

theorem Row.drop {w : World} {b off : Nat} {l : List UInt8} (h : Row w (some ⟨b, off, none⟩) l) (n : Nat) : Row w (some ⟨b, off + n, none⟩) (l.drop n) := by
 intro hne
 have hl : n < l.length := by
  rcases Nat.lt_or_ge n l.length with h' | h'
  ·exact h'
  ·exact absurd (List.drop_of_length_le h') hne
 obtain ⟨b', off', hh, hc⟩ := h (by intro e; subst e; simp at hl)
 obtain ⟨rfl, rfl⟩ : b = b' ∧ off = off' := by simpa using Option.some.inj hh
 refine ⟨b, off + n, rfl, fun i hi => ?_⟩
 have hi' : n + i < l.length := by simp at hi; omega
 rw [Nat.add_assoc, hc (n + i) hi']
 simp [List.getD]

theorem hide {p : Prop} (h : p) : Hid p := h
theorem uh {p : Prop} (h : Hid p) : p := h

end Go.Proofs.YtmpjeahibfdehaaGreatDoor
end
section
set_option linter.unusedVariables false
namespace Go.Proofs.YtmpjeahibfdehaaGreatDoor
open Go.RowKit

theorem grownBy_setCell (w : World) (p : Addr) (u : Value) : w.grownBy (w.setCell p u) (some p.block) :=
 ⟨rfl, rfl, rfl, by simp [World.setCell], fun k hk hne => Below.heap_setCell w p u k (by intro h; subst h; exact hne rfl)⟩

theorem OwnB.some {w : World} {base : Nat} {a : Option Addr} {cap : Nat} {l : List UInt8} (h : OwnB w base a cap l) (hne : 0 < l.length) :
  ∃ g, a = Option.some ⟨g, 0, none⟩ ∧ base ≤ g ∧ g < w.heap.size ∧ (∀ i, i < l.length → w.cell? ⟨g, i, none⟩ = Option.some (.int .u8 ((l.getD i 0).toNat : Int))) ∧ ∀ i, w.frozen? ⟨g, i, none⟩ = false := by
 rcases h.cases with ⟨rfl, rfl, rfl⟩ | ⟨g, cur, rfl, hb, hg, hle, hm, hs, ht⟩
 ·simp at hne
 ·refine ⟨g, rfl, hb, (aI hg).1, fun i hi => ?_, fun i => frozen_of_row w g i cur _ hg⟩
  rw [cell_of_row w g i cur _ (0, 0) hg, ← bs_get l i hi, ← ht, List.getElem?_take, if_pos hi]
  simp

/-- append(s, x...), as 'wp_app', with where the new slice lies: at the old one's place, or in a new block. -/
theorem wp_app2 (w : World) {ops : Array Oper} {rest : List Oper} {o : Oper} {a : Act} {Q : Exit → Act → World → Prop} (hgd : o.guard = none) (s x : Operand)
  (ho : o.op = .call { callee := .builtin .append, args := #[s, x], argTypes := #[80, 80] })
  (base : Nat) (a1 : Option Addr) (cap1 : Nat) (l1 : List UInt8) (hs : a.eval s = .slice a1 l1.length cap1) (hown : OwnB w base a1 cap1 l1)
  (a2 : Option Addr) (cap2 : Nat) (l2 : List UInt8) (n2 : Nat) (hx : a.eval x = .slice a2 n2 cap2) (hn2 : n2 = l2.length) (hsrc : Row w a2 l2) (hnone : a2 = none → cap2 = 0)
  (hlen : l1.length + l2.length ≤ 140737488355328) (hbase : base ≤ w.heap.size)
  (h : ∀ a' cap' r w', Hid (r = l1 ++ l2) → OwnB w' base a' cap' r → w.grownBy w' (blk a1) → Hid (a' = a1 ∨ ∀ k, blk a' = some k → w.heap.size ≤ k) → wpList Tryz.prog ops Q rest (a.put o.dst (.slice a' r.length cap')) w') : wpList Tryz.prog ops Q (o :: rest) a w := by
 subst hn2
 obtain ⟨i, hi, hz0, hz1, hz2⟩ := info_parts Tryz.infoB
 cases a2 with
 | none =>
  have hl2 : l2 = [] := by
   apply Classical.byContradiction
   intro hne
   obtain ⟨b, off, hh, _⟩ := hsrc hne
   cases hh
  subst hl2
  have hc0 := hnone rfl
  subst hc0
  refine wpList_append_own_none hgd s x 80 ho base 5 i 1 Tryz.underlying80 hi _ _ _ hs hown hx ?_
  exact h a1 cap1 l1 w (by show _ = _; simp) hown (World.grownBy.refl _ _) (.inl rfl)
 | some ad =>
  have hcells : ∀ j u, (bs l2)[j]? = Option.some u → w.cell? (ad.add j) = Option.some u := by
   intro j u hu
   have hj : j < l2.length := by
    have := (List.getElem?_eq_some_iff.1 hu).1
    simpa [bs_length] using this
   obtain ⟨b, off, hh, hc⟩ := hsrc (by intro e; subst e; simp at hj)
   obtain rfl := Option.some.inj hh
   rw [bs_get l2 j hj] at hu
   obtain rfl := Option.some.inj hu
   rw [addr_add]
   exact hc j hj
  have e1 : l1.length + l2.length = (l1 ++ l2).length := by simp
  have e2 : bs l1 ++ bs l2 = bs (l1 ++ l2) := (bs_append l1 l2).symm
  by_cases hfit : l1.length + l2.length ≤ cap1
  ·cases a1 with
   | none =>
    rcases hown.cases with ⟨_, rfl, rfl⟩ | ⟨g, cur, hh, _⟩
    ·refine wpList_append_own w hgd s x 80 ho base 5 i (.int .u8 0) 1 1 Tryz.underlying80 hi hz0 hz1 hz2 rfl (by decide) _ _ _ hs hown ad l2.length cap2 (bs l2) hx (by simp [bs_length]) hcells (bs_one l2) (by unfold maxLen; omega) (by omega) hbase ?_
     intro v' w' h1 h2 h3
     have hl2 : l2 = [] := by simpa using hfit
     subst hl2
     have hv := h3.2 ⟨rfl, rfl⟩
     subst hv
     exact h none 0 [] w' rfl h1 h2 (.inl rfl)
    ·cases hh
   | some x1 =>
    rcases hown.cases with ⟨hh, _⟩ | ⟨g, cur, hh, _⟩
    ·cases hh
    ·obtain rfl := Option.some.inj hh
     refine wpList_append_fits w hgd s x 80 ho base 5 i 1 Tryz.underlying80 hi hz1 g l1.length cap1 (bs l1) hs hown ad l2.length cap2 (bs l2) hx (by simp [bs_length]) hcells (bs_one l2) hfit ?_
     intro w' h1 h2
     rw [e1, e2] at h1
     rw [e1]
     exact h _ cap1 (l1 ++ l2) w' rfl h1 h2 (.inl rfl)
  ·refine wpList_append_grows w hgd s x 80 ho 5 i (.int .u8 0) 1 1 Tryz.underlying80 hi hz0 hz1 hz2 rfl (by decide) a1 l1.length cap1 (bs l1) hs ?_ (by simp [bs_length]) ?_ ad l2.length cap2 (bs l2) hx (by simp [bs_length]) hcells (bs_one l2) (by omega) (by unfold maxLen; omega) (by omega) ?_
   ·intro hn
    rcases hown.cases with ⟨_, h1, h2⟩ | ⟨g, cur, hh, _⟩
    ·subst h2; exact ⟨rfl, h1⟩
    ·rw [hn] at hh; cases hh
   ·intro b hb j u hu
    rcases hown.cases with ⟨hh, _⟩ | ⟨g, cur, hh, _⟩
    ·rw [hb] at hh; cases hh
    ·rw [hb] at hh
     obtain rfl := Option.some.inj hh
     exact World.ownsRow.cells hown (g := g) (by rw [hb]; rfl) j u hu
   ·intro v' w' h1 h2
    rw [e1, e2] at h1
    have hv : ∃ a' cap', v' = .slice a' (l1 ++ l2).length cap' := by
     rcases h1.2 with ⟨hv, hn⟩ | ⟨g, cap, cur, hv, _⟩
     ·exact ⟨none, 0, by rw [hv, hn]⟩
     ·exact ⟨_, _, hv⟩
    obtain ⟨a', cap', rfl⟩ := hv
    have hO : OwnB w' w.heap.size a' cap' (l1 ++ l2) := h1
    exact h a' cap' (l1 ++ l2) w' rfl (hO.base hbase) ⟨h2.os, h2.tape, h2.output, h2.size, fun k hk _ => h2.block k hk (by simp)⟩ (.inr fun k hk => (hO.lt k hk).1)

end Go.Proofs.YtmpjeahibfdehaaGreatDoor
end
section
set_option linter.unusedVariables false
namespace Go.Proofs.YtmpjeahibfdehaaGreatDoor
open Go.RowKit

theorem stp_of_list {P : Program} {ops : Array Oper} {o : Oper} {a : Act} {w : World} {K : Act → World → Prop} {Q : Exit → Act → World → Prop} {E : Prop} (hgd : o.guard = none)
  (h : wpList P ops (fun ex a w => ex = .normal ∧ K a w) [o] a w) : if Region.wanted o (yielded ops a.tmps) = true then Oper.wp P o a w K Q else E := by
 have hw : Region.wanted o (yielded ops a.tmps) = true := by simp [Region.wanted, hgd]
 rw [if_pos hw]
 unfold wpList at h
 rw [if_pos hw] at h
 rcases h with h | ⟨_, a', w', h', _⟩
 ·unfold Oper.wp at h ⊢
  generalize (execOp a.eval o).run P w = r at *
  cases r with
  | ok n w' =>
   cases n <;> simp only [Oper.upon, wpList] at h ⊢ <;>
    first
     | exact h.2
     | exact Calls.mono h (fun e w'' he => by cases e <;> first | exact he.2 | (exact absurd he.1 (by simp)) | (obtain ⟨_, _, h1, _⟩ := he; cases h1))
     | exact Rows.mono h (fun _ _ he => he.2)
     | (exact absurd h.1 (by simp))
  | halt x w' => cases x <;> simp only [Oper.upon] at h ⊢ <;> first | exact h | (exact absurd h.1 (by simp)) | (obtain ⟨_, _, h1, _⟩ := h; cases h1)
 ·cases h'

theorem stp_app2 (w : World) {ops : Array Oper} {o : Oper} {a : Act} {K : Act → World → Prop} {Q : Exit → Act → World → Prop} {E : Prop} (hgd : o.guard = none) (s x : Operand)
  (ho : o.op = .call { callee := .builtin .append, args := #[s, x], argTypes := #[80, 80] })
  (base : Nat) (a1 : Option Addr) (cap1 : Nat) (l1 : List UInt8) (n1 : Nat) (hs : a.eval s = .slice a1 n1 cap1) (hn1 : n1 = l1.length) (hown : OwnB w base a1 cap1 l1)
  (a2 : Option Addr) (cap2 : Nat) (l2 : List UInt8) (n2 : Nat) (hx : a.eval x = .slice a2 n2 cap2) (hn2 : n2 = l2.length) (hsrc : Row w a2 l2) (hnone : a2 = none → cap2 = 0)
  (hlen : l1.length + l2.length ≤ 140737488355328) (hbase : base ≤ w.heap.size)
  (h : ∀ a' cap' r w', Hid (r = l1 ++ l2) → Hid (OwnB w' base a' cap' r) → Hid (w.grownBy w' (blk a1)) → Hid (a' = a1 ∨ ∀ k, blk a' = some k → w.heap.size ≤ k) → K (a.put o.dst (.slice a' r.length cap')) w') :
  if Region.wanted o (yielded ops a.tmps) = true then Oper.wp Tryz.prog o a w K Q else E := by
 subst hn1
 refine stp_of_list hgd (wp_app2 w hgd s x ho base a1 cap1 l1 hs hown a2 cap2 l2 n2 hx hn2 hsrc hnone hlen hbase ?_)
 intro a' cap' r w' h1 h2 h3 h4
 exact ⟨rfl, h a' cap' r w' h1 h2 h3 h4⟩
end Go.Proofs.YtmpjeahibfdehaaGreatDoor
end
