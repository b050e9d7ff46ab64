/-
  SLICES OF BYTES THAT A CALL MAKES ITSELF: what they hold is one list of bytes; append and make, told in these words, for every walk of this seat.; CUTS OF A SLICE OF BYTES, as run equations, and what they read.; b[:H] and b[E:], whatever b is.; MORE ON SLICES OF THE CALL's OWN: where an append leaves them, one byte read, one byte stored.; SLICES OF SLICES OF BYTES THAT A CALL MAKES ITSELF.; append of bytes onto one's own, AS A STEP OF A REGION THAT DRAWS ITS ORDER, whatever is appended (nil and nothing too): out of the law for plain regions.; SLICES OF ints THAT A CALL MAKES ITSELF.
-/
import Derived.Test.YtmcgghjeocnpnaaGreatDoorPkKewsab
import Derived.Laws.AppendOwnNone
import Derived.Lib.AppendStr
section
set_option linter.unusedVariables false
namespace Go.Proofs.YtmcgghjeocnpnaaGreatDoor
open Go.RowKit

/-- Bytes as cells. -/
def bs (l : List UInt8) : List Value := l.map fun c => .int .u8 (c.toNat : Int)
theorem bs_length (l : List UInt8) : (bs l).length = l.length := by simp [bs]
theorem bs_append (l r : List UInt8) : bs (l ++ r) = bs l ++ bs r := by simp [bs]
theorem bs_get (l : List UInt8) (i : Nat) (h : i < l.length) : (bs l)[i]? = some (.int .u8 ((l.getD i 0).toNat : Int)) := by simp [bs, h]
theorem bs_one (l : List UInt8) : ∀ u ∈ bs l, u.oneCell' = true := by
  intro u hu
  obtain ⟨_, _, rfl⟩ := List.mem_map.1 hu
  rfl

/-- The slice value begins a row of the call's own (from block 'base' on) that holds these bytes; or it is nil and there are none. -/
def OwnB (w : World) (base : Nat) (a : Option Addr) (cap : Nat) (l : List UInt8) : Prop := w.ownsRow base 5 1 (.slice a l.length cap) l.length (bs l)

theorem addr_add (b off i : Nat) : Addr.add ⟨b, off, Option.none⟩ i = ⟨b, off + i, Option.none⟩ := by
  unfold Addr.add
  split
  · rename_i h; subst h; rfl
  · rfl

/-- Where the row begins. -/
def blk (a : Option Addr) : Option Nat := a.map (·.block)

theorem OwnB.cases {w : World} {base : Nat} {a : Option Addr} {cap : Nat} {l : List UInt8} (h : OwnB w base a cap l) :
    (a = none ∧ cap = 0 ∧ l = []) ∨ ∃ g cur, a = some ⟨g, 0, none⟩ ∧ base ≤ g ∧ w.heap[g]? = some (.cells cur 5 (0, 0)) ∧ l.length ≤ cap ∧ cap ≤ maxLen ∧ cur.size = cap ∧ cur.toList.take l.length = bs l := by
  rcases h.2 with ⟨hv, hn⟩ | ⟨g, cap', cur, hv, hb, hg, hle, hm, hs, ht⟩
  · simp only [Value.slice.injEq] at hv
    exact .inl ⟨hv.1, hv.2.2, List.eq_nil_of_length_eq_zero hn⟩
  · simp only [Value.slice.injEq, true_and] at hv
    obtain ⟨rfl, rfl⟩ := hv
    exact .inr ⟨g, cur, rfl, hb, hg, hle, hm, by simpa using hs, by simpa using ht⟩

theorem OwnB.toBs {w : World} {base : Nat} {a : Option Addr} {cap : Nat} {l : List UInt8} (h : OwnB w base a cap l) : Bs w a cap l := by
  rcases h.cases with ⟨rfl, rfl, rfl⟩ | ⟨g, cur, rfl, hb, hg, hle, hm, hs, ht⟩
  · exact ⟨fun h => absurd rfl h, Nat.le_refl _, by unfold maxLen; omega, fun _ => rfl⟩
  · refine ⟨fun _ => ⟨g, 0, rfl, fun i hi => ?_⟩, hle, hm, fun h => by cases h⟩
    rw [Nat.zero_add, cell_of_row w g i cur _ (0, 0) hg, ← bs_get l i hi, ← ht, List.getElem?_take, if_pos hi]
    simp

theorem OwnB.lt {w : World} {base : Nat} {a : Option Addr} {cap : Nat} {l : List UInt8} (h : OwnB w base a cap l) : ∀ k, blk a = some k → base ≤ k ∧ k < w.heap.size := by
  intro k hk
  rcases h.cases with ⟨rfl, rfl, rfl⟩ | ⟨g, cur, rfl, hb, hg, _⟩
  · simp [blk] at hk
  · simp [blk] at hk
    subst hk
    exact ⟨hb, (Array.getElem?_eq_some_iff.1 hg).1⟩

theorem OwnB.nil (w : World) (base : Nat) : OwnB w base none 0 [] := World.ownsRow_nil w base _ _

theorem OwnB.kept {w w' : World} {base : Nat} {a : Option Addr} {cap : Nat} {l : List UInt8} (h : OwnB w base a cap l) {row : Option Nat} (hg : w.grownBy w' row) (hne : blk a = none ∨ blk a ≠ row) : OwnB w' base a cap l := by
  refine World.ownsRow.kept h hg ?_
  cases a with
  | none => exact .inl rfl
  | some x =>
    rcases hne with h' | h'
    · cases h'
    · exact .inr h'

theorem OwnB.alloc {w : World} {base : Nat} {a : Option Addr} {cap : Nat} {l : List UInt8} (h : OwnB w base a cap l) (o : Obj) : OwnB (w.alloc o) base a cap l := World.ownsRow.alloc h o

theorem OwnB.below {w w' : World} {base B : Nat} {a : Option Addr} {cap : Nat} {l : List UInt8} (h : OwnB w base a cap l) (hb : Below B w w') (hB : w.heap.size ≤ B) : OwnB w' base a cap l := by
  refine ⟨h.1, ?_⟩
  rcases h.2 with hn | ⟨g, cap, cur, hv, hbb, hgg, rest⟩
  · exact .inl hn
  · refine .inr ⟨g, cap, cur, hv, hbb, ?_, rest⟩
    rw [hb.block g (by have := (Array.getElem?_eq_some_iff.1 hgg).1; omega)]
    exact hgg

theorem OwnB.base {w : World} {base base' : Nat} {a : Option Addr} {cap : Nat} {l : List UInt8} (h : OwnB w base a cap l) (hb : base' ≤ base) : OwnB w base' a cap l := by
  refine ⟨h.1, ?_⟩
  rcases h.2 with hn | ⟨g, cap, cur, hv, hbb, rest⟩
  · exact .inl hn
  · exact .inr ⟨g, cap, cur, hv, by omega, rest⟩

theorem Row.below {w w' : World} {B : Nat} {a : Option Addr} {l : List UInt8} (h : Row w a l) (hb : Below B w w') (hB : w.heap.size ≤ B) : Row w' a l := by
  intro hne
  obtain ⟨b, off, rfl, hc⟩ := h hne
  refine ⟨b, off, rfl, fun i hi => ?_⟩
  have := hc i hi
  have hlt := World.block_lt_of_cell? w _ this
  simp only at hlt
  rw [hb.cell (by simp only; omega)]
  exact this

theorem Bs.below {w w' : World} {B : Nat} {a : Option Addr} {cap : Nat} {l : List UInt8} (h : Bs w a cap l) (hb : Below B w w') (hB : w.heap.size ≤ B) : Bs w' a cap l := ⟨h.row.below hb hB, h.le, h.most, h.nz⟩

/-- A row that is read stays, where another block is written. -/
theorem Row.grown {w w' : World} {a : Option Addr} {l : List UInt8} (h : Row w a l) {row : Option Nat} (hg : w.grownBy w' row) (hne : blk a = none ∨ blk a ≠ row) : Row w' a l := by
  intro hn
  obtain ⟨b, off, rfl, hc⟩ := h hn
  refine ⟨b, off, rfl, fun i hi => ?_⟩
  exact hg.cell (hc i hi) (by
    rcases hne with h' | h'
    · cases h'
    · exact h')
theorem Bs.grown {w w' : World} {a : Option Addr} {cap : Nat} {l : List UInt8} (h : Bs w a cap l) {row : Option Nat} (hg : w.grownBy w' row) (hne : blk a = none ∨ blk a ≠ row) : Bs w' a cap l := ⟨h.row.grown hg hne, h.le, h.most, h.nz⟩
theorem Row.alloc {w : World} {a : Option Addr} {l : List UInt8} (h : Row w a l) (o : Obj) : Row (w.alloc o) a l := h.below ((Below.refl _ _).alloc (Nat.le_refl _) o) (Nat.le_refl _)
theorem Bs.alloc {w : World} {a : Option Addr} {cap : Nat} {l : List UInt8} (h : Bs w a cap l) (o : Obj) : Bs (w.alloc o) a cap l := ⟨h.row.alloc o, h.le, h.most, h.nz⟩

/-- The row that is read lies below the heap's end. -/
theorem Row.lt {w : World} {a : Option Addr} {l : List UInt8} (h : Row w a l) (hne : l ≠ []) : ∀ k, blk a = some k → k < w.heap.size := by
  intro k hk
  obtain ⟨b, off, rfl, hc⟩ := h hne
  simp [blk] at hk
  subst hk
  have hl : 0 < l.length := List.length_pos_iff.2 hne
  exact World.block_lt_of_cell? w _ (hc 0 hl)

/-- Below, behind what append and make leave. -/
theorem below_grown {B : Nat} {w0 w w' : World} {a : Option Addr} (h : Below B w0 w) (hg : w.grownBy w' (blk a)) (hB : B ≤ w0.heap.size) (hr : ∀ k, blk a = some k → B ≤ k) : Below B w0 w' :=
  h.grown hg (Nat.le_trans hB h.size) hr

theorem Tryz.infoB : (Tryz.prog.info? 5).map (fun i => (i.zero, i.size, i.bytes)) = some (some (.int .u8 0), 1, 1) := by kernel_rfl

/-- One byte, laid in a new block. -/
theorem row_lit (w : World) (z : Int) (c : UInt8) (h : z = (c.toNat : Int)) : Row (w.alloc (.cells #[.int .u8 z] 5)) (some ⟨w.heap.size, 0, none⟩) [c] := by
  intro _
  refine ⟨w.heap.size, 0, rfl, fun i hi => ?_⟩
  have : i = 0 := by simp at hi; exact hi
  subst this
  subst h
  rw [cell_of_row _ w.heap.size _ #[.int .u8 (c.toNat : Int)] 5 (0, 0) (heap_alloc_new w _)]
  rfl

/-- append(s, x...), s the call's own, x any slice of bytes that can be read. -/
theorem wp_app (w : World) {ops : Array Oper} {rest : List Oper} {o : Oper} {a : Act} {Q : Exit → Act → World → Prop} (hgd : o.guard = none) (s x : Operand)
    (ho : o.op = .call { callee := .builtin .append, args := #[s, x], argTypes := #[86, 86] })
    (base : Nat) (a1 : Option Addr) (cap1 : Nat) (l1 : List UInt8) (hs : a.eval s = .slice a1 l1.length cap1) (hown : OwnB w base a1 cap1 l1)
    (a2 : Option Addr) (cap2 : Nat) (l2 : List UInt8) (n2 : Nat) (hx : a.eval x = .slice a2 n2 cap2) (hn2 : n2 = l2.length) (hsrc : Row w a2 l2) (hnone : a2 = none → cap2 = 0)
    (hlen : l1.length + l2.length ≤ 140737488355328) (hbase : base ≤ w.heap.size)
    (h : ∀ a' cap' r w', Hid (r = l1 ++ l2) → OwnB w' base a' cap' r → w.grownBy w' (blk a1) → wpList Tryz.prog ops Q rest (a.put o.dst (.slice a' r.length cap')) w') : wpList Tryz.prog ops Q (o :: rest) a w := by
  subst hn2
  obtain ⟨i, hi, hz0, hz1, hz2⟩ := info_parts Tryz.infoB
  have hblk : (Value.slice a1 l1.length cap1).ownBlock = blk a1 := by cases a1 <;> rfl
  cases a2 with
  | none =>
    have hl2 : l2 = [] := by
      apply Classical.byContradiction
      intro hne
      obtain ⟨b, off, hh, _⟩ := hsrc hne
      cases hh
    subst hl2
    have hc0 := hnone rfl
    subst hc0
    refine wpList_append_own_none hgd s x 86 ho base 5 i 1 Tryz.underlying86 hi _ _ _ hs hown hx ?_
    have := h a1 cap1 l1 w (by show _ = _; simp) hown (World.grownBy.refl _ _)
    exact this
  | some ad =>
    refine wpList_append_own w hgd s x 86 ho base 5 i (.int .u8 0) 1 1 Tryz.underlying86 hi hz0 hz1 hz2 rfl (by decide) _ _ _ hs hown ad l2.length cap2 (bs l2) hx (by simp [bs_length]) ?_ (bs_one l2) (by unfold maxLen; omega) (by omega) hbase ?_
    · intro j u hu
      have hj : j < l2.length := by
        have := (List.getElem?_eq_some_iff.1 hu).1
        simpa [bs_length] using this
      obtain ⟨b, off, hh, hc⟩ := hsrc (by intro e; subst e; simp at hj)
      obtain rfl := Option.some.inj hh
      rw [bs_get l2 j hj] at hu
      obtain rfl := Option.some.inj hu
      rw [addr_add]
      exact hc j hj
    · intro v' w' h1 h2 _
      have e1 : l1.length + l2.length = (l1 ++ l2).length := by simp
      have e2 : bs l1 ++ bs l2 = bs (l1 ++ l2) := (bs_append l1 l2).symm
      rw [e1, e2] at h1
      have hv : ∃ a' cap', v' = .slice a' (l1 ++ l2).length cap' := by
        rcases h1.2 with ⟨hv, hn⟩ | ⟨g, cap, cur, hv, _⟩
        · exact ⟨none, 0, by rw [hv, hn]⟩
        · exact ⟨_, _, hv⟩
      obtain ⟨a', cap', rfl⟩ := hv
      rw [hblk] at h2
      exact h a' cap' (l1 ++ l2) w' rfl h1 h2

/-- append(s, text...), s the call's own. -/
theorem wp_apps (w : World) {ops : Array Oper} {rest : List Oper} {o : Oper} {a : Act} {Q : Exit → Act → World → Prop} (hgd : o.guard = none) (s x : Operand)
    (ho : o.op = .call { callee := .builtin .append, args := #[s, x], argTypes := #[86, 9] })
    (base : Nat) (a1 : Option Addr) (cap1 : Nat) (l1 : List UInt8) (hs : a.eval s = .slice a1 l1.length cap1) (hown : OwnB w base a1 cap1 l1)
    (s2 : ByteArray) (hx : a.eval x = .string s2)
    (hlen : l1.length + s2.size ≤ 140737488355328) (hbase : base ≤ w.heap.size)
    (h : ∀ a' cap' r w', Hid (r = l1 ++ s2.data.toList) → OwnB w' base a' cap' r → w.grownBy w' (blk a1) → wpList Tryz.prog ops Q rest (a.put o.dst (.slice a' r.length cap')) w') : wpList Tryz.prog ops Q (o :: rest) a w := by
  obtain ⟨i, hi, hz0, hz1, hz2⟩ := info_parts Tryz.infoB
  have hblk : (Value.slice a1 l1.length cap1).ownBlock = blk a1 := by cases a1 <;> rfl
  refine Lib.wpList_append_own_string w hgd s x 86 9 ho base 5 i Tryz.underlying86 Tryz.underlying9 hi hz0 hz1 hz2 _ _ _ hs hown s2 hx (by unfold maxLen; omega) (by omega) hbase ?_
  intro v' w' h1 h2 _
  have e0 : s2.data.toList.length = s2.size := by rw [Array.length_toList]; rfl
  have e1 : l1.length + s2.size = (l1 ++ s2.data.toList).length := by rw [List.length_append, e0]
  have e2 : bs l1 ++ Lib.strCells s2 = bs (l1 ++ s2.data.toList) := by rw [bs_append]; rfl
  rw [e1, e2] at h1
  have hv : ∃ a' cap', v' = .slice a' (l1 ++ s2.data.toList).length cap' := by
    rcases h1.2 with ⟨hv, hn⟩ | ⟨g, cap, cur, hv, _⟩
    · exact ⟨none, 0, by rw [hv, hn]⟩
    · exact ⟨_, _, hv⟩
  obtain ⟨a', cap', rfl⟩ := hv
  rw [hblk] at h2
  exact h a' cap' (l1 ++ s2.data.toList) w' rfl h1 h2

/-- make([]byte, 0, n). -/
theorem wp_make0 (w : World) {ops : Array Oper} {rest : List Oper} {o : Oper} {a : Act} {Q : Exit → Act → World → Prop} (hgd : o.guard = none) (lo co : Operand)
    (hop : o.op = Op.makeSlice 86 lo co) (base : Nat) (kl kc : IntKind) (C : Int) (n : Nat) (hl : a.eval lo = .int kl 0) (hc : a.eval co = .int kc C) (hC : C = (n : Int))
    (hn : n ≤ 281474976710656) (hbase : base ≤ w.heap.size)
    (h : ∀ a' w', OwnB w' base a' n [] → w.grownBy w' none → wpList Tryz.prog ops Q rest (a.put o.dst (.slice a' 0 n)) w') : wpList Tryz.prog ops Q (o :: rest) a w := by
  obtain ⟨i, hi, hz0, hz1, hz2⟩ := info_parts Tryz.infoB
  refine wpList_make_own w hgd lo co 86 hop base 5 i (.int .u8 0) 1 Tryz.underlying86 hi hz0 hz1 kl kc C n hl hc hC (by rw [hz2]; omega) (by unfold maxLen; omega) hbase ?_
  intro w' h1 h2
  exact h _ w' h1 h2

#print axioms wp_app
#print axioms wp_apps
#print axioms wp_make0
end Go.Proofs.YtmcgghjeocnpnaaGreatDoor
end
section
set_option linter.unusedVariables false
namespace Go.Proofs.YtmcgghjeocnpnaaGreatDoor
open Go.RowKit

theorem Tryz.sizeB (w : World) : (sizeOf (Tryz.prog.elem 86)).run Tryz.prog w = .ok 1 w := by kernel_rfl
theorem Tryz.elemB : Tryz.prog.underlying 86 = some (.slice (Tryz.prog.elem 86)) := by kernel_rfl

theorem slice_mid (b off n cap E H : Nat) (l h : Int) (w : World) (hl : l = (E : Int)) (hh : h = (H : Int)) (h1 : E ≤ H) (h2 : H ≤ cap) (h3 : ¬ cap = E) :
    (Instr.slice 86 (.slice (some ⟨b, off, none⟩) n cap) (some (.int .i64 l)) (some (.int .i64 h)) none).run Tryz.prog w = .ok (.slice (some ⟨b, off + E, none⟩) (H - E) (cap - E)) w := by
  subst hl hh
  rw [run_slice_lh (P := Tryz.prog) w 86 _ n cap Tryz.elemB .i64 .i64 (E : Int) (H : Int) (by omega) (by omega) (by omega), Tryz.sizeB]
  simp only [Result.andThen, sliced, Int.toNat_natCast, if_neg h3, Option.map_some, Nat.mul_one, addr_add]

theorem slice_from (b off n cap E : Nat) (l : Int) (w : World) (hl : l = (E : Int)) (h1 : E ≤ n) (h3 : ¬ cap = E) :
    (Instr.slice 86 (.slice (some ⟨b, off, none⟩) n cap) (some (.int .i64 l)) none none).run Tryz.prog w = .ok (.slice (some ⟨b, off + E, none⟩) (n - E) (cap - E)) w := by
  subst hl
  rw [run_slice_l (P := Tryz.prog) w 86 _ n cap Tryz.elemB .i64 (E : Int) (by omega) (by omega), Tryz.sizeB]
  simp only [Result.andThen, sliced, Int.toNat_natCast, if_neg h3, Option.map_some, Nat.mul_one, addr_add]

theorem Row.take {w : World} {a : Option Addr} {l : List UInt8} (h : Row w a l) (n : Nat) : Row w a (l.take n) := by
  intro hne
  obtain ⟨b, off, rfl, hc⟩ := h (by intro e; subst e; simp at hne)
  refine ⟨b, off, rfl, fun i hi => ?_⟩
  have hi' : i < n ∧ i < l.length := by simp at hi; omega
  rw [hc i hi'.2]
  simp [List.getD, hi'.1]

theorem Row.drop {w : World} {b off : Nat} {l : List UInt8} (h : Row w (some ⟨b, off, none⟩) l) (n : Nat) : Row w (some ⟨b, off + n, none⟩) (l.drop n) := by
  intro hne
  have hl : n < l.length := by
    rcases Nat.lt_or_ge n l.length with h' | h'
    · exact h'
    · exact absurd (List.drop_of_length_le h') hne
  obtain ⟨b', off', hh, hc⟩ := h (by intro e; subst e; simp at hl)
  obtain ⟨rfl, rfl⟩ : b = b' ∧ off = off' := by simpa using Option.some.inj hh
  refine ⟨b, off + n, rfl, fun i hi => ?_⟩
  have hi' : n + i < l.length := by simp at hi; omega
  rw [Nat.add_assoc, hc (n + i) hi']
  simp [List.getD]

theorem hide {p : Prop} (h : p) : Hid p := h
theorem unhide {p : Prop} (h : Hid p) : p := h

#print axioms slice_mid
#print axioms Row.drop
end Go.Proofs.YtmcgghjeocnpnaaGreatDoor
end
section
set_option linter.unusedVariables false
namespace Go.Proofs.YtmcgghjeocnpnaaGreatDoor
open Go.RowKit

theorem cut_tail (a : Option Addr) (cap E : Nat) (l : List UInt8) (hle : l.length ≤ cap) (h1 : E ≤ l.length) (hrow : l ≠ [] → ∃ b off, a = some ⟨b, off, none⟩) :
    ∃ a', (∀ w, (Instr.slice 86 (.slice a l.length cap) (some (.int .i64 (E : Int))) none none).run Tryz.prog w = .ok (.slice a' (l.length - E) (cap - E)) w) ∧ (∀ w, Bs w a cap l → Bs w a' (cap - E) (l.drop E)) ∧ blk a' = blk a := by
  refine ⟨if cap = E then a else a.map (·.add (E * 1)), fun w => ?_, fun w hB => ?_, ?_⟩
  · rw [run_slice_l (P := Tryz.prog) w 86 _ _ cap Tryz.elemB .i64 (E : Int) (by omega) (by omega), Tryz.sizeB]
    simp only [Result.andThen, sliced, Int.toNat_natCast]
  · refine ⟨?_, by simp; have := hB.le; omega, by have := hB.most; omega, ?_⟩
    · by_cases hc : cap = E
      · intro h; exact absurd (List.drop_eq_nil_of_le (by omega)) h
      · rw [if_neg hc]
        by_cases hl : l = []
        · subst hl; intro h; simp at h
        · obtain ⟨b, off, rfl⟩ := hrow hl
          rw [Option.map_some, Nat.mul_one, addr_add]
          exact hB.row.drop E
    · intro h
      by_cases hc : cap = E
      · omega
      · rw [if_neg hc] at h
        have := hB.nz (by cases a <;> simp_all)
        omega
  · split
    · rfl
    · cases a with
      | none => rfl
      | some x => simp [blk, Addr.add]; split <;> rfl
theorem cut_head (a : Option Addr) (n cap H : Nat) (l : List UInt8) (h1 : H ≤ l.length) (hle : l.length ≤ cap) (hrow : l ≠ [] → ∃ b off, a = some ⟨b, off, none⟩) :
    ∃ a', (∀ w, (Instr.slice 86 (.slice a n cap) none (some (.int .i64 (H : Int))) none).run Tryz.prog w = .ok (.slice a' H cap) w) ∧ (∀ w, Bs w a cap l → Bs w a' cap (l.take H)) ∧ blk a' = blk a := by
  refine ⟨if cap = 0 then a else a.map (·.add (0 * 1)), fun w => ?_, fun w hB => ?_, ?_⟩
  · rw [run_slice_h (P := Tryz.prog) w 86 _ n cap Tryz.elemB .i64 (H : Int) (by omega) (by omega), Tryz.sizeB]
    simp only [Result.andThen, sliced, Int.toNat_natCast, Nat.sub_zero]
  · refine ⟨?_, by simp; omega, hB.most, ?_⟩
    · by_cases hc : cap = 0
      · intro h; exact absurd (by rw [show l = [] from List.eq_nil_of_length_eq_zero (by omega)]; simp) h
      · rw [if_neg hc]
        by_cases hl : l = []
        · subst hl; intro h; simp at h
        · obtain ⟨b, off, rfl⟩ := hrow hl
          rw [Option.map_some, Nat.zero_mul, addr_add, Nat.add_zero]
          exact hB.row.take H
    · intro h
      by_cases hc : cap = 0
      · exact hc
      · rw [if_neg hc] at h
        exact hB.nz (by cases a <;> simp_all)
  · split
    · rfl
    · cases a with
      | none => rfl
      | some x => simp [blk, Addr.add]
end Go.Proofs.YtmcgghjeocnpnaaGreatDoor
end
section
set_option linter.unusedVariables false
namespace Go.Proofs.YtmcgghjeocnpnaaGreatDoor
open Go.RowKit

theorem grownBy_setCell (w : World) (p : Addr) (u : Value) : w.grownBy (w.setCell p u) (some p.block) :=
  ⟨rfl, rfl, rfl, by simp [World.setCell], fun k hk hne => Below.heap_setCell w p u k (by intro h; subst h; exact hne rfl)⟩

theorem OwnB.some {w : World} {base : Nat} {a : Option Addr} {cap : Nat} {l : List UInt8} (h : OwnB w base a cap l) (hne : 0 < l.length) :
    ∃ g, a = Option.some ⟨g, 0, none⟩ ∧ base ≤ g ∧ g < w.heap.size ∧ (∀ i, i < l.length → w.cell? ⟨g, i, none⟩ = Option.some (.int .u8 ((l.getD i 0).toNat : Int))) ∧ ∀ i, w.frozen? ⟨g, i, none⟩ = false := by
  rcases h.cases with ⟨rfl, rfl, rfl⟩ | ⟨g, cur, rfl, hb, hg, hle, hm, hs, ht⟩
  · simp at hne
  · refine ⟨g, rfl, hb, (Array.getElem?_eq_some_iff.1 hg).1, fun i hi => ?_, fun i => frozen_of_row w g i cur _ hg⟩
    rw [cell_of_row w g i cur _ (0, 0) hg, ← bs_get l i hi, ← ht, List.getElem?_take, if_pos hi]
    simp

/-- append(s, x...), as 'wp_app', with where the new slice lies: at the old one's place, or in a new block. -/
theorem wp_app2 (w : World) {ops : Array Oper} {rest : List Oper} {o : Oper} {a : Act} {Q : Exit → Act → World → Prop} (hgd : o.guard = none) (s x : Operand)
    (ho : o.op = .call { callee := .builtin .append, args := #[s, x], argTypes := #[86, 86] })
    (base : Nat) (a1 : Option Addr) (cap1 : Nat) (l1 : List UInt8) (hs : a.eval s = .slice a1 l1.length cap1) (hown : OwnB w base a1 cap1 l1)
    (a2 : Option Addr) (cap2 : Nat) (l2 : List UInt8) (n2 : Nat) (hx : a.eval x = .slice a2 n2 cap2) (hn2 : n2 = l2.length) (hsrc : Row w a2 l2) (hnone : a2 = none → cap2 = 0)
    (hlen : l1.length + l2.length ≤ 140737488355328) (hbase : base ≤ w.heap.size)
    (h : ∀ a' cap' r w', Hid (r = l1 ++ l2) → OwnB w' base a' cap' r → w.grownBy w' (blk a1) → Hid (a' = a1 ∨ ∀ k, blk a' = some k → w.heap.size ≤ k) → wpList Tryz.prog ops Q rest (a.put o.dst (.slice a' r.length cap')) w') : wpList Tryz.prog ops Q (o :: rest) a w := by
  subst hn2
  obtain ⟨i, hi, hz0, hz1, hz2⟩ := info_parts Tryz.infoB
  cases a2 with
  | none =>
    have hl2 : l2 = [] := by
      apply Classical.byContradiction
      intro hne
      obtain ⟨b, off, hh, _⟩ := hsrc hne
      cases hh
    subst hl2
    have hc0 := hnone rfl
    subst hc0
    refine wpList_append_own_none hgd s x 86 ho base 5 i 1 Tryz.underlying86 hi _ _ _ hs hown hx ?_
    exact h a1 cap1 l1 w (by show _ = _; simp) hown (World.grownBy.refl _ _) (.inl rfl)
  | some ad =>
    have hcells : ∀ j u, (bs l2)[j]? = Option.some u → w.cell? (ad.add j) = Option.some u := by
      intro j u hu
      have hj : j < l2.length := by
        have := (List.getElem?_eq_some_iff.1 hu).1
        simpa [bs_length] using this
      obtain ⟨b, off, hh, hc⟩ := hsrc (by intro e; subst e; simp at hj)
      obtain rfl := Option.some.inj hh
      rw [bs_get l2 j hj] at hu
      obtain rfl := Option.some.inj hu
      rw [addr_add]
      exact hc j hj
    have e1 : l1.length + l2.length = (l1 ++ l2).length := by simp
    have e2 : bs l1 ++ bs l2 = bs (l1 ++ l2) := (bs_append l1 l2).symm
    by_cases hfit : l1.length + l2.length ≤ cap1
    · cases a1 with
      | none =>
        rcases hown.cases with ⟨_, rfl, rfl⟩ | ⟨g, cur, hh, _⟩
        · refine wpList_append_own w hgd s x 86 ho base 5 i (.int .u8 0) 1 1 Tryz.underlying86 hi hz0 hz1 hz2 rfl (by decide) _ _ _ hs hown ad l2.length cap2 (bs l2) hx (by simp [bs_length]) hcells (bs_one l2) (by unfold maxLen; omega) (by omega) hbase ?_
          intro v' w' h1 h2 h3
          have hl2 : l2 = [] := by simpa using hfit
          subst hl2
          have hv := h3.2 ⟨rfl, rfl⟩
          subst hv
          exact h none 0 [] w' rfl h1 h2 (.inl rfl)
        · cases hh
      | some x1 =>
        rcases hown.cases with ⟨hh, _⟩ | ⟨g, cur, hh, _⟩
        · cases hh
        · obtain rfl := Option.some.inj hh
          refine wpList_append_fits w hgd s x 86 ho base 5 i 1 Tryz.underlying86 hi hz1 g l1.length cap1 (bs l1) hs hown ad l2.length cap2 (bs l2) hx (by simp [bs_length]) hcells (bs_one l2) hfit ?_
          intro w' h1 h2
          rw [e1, e2] at h1
          rw [e1]
          exact h _ cap1 (l1 ++ l2) w' rfl h1 h2 (.inl rfl)
    · refine wpList_append_grows w hgd s x 86 ho 5 i (.int .u8 0) 1 1 Tryz.underlying86 hi hz0 hz1 hz2 rfl (by decide) a1 l1.length cap1 (bs l1) hs ?_ (by simp [bs_length]) ?_ ad l2.length cap2 (bs l2) hx (by simp [bs_length]) hcells (bs_one l2) (by omega) (by unfold maxLen; omega) (by omega) ?_
      · intro hn
        rcases hown.cases with ⟨_, h1, h2⟩ | ⟨g, cur, hh, _⟩
        · subst h2; exact ⟨rfl, h1⟩
        · rw [hn] at hh; cases hh
      · intro b hb j u hu
        rcases hown.cases with ⟨hh, _⟩ | ⟨g, cur, hh, _⟩
        · rw [hb] at hh; cases hh
        · rw [hb] at hh
          obtain rfl := Option.some.inj hh
          exact World.ownsRow.cells hown (g := g) (by rw [hb]; rfl) j u hu
      · intro v' w' h1 h2
        rw [e1, e2] at h1
        have hv : ∃ a' cap', v' = .slice a' (l1 ++ l2).length cap' := by
          rcases h1.2 with ⟨hv, hn⟩ | ⟨g, cap, cur, hv, _⟩
          · exact ⟨none, 0, by rw [hv, hn]⟩
          · exact ⟨_, _, hv⟩
        obtain ⟨a', cap', rfl⟩ := hv
        have hO : OwnB w' w.heap.size a' cap' (l1 ++ l2) := h1
        exact h a' cap' (l1 ++ l2) w' rfl (hO.base hbase) ⟨h2.os, h2.tape, h2.output, h2.size, fun k hk _ => h2.block k hk (by simp)⟩ (.inr fun k hk => (hO.lt k hk).1)

#print axioms wp_app2
end Go.Proofs.YtmcgghjeocnpnaaGreatDoor
end
section
set_option linter.unusedVariables false
namespace Go.Proofs.YtmcgghjeocnpnaaGreatDoor
open Go.RowKit

abbrev Sl := Option Addr × Nat × Nat
def sls (l : List Sl) : List Value := l.map fun x => .slice x.1 x.2.1 x.2.2
theorem sls_length (l : List Sl) : (sls l).length = l.length := by simp [sls]
theorem sls_append (l r : List Sl) : sls (l ++ r) = sls l ++ sls r := by simp [sls]
theorem sls_get (l : List Sl) (i : Nat) (x : Sl) (h : l[i]? = some x) : (sls l)[i]? = some (.slice x.1 x.2.1 x.2.2) := by simp [sls, h]
theorem sls_one (l : List Sl) : ∀ u ∈ sls l, u.oneCell' = true := by
  intro u hu
  obtain ⟨_, _, rfl⟩ := List.mem_map.1 hu
  rfl
def OwnS (w : World) (base : Nat) (a : Option Addr) (cap : Nat) (l : List Sl) : Prop := w.ownsRow base 86 1 (.slice a l.length cap) l.length (sls l)

theorem OwnS.cases {w : World} {base : Nat} {a : Option Addr} {cap : Nat} {l : List Sl} (h : OwnS w base a cap l) :
    (a = none ∧ cap = 0 ∧ l = []) ∨ ∃ g cur, a = some ⟨g, 0, none⟩ ∧ base ≤ g ∧ w.heap[g]? = some (.cells cur 86 (0, 0)) ∧ l.length ≤ cap ∧ cap ≤ maxLen ∧ cur.size = cap ∧ cur.toList.take l.length = sls l := by
  rcases h.2 with ⟨hv, hn⟩ | ⟨g, cap', cur, hv, hb, hg, hle, hm, hs, ht⟩
  · simp only [Value.slice.injEq] at hv
    exact .inl ⟨hv.1, hv.2.2, List.eq_nil_of_length_eq_zero hn⟩
  · simp only [Value.slice.injEq, true_and] at hv
    obtain ⟨rfl, rfl⟩ := hv
    exact .inr ⟨g, cur, rfl, hb, hg, hle, hm, by simpa using hs, by simpa using ht⟩
theorem OwnS.some {w : World} {base : Nat} {a : Option Addr} {cap : Nat} {l : List Sl} (h : OwnS w base a cap l) (hl : 0 < l.length) :
    ∃ g, a = Option.some ⟨g, 0, none⟩ ∧ base ≤ g ∧ g < w.heap.size ∧ (∀ i, w.frozen? ⟨g, i, none⟩ = false) ∧ ∀ i x, l[i]? = Option.some x → w.cell? ⟨g, i, none⟩ = Option.some (.slice x.1 x.2.1 x.2.2) := by
  rcases h.cases with ⟨_, _, rfl⟩ | ⟨g, cur, rfl, hb, hg, hle, hm, hs, ht⟩
  · simp at hl
  · refine ⟨g, rfl, hb, (Array.getElem?_eq_some_iff.1 hg).1, fun i => frozen_of_row w g i _ _ hg, fun i x hx => ?_⟩
    have hi := (List.getElem?_eq_some_iff.1 hx).1
    rw [cell_of_row w g i cur _ (0, 0) hg, ← sls_get l i x hx, ← ht, List.getElem?_take, if_pos hi]
    simp
theorem OwnS.lt {w : World} {base : Nat} {a : Option Addr} {cap : Nat} {l : List Sl} (h : OwnS w base a cap l) : ∀ k, blk a = Option.some k → base ≤ k ∧ k < w.heap.size := by
  intro k hk
  rcases h.cases with ⟨rfl, rfl, rfl⟩ | ⟨g, cur, rfl, hb, hg, _⟩
  · simp [blk] at hk
  · simp [blk] at hk
    subst hk
    exact ⟨hb, (Array.getElem?_eq_some_iff.1 hg).1⟩
theorem OwnS.nil (w : World) (base : Nat) : OwnS w base none 0 [] := World.ownsRow_nil w base _ _
theorem OwnS.kept {w w' : World} {base : Nat} {a : Option Addr} {cap : Nat} {l : List Sl} (h : OwnS w base a cap l) {row : Option Nat} (hg : w.grownBy w' row) (hne : blk a = none ∨ blk a ≠ row) : OwnS w' base a cap l := by
  refine World.ownsRow.kept h hg ?_
  cases a with
  | none => exact .inl rfl
  | some x =>
    rcases hne with h' | h'
    · cases h'
    · exact .inr h'
theorem OwnS.alloc {w : World} {base : Nat} {a : Option Addr} {cap : Nat} {l : List Sl} (h : OwnS w base a cap l) (o : Obj) : OwnS (w.alloc o) base a cap l := World.ownsRow.alloc h o
theorem OwnS.below {w w' : World} {base B : Nat} {a : Option Addr} {cap : Nat} {l : List Sl} (h : OwnS w base a cap l) (hb : Below B w w') (hB : w.heap.size ≤ B) : OwnS w' base a cap l := by
  refine ⟨h.1, ?_⟩
  rcases h.2 with hn | ⟨g, cap, cur, hv, hbb, hgg, rest⟩
  · exact .inl hn
  · refine .inr ⟨g, cap, cur, hv, hbb, ?_, rest⟩
    rw [hb.block g (by have := (Array.getElem?_eq_some_iff.1 hgg).1; omega)]
    exact hgg
/-- A row of slices and a row of bytes lie in two blocks. -/
theorem OwnS.ne {w : World} {base base' : Nat} {a b : Option Addr} {cap cap' : Nat} {l : List Sl} {r : List UInt8} (h : OwnS w base a cap l) (k : OwnB w base' b cap' r) : blk a = none ∨ blk a ≠ blk b := by
  rcases h.cases with ⟨rfl, _, _⟩ | ⟨g, cur, rfl, _, hg, _⟩
  · exact .inl rfl
  · right
    rcases k.cases with ⟨rfl, _, _⟩ | ⟨g', cur', rfl, _, hg', _⟩
    · simp [blk]
    · intro e
      simp [blk] at e
      subst e
      rw [hg] at hg'
      simp at hg'
theorem OwnS.ne' {w : World} {base base' : Nat} {a b : Option Addr} {cap cap' : Nat} {l : List Sl} {r : List UInt8} (h : OwnS w base a cap l) (k : OwnB w base' b cap' r) : blk b = none ∨ blk b ≠ blk a := by
  rcases h.ne k with h | h
  · cases hb : blk b with
    | none => exact .inl rfl
    | some x => right; rw [h]; simp
  · exact .inr (Ne.symm h)
theorem Tryz.infoS : (Tryz.prog.info? 86).map (fun i => (i.zero, i.size, i.bytes)) = some (some (.slice none 0 0), 1, 24) := by kernel_rfl

/-- append(s, p), s the call's own row of slices. -/
theorem wp_apps1 (w : World) {ops : Array Oper} {rest : List Oper} {o : Oper} {a : Act} {Q : Exit → Act → World → Prop} (hgd : o.guard = none) (s x : Operand)
    (ho : o.op = .call { callee := .builtin .append, args := #[s, x], argTypes := #[84, 84] })
    (base : Nat) (a1 : Option Addr) (cap1 : Nat) (l1 : List Sl) (hs : a.eval s = .slice a1 l1.length cap1) (hown : OwnS w base a1 cap1 l1)
    (b cap2 : Nat) (n : Sl) (hx : a.eval x = .slice (some ⟨b, 0, none⟩) 1 cap2) (hsrc : w.cell? ⟨b, 0, none⟩ = some (.slice n.1 n.2.1 n.2.2))
    (hlen : l1.length ≤ 100000000) (hbase : base ≤ w.heap.size)
    (h : ∀ a' cap' r w', Hid (r = l1 ++ [n]) → OwnS w' base a' cap' r → w.grownBy w' (blk a1) → wpList Tryz.prog ops Q rest (a.put o.dst (.slice a' r.length cap')) w') : wpList Tryz.prog ops Q (o :: rest) a w := by
  obtain ⟨i, hi, hz0, hz1, hz2⟩ := info_parts Tryz.infoS
  have hblk : (Value.slice a1 l1.length cap1).ownBlock = blk a1 := by cases a1 <;> rfl
  refine wpList_append_own w hgd s x 84 ho base 86 i (.slice none 0 0) 1 24 Tryz.underlying84 hi hz0 hz1 hz2 rfl (by decide) _ _ _ hs hown ⟨b, 0, none⟩ 1 cap2 (sls [n]) hx (by simp [sls_length]) ?_ (sls_one [n]) (by unfold maxLen; omega) (by omega) hbase ?_
  · intro j u hu
    have hj : j < 1 := by
      have := (List.getElem?_eq_some_iff.1 hu).1
      simpa [sls_length] using this
    obtain rfl : j = 0 := by omega
    rw [sls_get [n] 0 n (by simp)] at hu
    obtain rfl := Option.some.inj hu
    rw [addr_add]
    exact hsrc
  · intro v' w' h1 h2 _
    have e1 : l1.length + 1 = (l1 ++ [n]).length := by simp
    have e2 : sls l1 ++ sls [n] = sls (l1 ++ [n]) := (sls_append l1 [n]).symm
    rw [e1, e2] at h1
    have hv : ∃ a' cap', v' = .slice a' (l1 ++ [n]).length cap' := by
      rcases h1.2 with ⟨hv, hn⟩ | ⟨g, cap, cur, hv, _⟩
      · exact ⟨none, 0, by rw [hv, hn]⟩
      · exact ⟨_, _, hv⟩
    obtain ⟨a', cap', rfl⟩ := hv
    rw [hblk] at h2
    exact h a' cap' (l1 ++ [n]) w' rfl h1 h2
theorem cell_lits (w : World) (a : Option Addr) (n c : Nat) : (w.alloc (.cells #[.slice a n c] 86)).cell? ⟨w.heap.size, 0, none⟩ = some (.slice a n c) := by
  rw [cell_of_row _ w.heap.size _ #[.slice a n c] 86 (0, 0) (heap_alloc_new w _)]
  rfl

/-- The slices hold these lists, each in a row of the call's own, no two in one. -/
structure Pays (w : World) (base : Nat) (vs : List Sl) (ps : List (List UInt8)) : Prop where
  len : vs.length = ps.length
  own : ∀ (i : Nat) (p : List UInt8), ps[i]? = some p → ∃ a cap, vs[i]? = some (a, p.length, cap) ∧ OwnB w base a cap p
  apart : ∀ (i j : Nat) (x y : Sl), i < j → vs[i]? = some x → vs[j]? = some y → ∀ g h : Nat, blk x.1 = some g → blk y.1 = some h → g < h
theorem Pays.nil (w : World) (base : Nat) : Pays w base [] [] := ⟨rfl, fun i p h => by simp at h, fun i j x y _ h => by simp at h⟩
theorem Pays.below {w w' : World} {base B : Nat} {vs : List Sl} {ps : List (List UInt8)} (h : Pays w base vs ps) (hb : Below B w w') (hB : w.heap.size ≤ B) : Pays w' base vs ps :=
  ⟨h.len, fun i p hp => by obtain ⟨a, cap, h1, h2⟩ := h.own i p hp; exact ⟨a, cap, h1, h2.below hb hB⟩, h.apart⟩
theorem Pays.alloc {w : World} {base : Nat} {vs : List Sl} {ps : List (List UInt8)} (h : Pays w base vs ps) (o : Obj) : Pays (w.alloc o) base vs ps :=
  ⟨h.len, fun i p hp => by obtain ⟨a, cap, h1, h2⟩ := h.own i p hp; exact ⟨a, cap, h1, h2.alloc o⟩, h.apart⟩
/-- Something that is written in a row of slices changes no list. -/
theorem Pays.kept {w w' : World} {base base' : Nat} {vs us : List Sl} {ps : List (List UInt8)} {a : Option Addr} {cap : Nat} (h : Pays w base vs ps) (hS : OwnS w base' a cap us) (hg : w.grownBy w' (blk a)) : Pays w' base vs ps :=
  ⟨h.len, fun i p hp => by obtain ⟨b, c, h1, h2⟩ := h.own i p hp; exact ⟨b, c, h1, h2.kept hg (hS.ne' h2)⟩, h.apart⟩
theorem Pays.snoc {w w' : World} {base : Nat} {vs : List Sl} {ps : List (List UInt8)} {a : Option Addr} {cap : Nat} {p : List UInt8} (h : Pays w base vs ps) (hb : Below w.heap.size w w') (hbase : base ≤ w.heap.size) (ho : OwnB w' w.heap.size a cap p) : Pays w' base (vs ++ [(a, p.length, cap)]) (ps ++ [p]) := by
  have h' := h.below hb (Nat.le_refl _)
  refine ⟨by simp [h.len], fun i q hq => ?_, fun i j x y hij hx hy g k hg hk => ?_⟩
  · by_cases hi : i < ps.length
    · rw [List.getElem?_append_left hi] at hq
      obtain ⟨b, c, h1, h2⟩ := h'.own i q hq
      refine ⟨b, c, ?_, h2⟩
      rw [List.getElem?_append_left (by have := h.len; omega)]
      exact h1
    · have hi2 := (List.getElem?_eq_some_iff.1 hq).1
      simp at hi2
      obtain rfl : i = ps.length := by omega
      simp at hq
      subst hq
      refine ⟨a, cap, ?_, ho.base hbase⟩
      rw [← h.len]
      simp
  · have hj2 := (List.getElem?_eq_some_iff.1 hy).1
    simp at hj2
    rw [List.getElem?_append_left (by omega)] at hx
    by_cases hj : j < vs.length
    · rw [List.getElem?_append_left hj] at hy
      exact h.apart i j x y hij hx hy g k hg hk
    · obtain rfl : j = vs.length := by omega
      simp at hy
      subst hy
      have h1 := (ho.lt k hk).1
      have hi : i < ps.length := by have := (List.getElem?_eq_some_iff.1 hx).1; have := h.len; omega
      obtain ⟨b, c, e1, e2⟩ := h.own i _ (List.getElem?_eq_getElem hi)
      rw [hx] at e1
      obtain rfl := Option.some.inj e1
      have h2 := (e2.lt g hg).2
      omega

/-- b[E:], whatever b is. -/
theorem slice_tail (a : Option Addr) (cap E : Nat) (l : List UInt8) (hle : l.length ≤ cap) (h1 : E ≤ l.length) (hrow : l ≠ [] → ∃ b off, a = some ⟨b, off, none⟩) :
    ∃ a', (∀ w, (Instr.slice 86 (.slice a l.length cap) (some (.int .i64 (E : Int))) none none).run Tryz.prog w = .ok (.slice a' (l.drop E).length (cap - E)) w) ∧ ∀ w, Bs w a cap l → Bs w a' (cap - E) (l.drop E) := by
  refine ⟨if cap = E then a else a.map (·.add (E * 1)), fun w => ?_, fun w hB => ?_⟩
  · rw [run_slice_l (P := Tryz.prog) w 86 _ _ cap Tryz.elemB .i64 (E : Int) (by omega) (by omega), Tryz.sizeB]
    simp only [Result.andThen, sliced, Int.toNat_natCast, List.length_drop]
  · refine ⟨?_, by simp; have := hB.le; omega, by have := hB.most; omega, ?_⟩
    · by_cases hc : cap = E
      · intro h; exact absurd (List.drop_eq_nil_of_le (by omega)) h
      · rw [if_neg hc]
        by_cases hl : l = []
        · subst hl; intro h; simp at h
        · obtain ⟨b, off, rfl⟩ := hrow hl
          rw [Option.map_some, Nat.mul_one, addr_add]
          exact hB.row.drop E
    · intro h
      by_cases hc : cap = E
      · omega
      · rw [if_neg hc] at h
        have := hB.nz (by cases a <;> simp_all)
        omega
#print axioms wp_apps1
end Go.Proofs.YtmcgghjeocnpnaaGreatDoor
end
section
set_option linter.unusedVariables false
namespace Go.Proofs.YtmcgghjeocnpnaaGreatDoor
open Go.RowKit

theorem stp_of_list {P : Program} {ops : Array Oper} {o : Oper} {a : Act} {w : World} {K : Act → World → Prop} {Q : Exit → Act → World → Prop} {E : Prop} (hgd : o.guard = none)
    (h : wpList P ops (fun ex a w => ex = .normal ∧ K a w) [o] a w) : if Region.wanted o (yielded ops a.tmps) = true then Oper.wp P o a w K Q else E := by
  have hw : Region.wanted o (yielded ops a.tmps) = true := by simp [Region.wanted, hgd]
  rw [if_pos hw]
  unfold wpList at h
  rw [if_pos hw] at h
  rcases h with h | ⟨_, a', w', h', _⟩
  · unfold Oper.wp at h ⊢
    generalize (execOp a.eval o).run P w = r at *
    cases r with
    | ok n w' =>
      cases n <;> simp only [Oper.upon, wpList] at h ⊢ <;>
        first
          | exact h.2
          | exact Calls.mono h (fun e w'' he => by cases e <;> first | exact he.2 | (exact absurd he.1 (by simp)) | (obtain ⟨_, _, h1, _⟩ := he; cases h1))
          | exact Rows.mono h (fun _ _ he => he.2)
          | (exact absurd h.1 (by simp))
    | halt x w' => cases x <;> simp only [Oper.upon] at h ⊢ <;> first | exact h | (exact absurd h.1 (by simp)) | (obtain ⟨_, _, h1, _⟩ := h; cases h1)
  · cases h'

theorem stp_app2 (w : World) {ops : Array Oper} {o : Oper} {a : Act} {K : Act → World → Prop} {Q : Exit → Act → World → Prop} {E : Prop} (hgd : o.guard = none) (s x : Operand)
    (ho : o.op = .call { callee := .builtin .append, args := #[s, x], argTypes := #[86, 86] })
    (base : Nat) (a1 : Option Addr) (cap1 : Nat) (l1 : List UInt8) (n1 : Nat) (hs : a.eval s = .slice a1 n1 cap1) (hn1 : n1 = l1.length) (hown : OwnB w base a1 cap1 l1)
    (a2 : Option Addr) (cap2 : Nat) (l2 : List UInt8) (n2 : Nat) (hx : a.eval x = .slice a2 n2 cap2) (hn2 : n2 = l2.length) (hsrc : Row w a2 l2) (hnone : a2 = none → cap2 = 0)
    (hlen : l1.length + l2.length ≤ 140737488355328) (hbase : base ≤ w.heap.size)
    (h : ∀ a' cap' r w', Hid (r = l1 ++ l2) → Hid (OwnB w' base a' cap' r) → Hid (w.grownBy w' (blk a1)) → Hid (a' = a1 ∨ ∀ k, blk a' = some k → w.heap.size ≤ k) → K (a.put o.dst (.slice a' r.length cap')) w') :
    if Region.wanted o (yielded ops a.tmps) = true then Oper.wp Tryz.prog o a w K Q else E := by
  subst hn1
  refine stp_of_list hgd (wp_app2 w hgd s x ho base a1 cap1 l1 hs hown a2 cap2 l2 n2 hx hn2 hsrc hnone hlen hbase ?_)
  intro a' cap' r w' h1 h2 h3 h4
  exact ⟨rfl, h a' cap' r w' h1 h2 h3 h4⟩
#print axioms stp_app2
end Go.Proofs.YtmcgghjeocnpnaaGreatDoor
end
section
set_option linter.unusedVariables false
namespace Go.Proofs.YtmcgghjeocnpnaaGreatDoor
open Go.RowKit

def is (l : List Nat) : List Value := l.map fun (c : Nat) => .int .i64 (c : Int)
theorem is_length (l : List Nat) : (is l).length = l.length := by simp [is]
theorem is_append (l r : List Nat) : is (l ++ r) = is l ++ is r := by simp [is]
theorem is_get (l : List Nat) (i : Nat) (h : i < l.length) : (is l)[i]? = some (.int .i64 ((l.getD i 0 : Nat) : Int)) := by simp [is, h]
theorem is_one (l : List Nat) : ∀ u ∈ is l, u.oneCell' = true := by
  intro u hu
  obtain ⟨_, _, rfl⟩ := List.mem_map.1 hu
  rfl
def OwnI (w : World) (base : Nat) (a : Option Addr) (cap : Nat) (l : List Nat) : Prop := w.ownsRow base 3 1 (.slice a l.length cap) l.length (is l)

theorem OwnI.cases {w : World} {base : Nat} {a : Option Addr} {cap : Nat} {l : List Nat} (h : OwnI w base a cap l) :
    (a = none ∧ cap = 0 ∧ l = []) ∨ ∃ g cur, a = some ⟨g, 0, none⟩ ∧ base ≤ g ∧ w.heap[g]? = some (.cells cur 3 (0, 0)) ∧ l.length ≤ cap ∧ cap ≤ maxLen ∧ cur.size = cap ∧ cur.toList.take l.length = is l := by
  rcases h.2 with ⟨hv, hn⟩ | ⟨g, cap', cur, hv, hb, hg, hle, hm, hs, ht⟩
  · simp only [Value.slice.injEq] at hv
    exact .inl ⟨hv.1, hv.2.2, List.eq_nil_of_length_eq_zero hn⟩
  · simp only [Value.slice.injEq, true_and] at hv
    obtain ⟨rfl, rfl⟩ := hv
    exact .inr ⟨g, cur, rfl, hb, hg, hle, hm, by simpa using hs, by simpa using ht⟩
/-- What is read at a place. -/
theorem OwnI.some {w : World} {base : Nat} {a : Option Addr} {cap : Nat} {l : List Nat} (h : OwnI w base a cap l) (hl : 0 < l.length) :
    ∃ g, a = Option.some ⟨g, 0, none⟩ ∧ base ≤ g ∧ g < w.heap.size ∧ ∀ i, i < l.length → w.cell? ⟨g, i, none⟩ = Option.some (.int .i64 ((l.getD i 0 : Nat) : Int)) := by
  rcases h.cases with ⟨_, _, rfl⟩ | ⟨g, cur, rfl, hb, hg, hle, hm, hs, ht⟩
  · simp at hl
  · refine ⟨g, rfl, hb, (Array.getElem?_eq_some_iff.1 hg).1, fun i hi => ?_⟩
    rw [cell_of_row w g i cur _ (0, 0) hg, ← is_get l i hi, ← ht, List.getElem?_take, if_pos hi]
    simp
theorem OwnI.lt {w : World} {base : Nat} {a : Option Addr} {cap : Nat} {l : List Nat} (h : OwnI w base a cap l) : ∀ k, blk a = Option.some k → base ≤ k ∧ k < w.heap.size := by
  intro k hk
  rcases h.cases with ⟨rfl, rfl, rfl⟩ | ⟨g, cur, rfl, hb, hg, _⟩
  · simp [blk] at hk
  · simp [blk] at hk
    subst hk
    exact ⟨hb, (Array.getElem?_eq_some_iff.1 hg).1⟩
theorem OwnI.le {w : World} {base : Nat} {a : Option Addr} {cap : Nat} {l : List Nat} (h : OwnI w base a cap l) : l.length ≤ cap ∧ cap ≤ maxLen := by
  rcases h.cases with ⟨rfl, rfl, rfl⟩ | ⟨g, cur, rfl, hb, hg, h1, h2, _⟩
  · simp
  · exact ⟨h1, h2⟩
theorem OwnI.nil (w : World) (base : Nat) : OwnI w base none 0 [] := World.ownsRow_nil w base _ _
theorem OwnI.kept {w w' : World} {base : Nat} {a : Option Addr} {cap : Nat} {l : List Nat} (h : OwnI w base a cap l) {row : Option Nat} (hg : w.grownBy w' row) (hne : blk a = none ∨ blk a ≠ row) : OwnI w' base a cap l := by
  refine World.ownsRow.kept h hg ?_
  cases a with
  | none => exact .inl rfl
  | some x =>
    rcases hne with h' | h'
    · cases h'
    · exact .inr h'
theorem OwnI.alloc {w : World} {base : Nat} {a : Option Addr} {cap : Nat} {l : List Nat} (h : OwnI w base a cap l) (o : Obj) : OwnI (w.alloc o) base a cap l := World.ownsRow.alloc h o
theorem OwnI.below {w w' : World} {base B : Nat} {a : Option Addr} {cap : Nat} {l : List Nat} (h : OwnI w base a cap l) (hb : Below B w w') (hB : w.heap.size ≤ B) : OwnI w' base a cap l := by
  refine ⟨h.1, ?_⟩
  rcases h.2 with hn | ⟨g, cap, cur, hv, hbb, hgg, rest⟩
  · exact .inl hn
  · refine .inr ⟨g, cap, cur, hv, hbb, ?_, rest⟩
    rw [hb.block g (by have := (Array.getElem?_eq_some_iff.1 hgg).1; omega)]
    exact hgg
/-- A row of ints and a row of bytes lie in two blocks. -/
theorem OwnI.ne {w : World} {base base' : Nat} {a b : Option Addr} {cap cap' : Nat} {l : List Nat} {r : List UInt8} (h : OwnI w base a cap l) (k : OwnB w base' b cap' r) : blk a = none ∨ blk a ≠ blk b := by
  rcases h.cases with ⟨rfl, _, _⟩ | ⟨g, cur, rfl, _, hg, _⟩
  · exact .inl rfl
  · right
    rcases k.cases with ⟨rfl, _, _⟩ | ⟨g', cur', rfl, _, hg', _⟩
    · simp [blk]
    · intro e
      simp [blk] at e
      subst e
      rw [hg] at hg'
      simp at hg'
theorem Tryz.infoI : (Tryz.prog.info? 3).map (fun i => (i.zero, i.size, i.bytes)) = some (some (.int .i64 0), 1, 8) := by kernel_rfl

/-- append(s, n), s the call's own. -/
theorem wp_appi (w : World) {ops : Array Oper} {rest : List Oper} {o : Oper} {a : Act} {Q : Exit → Act → World → Prop} (hgd : o.guard = none) (s x : Operand)
    (ho : o.op = .call { callee := .builtin .append, args := #[s, x], argTypes := #[156, 156] })
    (base : Nat) (a1 : Option Addr) (cap1 : Nat) (l1 : List Nat) (hs : a.eval s = .slice a1 l1.length cap1) (hown : OwnI w base a1 cap1 l1)
    (b cap2 n : Nat) (hx : a.eval x = .slice (some ⟨b, 0, none⟩) 1 cap2) (hsrc : w.cell? ⟨b, 0, none⟩ = some (.int .i64 (n : Int)))
    (hlen : l1.length ≤ 100000000) (hbase : base ≤ w.heap.size)
    (h : ∀ a' cap' r w', Hid (r = l1 ++ [n]) → OwnI w' base a' cap' r → w.grownBy w' (blk a1) → wpList Tryz.prog ops Q rest (a.put o.dst (.slice a' r.length cap')) w') : wpList Tryz.prog ops Q (o :: rest) a w := by
  obtain ⟨i, hi, hz0, hz1, hz2⟩ := info_parts Tryz.infoI
  have hblk : (Value.slice a1 l1.length cap1).ownBlock = blk a1 := by cases a1 <;> rfl
  refine wpList_append_own w hgd s x 156 ho base 3 i (.int .i64 0) 1 8 Tryz.underlying156 hi hz0 hz1 hz2 rfl (by decide) _ _ _ hs hown ⟨b, 0, none⟩ 1 cap2 (is [n]) hx (by simp [is_length]) ?_ (is_one [n]) (by unfold maxLen; omega) (by omega) hbase ?_
  · intro j u hu
    have hj : j < 1 := by
      have := (List.getElem?_eq_some_iff.1 hu).1
      simpa [is_length] using this
    obtain rfl : j = 0 := by omega
    rw [is_get [n] 0 (by simp)] at hu
    obtain rfl := Option.some.inj hu
    rw [addr_add]
    exact hsrc
  · intro v' w' h1 h2 _
    have e1 : l1.length + 1 = (l1 ++ [n]).length := by simp
    have e2 : is l1 ++ is [n] = is (l1 ++ [n]) := (is_append l1 [n]).symm
    rw [e1, e2] at h1
    have hv : ∃ a' cap', v' = .slice a' (l1 ++ [n]).length cap' := by
      rcases h1.2 with ⟨hv, hn⟩ | ⟨g, cap, cur, hv, _⟩
      · exact ⟨none, 0, by rw [hv, hn]⟩
      · exact ⟨_, _, hv⟩
    obtain ⟨a', cap', rfl⟩ := hv
    rw [hblk] at h2
    exact h a' cap' (l1 ++ [n]) w' rfl h1 h2
theorem cell_liti (w : World) (z : Int) (n : Nat) (h : z = (n : Int)) : (w.alloc (.cells #[.int .i64 z] 3)).cell? ⟨w.heap.size, 0, none⟩ = some (.int .i64 (n : Int)) := by
  subst h
  rw [cell_of_row _ w.heap.size _ #[.int .i64 (n : Int)] 3 (0, 0) (heap_alloc_new w _)]
  rfl
#print axioms wp_appi
end Go.Proofs.YtmcgghjeocnpnaaGreatDoor
end
