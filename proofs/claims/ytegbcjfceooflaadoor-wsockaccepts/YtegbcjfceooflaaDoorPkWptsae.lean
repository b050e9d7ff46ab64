/-
  BLOCKS THAT ARE KNOWN WHOLE: an array in a block of its own, its cells told as one list.; SLICES OF WORDS, AND OF SLICES OF WORDS, THAT A CALL MAKES ITSELF.
-/
import Derived.Test.YtegbcjfceooflaaDoorPkWptsad
import Derived.Deep.QuietTactic
import Derived.Laws.Rows
import Derived.Laws.Tables
section
set_option linter.unusedVariables false
namespace Go.Proofs.YtegbcjfceooflaaDoor
open Go.RowKit

/-- Words as cells. -/
def us (l : List UInt32) : List Value := l.map fun x => .int .u32 (x.toNat : Int)
theorem us_length (l : List UInt32) : (us l).length = l.length := by simp [us]
theorem us_get (l : List UInt32) (i : Nat) (h : i < l.length) : (us l)[i]? = some (.int .u32 ((l.getD i 0).toNat : Int)) := by simp [us, h]
theorem us_set (l : List UInt32) (i : Nat) (x : UInt32) : (us l).set i (.int .u32 (x.toNat : Int)) = us (l.set i x) := by simp [us, List.map_set]
theorem bs_set (l : List UInt8) (i : Nat) (x : UInt8) : (bs l).set i (.int .u8 (x.toNat : Int)) = bs (l.set i x) := by simp [bs, List.map_set]
theorem us_one (l : List UInt32) : ((us l).toArray.all (·.oneCell')) = true := by simp [us, Value.oneCell']
theorem bs_one' (l : List UInt8) : ((bs l).toArray.all (·.oneCell')) = true := by simp [bs, Value.oneCell']

/-- Block C holds just these cells. -/
def Cel (w : World) (C : Nat) (t : TypeId) (vs : List Value) : Prop := w.heap[C]? = some (.cells vs.toArray t (0, 0))

theorem Cel.lt {w : World} {C : Nat} {t : TypeId} {vs : List Value} (h : Cel w C t vs) : C < w.heap.size := (Array.getElem?_eq_some_iff.1 h).1
theorem Cel.cell {w : World} {C : Nat} {t : TypeId} {vs : List Value} (h : Cel w C t vs) (i : Nat) : w.cell? ⟨C, i, none⟩ = vs[i]? := by
  rw [cell_of_row w C i _ _ _ h]; simp
theorem Cel.word {w : World} {C : Nat} {t : TypeId} {l : List UInt32} (h : Cel w C t (us l)) (i : Nat) (hi : i < l.length) : w.cell? ⟨C, i, none⟩ = some (.int .u32 ((l.getD i 0).toNat : Int)) := by
  rw [h.cell, us_get l i hi]
theorem Cel.byte {w : World} {C : Nat} {t : TypeId} {l : List UInt8} (h : Cel w C t (bs l)) (i : Nat) (hi : i < l.length) : w.cell? ⟨C, i, none⟩ = some (.int .u8 ((l.getD i 0).toNat : Int)) := by
  rw [h.cell, bs_get l i hi]
theorem Cel.fr {w : World} {C : Nat} {t : TypeId} {vs : List Value} (h : Cel w C t vs) (i : Nat) : w.frozen? ⟨C, i, none⟩ = false := frozen_of_row w C i _ _ h
theorem Cel.set {w : World} {C : Nat} {t : TypeId} {vs : List Value} (h : Cel w C t vs) (i : Nat) (u : Value) : Cel (w.setCell ⟨C, i, none⟩ u) C t (vs.set i u) := by
  unfold Cel at h ⊢
  simp only [World.setCell, Array.getElem?_modify]
  rw [if_pos trivial, h]
  simp
theorem Cel.setW {w : World} {C : Nat} {t : TypeId} {l : List UInt32} (h : Cel w C t (us l)) (i : Nat) (x : UInt32) : Cel (w.setCell ⟨C, i, none⟩ (.int .u32 (x.toNat : Int))) C t (us (l.set i x)) := by
  rw [← us_set]; exact h.set i _
theorem Cel.setW' {w : World} {C : Nat} {t : TypeId} {l : List UInt32} (h : Cel w C t (us l)) (i : Nat) (x : UInt32) (v : Int) (hv : v = (x.toNat : Int)) : Cel (w.setCell ⟨C, i, none⟩ (.int .u32 v)) C t (us (l.set i x)) := by
  subst hv; exact h.setW i x
theorem Cel.setB' {w : World} {C : Nat} {t : TypeId} {l : List UInt8} (h : Cel w C t (bs l)) (i : Nat) (x : UInt8) (v : Int) (hv : v = (x.toNat : Int)) : Cel (w.setCell ⟨C, i, none⟩ (.int .u8 v)) C t (bs (l.set i x)) := by
  subst hv; rw [← bs_set]; exact h.set i _
theorem Cel.setB {w : World} {C : Nat} {t : TypeId} {l : List UInt8} (h : Cel w C t (bs l)) (i : Nat) (x : UInt8) : Cel (w.setCell ⟨C, i, none⟩ (.int .u8 (x.toNat : Int))) C t (bs (l.set i x)) := by
  rw [← bs_set]; exact h.set i _
theorem Cel.other {w : World} {C D : Nat} {t : TypeId} {vs : List Value} (h : Cel w C t vs) (i : Nat) (u : Value) (hne : C ≠ D) : Cel (w.setCell ⟨D, i, none⟩ u) C t vs := by
  unfold Cel at h ⊢
  rw [Below.heap_setCell _ _ _ _ hne]
  exact h
theorem Cel.alloc {w : World} {C : Nat} {t : TypeId} {vs : List Value} (h : Cel w C t vs) (o : Obj) : Cel (w.alloc o) C t vs := by
  unfold Cel
  rw [Below.heap_alloc w o C h.lt]; exact h
theorem Cel.drew {w : World} {C : Nat} {t : TypeId} {vs : List Value} (h : Cel w C t vs) : Cel w.drew C t vs := h
theorem Cel.drewN {w : World} {C : Nat} {t : TypeId} {vs : List Value} (h : Cel w C t vs) (n : Nat) : Cel (w.drewN n) C t vs := h
theorem Cel.below {w w' : World} {C B : Nat} {t : TypeId} {vs : List Value} (h : Cel w C t vs) (hb : Below B w w') (hC : C < B) : Cel w' C t vs := by
  unfold Cel
  rw [hb.block C hC]; exact h
theorem Cel.new (w : World) (t : TypeId) (vs : List Value) : Cel (w.alloc (.cells vs.toArray t)) w.heap.size t vs := heap_alloc_new w _
theorem Cel.new' (w : World) (t : TypeId) (vs : List Value) (c : Array Value) (h : c = vs.toArray) : Cel (w.alloc (.cells c t)) w.heap.size t vs := by subst h; exact heap_alloc_new w _
theorem Cel.newAt (w : World) (t : TypeId) (vs : List Value) (n : Nat) (h : w.heap.size = n) : Cel (w.alloc (.cells vs.toArray t)) n t vs := by subst h; exact heap_alloc_new w _
theorem Cel.grown {w w' : World} {C : Nat} {t : TypeId} {vs : List Value} (h : Cel w C t vs) {row : Option Nat} (hg : w.grownBy w' row) (hne : row ≠ some C) : Cel w' C t vs := by
  unfold Cel
  rw [hg.block C h.lt (fun e => hne e.symm)]; exact h
theorem Cel.row {w : World} {C : Nat} {t : TypeId} {l : List UInt8} (h : Cel w C t (bs l)) : Row w (some ⟨C, 0, none⟩) l := by
  intro _
  refine ⟨C, 0, rfl, fun i hi => ?_⟩
  rw [Nat.zero_add]
  exact h.byte i hi
theorem cel_keep {w : World} {C i k : Nat} {u v : Value} (h : w.cell? ⟨C, i, none⟩ = some u) (hne : i ≠ k) : ((w.setCell ⟨C, k, none⟩ v).drew).cell? ⟨C, i, none⟩ = some u := by
  show (w.setCell ⟨C, k, none⟩ v).cell? ⟨C, i, none⟩ = some u
  have hn : (⟨C, k, none⟩ : Addr) ≠ ⟨C, i, none⟩ := fun e => hne (congrArg Addr.off e).symm
  exact (World.cell?_setCell_other (h := hn) ..).trans h
theorem bdrewN {B : Nat} {w w' : World} (h : Below B w w') (n : Nat) : Below B w (w'.drewN n) := ⟨h.os, h.tape, h.output, h.size, h.block⟩
theorem Cel.setRow {w : World} {C : Nat} {t : TypeId} {old : List Value} (h : Cel w C t old) (vs : List Value) : Cel (w.setRow C vs.toArray) C t vs := by
  unfold Cel at h ⊢
  simp only [World.setRow, Array.getElem?_modify]
  rw [if_pos trivial, h]
  rfl
theorem setRow_grown (w : World) (C : Nat) (cs : Array Value) : w.grownBy (w.setRow C cs) (some C) := by
  refine ⟨rfl, rfl, rfl, by simp [World.setRow], fun k hk hne => ?_⟩
  simp only [World.setRow, Array.getElem?_modify]
  rw [if_neg (fun e => hne (by rw [e]))]

theorem cg_trans {a b c : World} {row : Option Nat} (h : a.grownBy b row) (k : b.grownBy c row) : a.grownBy c row :=
  ⟨k.os.trans h.os, k.tape.trans h.tape, k.output.trans h.output, Nat.le_trans h.size k.size, fun i hi hne => (k.block i (Nat.lt_of_lt_of_le hi h.size) hne).trans (h.block i hi hne)⟩
theorem cg_drewN (w : World) (n : Nat) (row : Option Nat) : w.grownBy (w.drewN n) row := ⟨rfl, rfl, rfl, Nat.le_refl _, fun _ _ _ => rfl⟩
theorem cg_drew (w : World) (row : Option Nat) : w.grownBy w.drew row := ⟨rfl, rfl, rfl, Nat.le_refl _, fun _ _ _ => rfl⟩
theorem cg_alloc (w : World) (o : Obj) (row : Option Nat) : w.grownBy (w.alloc o) row := ⟨rfl, rfl, rfl, by simp, fun k hk _ => Below.heap_alloc w o k hk⟩
theorem cg_below {w w' : World} (h : Below w.heap.size w w') (row : Option Nat) : w.grownBy w' row := ⟨h.os, h.tape, h.output, h.size, fun k hk _ => h.block k hk⟩
/-- What another block holds may change, where that block is new. -/
theorem cg_new {w w' w'' : World} {C : Nat} {row : Option Nat} (h : w.grownBy w' row) (hC : w.heap.size ≤ C) (k : w'.grownBy w'' (some C)) : w.grownBy w'' row :=
  ⟨k.os.trans h.os, k.tape.trans h.tape, k.output.trans h.output, Nat.le_trans h.size k.size, fun i hi hne => (k.block i (Nat.lt_of_lt_of_le hi h.size) (by intro e; cases e; omega)).trans (h.block i hi hne)⟩
theorem cg_set (w : World) (p : Addr) (u : Value) : w.grownBy (w.setCell p u) (some p.block) :=
  ⟨rfl, rfl, rfl, by simp [World.setCell], fun k hk hne => Below.heap_setCell w p u k (by intro h; subst h; exact hne rfl)⟩
theorem cg_to_below {w w' : World} {C B : Nat} (h : w.grownBy w' (some C)) (hC : B ≤ C) (hB : B ≤ w.heap.size) : Below B w w' :=
  ⟨h.os, h.tape, h.output, h.size, fun k hk => h.block k (by omega) (by intro e; cases e; omega)⟩

/-- A whole array is read. -/
theorem wpL_load {ops : Array Oper} {rest : List Oper} {o : Oper} {a : Act} {w : World} {Q : Exit → Act → World → Prop} (hgd : o.guard = none) (ty : TypeId) (x : Operand) (ho : o.op = .load ty x)
    (g : Nat) (hx : a.eval x = .pointer (some ⟨g, 0, none⟩)) (t : TypeId) (vs : List Value) (n : Nat) (e : TypeId) (hc : Cel w g t vs) (hu : Tryd.prog.underlying ty = some (.array n e)) (hi : (Tryd.prog.info? ty).map (·.size) = some vs.length)
    (h : wpList Tryd.prog ops Q rest (a.put o.dst (.agg vs.toArray)) w) : wpList Tryd.prog ops Q (o :: rest) a w :=
  wpList_load_row hgd ty x ho g hx t vs.toArray (0, 0) _ hc hu rfl (by rw [hi]; simp) h

/-- A whole array is written. -/
theorem wpL_store {ops : Array Oper} {rest : List Oper} {o : Oper} {a : Act} {w : World} {Q : Exit → Act → World → Prop} (hgd : o.guard = none) (ty : TypeId) (x y : Operand) (ho : o.op = .store ty x y)
    (g : Nat) (hx : a.eval x = .pointer (some ⟨g, 0, none⟩)) (vs : List Value) (hy : a.eval y = .agg vs.toArray) (t : TypeId) (old : List Value) (hc : Cel w g t old) (hl : old.length = vs.length) (hi : (Tryd.prog.info? ty).map (·.size) = some vs.length) (h1 : vs.toArray.all (·.oneCell') = true)
    (h : ∀ w', Cel w' g t vs → w.grownBy w' (some g) → wpList Tryd.prog ops Q rest (a.put o.dst undef) w') : wpList Tryd.prog ops Q (o :: rest) a w :=
  wpList_plain hgd fun _ hK => by
    unfold Oper.wp execOp
    simp only [ho, hx, hy, Instr.storeAt, Instr.sureAddr, Sem.run_bind, Sem.run_pure, Result.andThen_ok, run_storeVar_row w g t ty old.toArray vs.toArray hc (by rw [hi]; simp) (by simpa using hl) h1]
    exact hK _ _ (h _ (hc.setRow vs) (setRow_grown w g _))

/-- A whole array handed back. -/
theorem results_cel {fn : Func} {p : Tmp} {ty : TypeId} (hf : fn.results = #[.cell p ty]) (tmps : Array Value) (w : World) (g : Nat) (t : TypeId) (vs : List Value) (n : Nat) (e : TypeId)
    (hp : tmps.getD p undef = .pointer (some ⟨g, 0, none⟩)) (hc : Cel w g t vs) (hu : Tryd.prog.underlying ty = some (.array n e)) (hi : (Tryd.prog.info? ty).map (·.size) = some vs.length) :
    (results fn tmps).run Tryd.prog w = .ok (.agg vs.toArray) w :=
  results_cell_row hf tmps w g t vs.toArray (0, 0) _ hp hc hu rfl (by rw [hi]; simp)
#print axioms wpL_store
end Go.Proofs.YtegbcjfceooflaaDoor
end
section
set_option linter.unusedVariables false
namespace Go.Proofs.YtegbcjfceooflaaDoor
open Go.RowKit

def OwnW (w : World) (base : Nat) (a : Option Addr) (cap : Nat) (l : List UInt32) : Prop := w.ownsRow base 69 1 (.slice a l.length cap) l.length (us l)

theorem OwnW.cases {w : World} {base : Nat} {a : Option Addr} {cap : Nat} {l : List UInt32} (h : OwnW w base a cap l) :
    (a = none ∧ cap = 0 ∧ l = []) ∨ ∃ g cur, a = some ⟨g, 0, none⟩ ∧ base ≤ g ∧ w.heap[g]? = some (.cells cur 69 (0, 0)) ∧ l.length ≤ cap ∧ cap ≤ maxLen ∧ cur.size = cap ∧ cur.toList.take l.length = us l := by
  rcases h.2 with ⟨hv, hn⟩ | ⟨g, cap', cur, hv, hb, hg, hle, hm, hs, ht⟩
  · simp only [Value.slice.injEq] at hv
    exact .inl ⟨hv.1, hv.2.2, List.eq_nil_of_length_eq_zero hn⟩
  · simp only [Value.slice.injEq, true_and] at hv
    obtain ⟨rfl, rfl⟩ := hv
    exact .inr ⟨g, cur, rfl, hb, hg, hle, hm, by simpa using hs, by simpa using ht⟩
/-- What is read at a place. -/
theorem OwnW.some {w : World} {base : Nat} {a : Option Addr} {cap : Nat} {l : List UInt32} (h : OwnW w base a cap l) (hl : 0 < l.length) :
    ∃ g, a = Option.some ⟨g, 0, none⟩ ∧ base ≤ g ∧ g < w.heap.size ∧ (∀ i, w.frozen? ⟨g, i, none⟩ = false) ∧ ∀ i, i < l.length → w.cell? ⟨g, i, none⟩ = Option.some (.int .u32 ((l.getD i 0).toNat : Int)) := by
  rcases h.cases with ⟨_, _, rfl⟩ | ⟨g, cur, rfl, hb, hg, hle, hm, hs, ht⟩
  · simp at hl
  · refine ⟨g, rfl, hb, (Array.getElem?_eq_some_iff.1 hg).1, fun i => frozen_of_row w g i _ _ hg, fun i hi => ?_⟩
    rw [cell_of_row w g i cur _ (0, 0) hg, ← us_get l i hi, ← ht, List.getElem?_take, if_pos hi]
    simp
theorem OwnW.lt {w : World} {base : Nat} {a : Option Addr} {cap : Nat} {l : List UInt32} (h : OwnW w base a cap l) : ∀ k, blk a = Option.some k → base ≤ k ∧ k < w.heap.size := by
  intro k hk
  rcases h.cases with ⟨rfl, rfl, rfl⟩ | ⟨g, cur, rfl, hb, hg, _⟩
  · simp [blk] at hk
  · simp [blk] at hk
    subst hk
    exact ⟨hb, (Array.getElem?_eq_some_iff.1 hg).1⟩
theorem OwnW.le {w : World} {base : Nat} {a : Option Addr} {cap : Nat} {l : List UInt32} (h : OwnW w base a cap l) : l.length ≤ cap ∧ cap ≤ maxLen := by
  rcases h.cases with ⟨rfl, rfl, rfl⟩ | ⟨g, cur, rfl, hb, hg, h1, h2, _⟩
  · simp
  · exact ⟨h1, h2⟩
theorem OwnW.nil (w : World) (base : Nat) : OwnW w base none 0 [] := World.ownsRow_nil w base _ _
theorem OwnW.kept {w w' : World} {base : Nat} {a : Option Addr} {cap : Nat} {l : List UInt32} (h : OwnW w base a cap l) {row : Option Nat} (hg : w.grownBy w' row) (hne : blk a = none ∨ blk a ≠ row) : OwnW w' base a cap l := by
  refine World.ownsRow.kept h hg ?_
  cases a with
  | none => exact .inl rfl
  | some x =>
    rcases hne with h' | h'
    · cases h'
    · exact .inr h'
theorem OwnW.alloc {w : World} {base : Nat} {a : Option Addr} {cap : Nat} {l : List UInt32} (h : OwnW w base a cap l) (o : Obj) : OwnW (w.alloc o) base a cap l := World.ownsRow.alloc h o
theorem OwnW.below {w w' : World} {base B : Nat} {a : Option Addr} {cap : Nat} {l : List UInt32} (h : OwnW w base a cap l) (hb : Below B w w') (hB : w.heap.size ≤ B) : OwnW w' base a cap l := by
  refine ⟨h.1, ?_⟩
  rcases h.2 with hn | ⟨g, cap, cur, hv, hbb, hgg, rest⟩
  · exact .inl hn
  · refine .inr ⟨g, cap, cur, hv, hbb, ?_, rest⟩
    rw [hb.block g (by have := (Array.getElem?_eq_some_iff.1 hgg).1; omega)]
    exact hgg
/-- A row of ints and a row of bytes lie in two blocks. -/
theorem OwnW.ne {w : World} {base base' : Nat} {a b : Option Addr} {cap cap' : Nat} {l : List UInt32} {r : List UInt8} (h : OwnW w base a cap l) (k : OwnB w base' b cap' r) : blk a = none ∨ blk a ≠ blk b := by
  rcases h.cases with ⟨rfl, _, _⟩ | ⟨g, cur, rfl, _, hg, _⟩
  · exact .inl rfl
  · right
    rcases k.cases with ⟨rfl, _, _⟩ | ⟨g', cur', rfl, _, hg', _⟩
    · simp [blk]
    · intro e
      simp [blk] at e
      subst e
      rw [hg] at hg'
      simp at hg'
theorem Tryd.infoW : (Tryd.prog.info? 69).map (fun i => (i.zero, i.size, i.bytes)) = some (some (.int .u32 0), 1, 4) := by kernel_rfl

theorem OwnW.base {w : World} {base base' : Nat} {a : Option Addr} {cap : Nat} {l : List UInt32} (h : OwnW w base a cap l) (hb : base' ≤ base) : OwnW w base' a cap l := by
  refine ⟨h.1, ?_⟩
  rcases h.2 with hn | ⟨g, cap, cur, hv, hbb, rest⟩
  · exact .inl hn
  · exact .inr ⟨g, cap, cur, hv, Nat.le_trans hb hbb, rest⟩
theorem us_one' (l : List UInt32) : ∀ u ∈ us l, u.oneCell' = true := by
  intro u hu
  obtain ⟨_, _, rfl⟩ := List.mem_map.1 hu
  rfl
/-- Words that lie from a block's start on. -/
def RowW (w : World) (b : Nat) (l : List UInt32) : Prop := ∀ i, i < l.length → w.cell? ⟨b, i, none⟩ = some (.int .u32 ((l.getD i 0).toNat : Int))
theorem RowW.below {w w' : World} {b B : Nat} {l : List UInt32} (h : RowW w b l) (hb : Below B w w') (hB : b < B) : RowW w' b l := fun i hi => by rw [hb.cell hB]; exact h i hi
theorem rowW_lit (w : World) (z : Int) (x : UInt32) (h : z = (x.toNat : Int)) : RowW (w.alloc (.cells #[.int .u32 z] 69)) w.heap.size [x] := by
  subst h
  intro i hi
  obtain rfl : i = 0 := by simpa using hi
  rw [cell_of_row _ w.heap.size _ #[.int .u32 (x.toNat : Int)] 69 (0, 0) (heap_alloc_new w _)]
  rfl

/-- append(s, x...) of words, s the call's own. -/
theorem wp_appw (w : World) {ops : Array Oper} {rest : List Oper} {o : Oper} {a : Act} {Q : Exit → Act → World → Prop} (hgd : o.guard = none) (s x : Operand)
    (ho : o.op = .call { callee := .builtin .append, args := #[s, x], argTypes := #[78, 78] })
    (base : Nat) (a1 : Option Addr) (cap1 : Nat) (l1 : List UInt32) (hs : a.eval s = .slice a1 l1.length cap1) (hown : OwnW w base a1 cap1 l1)
    (b n2 cap2 : Nat) (l2 : List UInt32) (hx : a.eval x = .slice (some ⟨b, 0, none⟩) n2 cap2) (hn2 : n2 = l2.length) (hsrc : RowW w b l2)
    (hlen : l1.length + l2.length ≤ 100000000) (hbase : base ≤ w.heap.size)
    (h : ∀ a' cap' r w', Hid (r = l1 ++ l2) → OwnW w' base a' cap' r → w.grownBy w' (blk a1) → wpList Tryd.prog ops Q rest (a.put o.dst (.slice a' r.length cap')) w') : wpList Tryd.prog ops Q (o :: rest) a w := by
  subst hn2
  obtain ⟨i, hi, hz0, hz1, hz2⟩ := info_parts Tryd.infoW
  have hblk : (Value.slice a1 l1.length cap1).ownBlock = blk a1 := by cases a1 <;> rfl
  refine wpList_append_own w hgd s x 78 ho base 69 i (.int .u32 0) 1 4 Tryd.underlying78 hi hz0 hz1 hz2 rfl (by decide) _ _ _ hs hown ⟨b, 0, none⟩ l2.length cap2 (us l2) hx (by simp [us_length]) ?_ (us_one' l2) (by unfold maxLen; omega) (by omega) hbase ?_
  · intro j u hu
    have hj : j < l2.length := by
      have := (List.getElem?_eq_some_iff.1 hu).1
      simpa [us_length] using this
    rw [us_get l2 j hj] at hu
    obtain rfl := Option.some.inj hu
    rw [addr_add, Nat.zero_add]
    exact hsrc j hj
  · intro v' w' h1 h2 _
    have e1 : l1.length + l2.length = (l1 ++ l2).length := by simp
    have e2 : us l1 ++ us l2 = us (l1 ++ l2) := by simp [us]
    rw [e1, e2] at h1
    have hv : ∃ a' cap', v' = .slice a' (l1 ++ l2).length cap' := by
      rcases h1.2 with ⟨hv, hn⟩ | ⟨g, cap, cur, hv, _⟩
      · exact ⟨none, 0, by rw [hv, hn]⟩
      · exact ⟨_, _, hv⟩
    obtain ⟨a', cap', rfl⟩ := hv
    rw [hblk] at h2
    exact h a' cap' (l1 ++ l2) w' rfl h1 h2
theorem OwnW.stored {w : World} {base g cap : Nat} {l : List UInt32} (h : OwnW w base (Option.some ⟨g, 0, none⟩) cap l) (j : Nat) (c : UInt32) (z : Int) (hz : z = (c.toNat : Int)) : OwnW (w.setCell ⟨g, j, none⟩ (.int .u32 z)) base (Option.some ⟨g, 0, none⟩) cap (l.set j c) := by
  subst hz
  have := World.ownsRow.stored h j (.int .u32 (c.toNat : Int))
  unfold OwnW
  rw [List.length_set]
  have e : us (l.set j c) = (us l).set j (.int .u32 (c.toNat : Int)) := by simp [us, List.map_set]
  rw [e]
  exact this.1
theorem ownW_lit (w : World) (base : Nat) (l : List UInt32) (hb : base ≤ w.heap.size) (hl : l.length ≤ 1000) (c : Array Value) (hc : c = (us l).toArray) : OwnW (w.alloc (.cells c 69)) base (some ⟨w.heap.size, 0, none⟩) l.length l := by
  subst hc
  refine ⟨by simp [us_length], .inr ⟨w.heap.size, l.length, (us l).toArray, rfl, hb, heap_alloc_new w _, Nat.le_refl _, by unfold maxLen; omega, by simp [us_length], ?_⟩⟩
  simp only [Nat.mul_one]
  exact List.take_of_length_le (by simp [us_length])
abbrev Sl := Option Addr × Nat × Nat
def sls (l : List Sl) : List Value := l.map fun x => .slice x.1 x.2.1 x.2.2
theorem sls_length (l : List Sl) : (sls l).length = l.length := by simp [sls]
theorem sls_append (l r : List Sl) : sls (l ++ r) = sls l ++ sls r := by simp [sls]
theorem sls_get (l : List Sl) (i : Nat) (x : Sl) (h : l[i]? = some x) : (sls l)[i]? = some (.slice x.1 x.2.1 x.2.2) := by simp [sls, h]
theorem sls_one (l : List Sl) : ∀ u ∈ sls l, u.oneCell' = true := by
  intro u hu
  obtain ⟨_, _, rfl⟩ := List.mem_map.1 hu
  rfl
def OwnT (w : World) (base : Nat) (a : Option Addr) (cap : Nat) (l : List Sl) : Prop := w.ownsRow base 78 1 (.slice a l.length cap) l.length (sls l)

theorem OwnT.cases {w : World} {base : Nat} {a : Option Addr} {cap : Nat} {l : List Sl} (h : OwnT w base a cap l) :
    (a = none ∧ cap = 0 ∧ l = []) ∨ ∃ g cur, a = some ⟨g, 0, none⟩ ∧ base ≤ g ∧ w.heap[g]? = some (.cells cur 78 (0, 0)) ∧ l.length ≤ cap ∧ cap ≤ maxLen ∧ cur.size = cap ∧ cur.toList.take l.length = sls l := by
  rcases h.2 with ⟨hv, hn⟩ | ⟨g, cap', cur, hv, hb, hg, hle, hm, hs, ht⟩
  · simp only [Value.slice.injEq] at hv
    exact .inl ⟨hv.1, hv.2.2, List.eq_nil_of_length_eq_zero hn⟩
  · simp only [Value.slice.injEq, true_and] at hv
    obtain ⟨rfl, rfl⟩ := hv
    exact .inr ⟨g, cur, rfl, hb, hg, hle, hm, by simpa using hs, by simpa using ht⟩
theorem OwnT.some {w : World} {base : Nat} {a : Option Addr} {cap : Nat} {l : List Sl} (h : OwnT w base a cap l) (hl : 0 < l.length) :
    ∃ g, a = Option.some ⟨g, 0, none⟩ ∧ base ≤ g ∧ g < w.heap.size ∧ (∀ i, w.frozen? ⟨g, i, none⟩ = false) ∧ ∀ i x, l[i]? = Option.some x → w.cell? ⟨g, i, none⟩ = Option.some (.slice x.1 x.2.1 x.2.2) := by
  rcases h.cases with ⟨_, _, rfl⟩ | ⟨g, cur, rfl, hb, hg, hle, hm, hs, ht⟩
  · simp at hl
  · refine ⟨g, rfl, hb, (Array.getElem?_eq_some_iff.1 hg).1, fun i => frozen_of_row w g i _ _ hg, fun i x hx => ?_⟩
    have hi := (List.getElem?_eq_some_iff.1 hx).1
    rw [cell_of_row w g i cur _ (0, 0) hg, ← sls_get l i x hx, ← ht, List.getElem?_take, if_pos hi]
    simp
theorem OwnT.lt {w : World} {base : Nat} {a : Option Addr} {cap : Nat} {l : List Sl} (h : OwnT w base a cap l) : ∀ k, blk a = Option.some k → base ≤ k ∧ k < w.heap.size := by
  intro k hk
  rcases h.cases with ⟨rfl, rfl, rfl⟩ | ⟨g, cur, rfl, hb, hg, _⟩
  · simp [blk] at hk
  · simp [blk] at hk
    subst hk
    exact ⟨hb, (Array.getElem?_eq_some_iff.1 hg).1⟩
theorem OwnT.nil (w : World) (base : Nat) : OwnT w base none 0 [] := World.ownsRow_nil w base _ _
theorem OwnT.kept {w w' : World} {base : Nat} {a : Option Addr} {cap : Nat} {l : List Sl} (h : OwnT w base a cap l) {row : Option Nat} (hg : w.grownBy w' row) (hne : blk a = none ∨ blk a ≠ row) : OwnT w' base a cap l := by
  refine World.ownsRow.kept h hg ?_
  cases a with
  | none => exact .inl rfl
  | some x =>
    rcases hne with h' | h'
    · cases h'
    · exact .inr h'
theorem OwnT.alloc {w : World} {base : Nat} {a : Option Addr} {cap : Nat} {l : List Sl} (h : OwnT w base a cap l) (o : Obj) : OwnT (w.alloc o) base a cap l := World.ownsRow.alloc h o
theorem OwnT.below {w w' : World} {base B : Nat} {a : Option Addr} {cap : Nat} {l : List Sl} (h : OwnT w base a cap l) (hb : Below B w w') (hB : w.heap.size ≤ B) : OwnT w' base a cap l := by
  refine ⟨h.1, ?_⟩
  rcases h.2 with hn | ⟨g, cap, cur, hv, hbb, hgg, rest⟩
  · exact .inl hn
  · refine .inr ⟨g, cap, cur, hv, hbb, ?_, rest⟩
    rw [hb.block g (by have := (Array.getElem?_eq_some_iff.1 hgg).1; omega)]
    exact hgg
/-- A row of slices and a row of bytes lie in two blocks. -/
theorem OwnT.ne {w : World} {base base' : Nat} {a b : Option Addr} {cap cap' : Nat} {l : List Sl} {r : List UInt8} (h : OwnT w base a cap l) (k : OwnB w base' b cap' r) : blk a = none ∨ blk a ≠ blk b := by
  rcases h.cases with ⟨rfl, _, _⟩ | ⟨g, cur, rfl, _, hg, _⟩
  · exact .inl rfl
  · right
    rcases k.cases with ⟨rfl, _, _⟩ | ⟨g', cur', rfl, _, hg', _⟩
    · simp [blk]
    · intro e
      simp [blk] at e
      subst e
      rw [hg] at hg'
      simp at hg'
theorem OwnT.ne' {w : World} {base base' : Nat} {a b : Option Addr} {cap cap' : Nat} {l : List Sl} {r : List UInt8} (h : OwnT w base a cap l) (k : OwnB w base' b cap' r) : blk b = none ∨ blk b ≠ blk a := by
  rcases h.ne k with h | h
  · cases hb : blk b with
    | none => exact .inl rfl
    | some x => right; rw [h]; simp
  · exact .inr (Ne.symm h)
theorem Tryd.infoT : (Tryd.prog.info? 78).map (fun i => (i.zero, i.size, i.bytes)) = some (some (.slice none 0 0), 1, 24) := by kernel_rfl

/-- append(s, p), s the call's own row of slices. -/
theorem wp_appt1 (w : World) {ops : Array Oper} {rest : List Oper} {o : Oper} {a : Act} {Q : Exit → Act → World → Prop} (hgd : o.guard = none) (s x : Operand)
    (ho : o.op = .call { callee := .builtin .append, args := #[s, x], argTypes := #[92, 92] })
    (base : Nat) (a1 : Option Addr) (cap1 : Nat) (l1 : List Sl) (hs : a.eval s = .slice a1 l1.length cap1) (hown : OwnT w base a1 cap1 l1)
    (b cap2 : Nat) (n : Sl) (hx : a.eval x = .slice (some ⟨b, 0, none⟩) 1 cap2) (hsrc : w.cell? ⟨b, 0, none⟩ = some (.slice n.1 n.2.1 n.2.2))
    (hlen : l1.length ≤ 100000000) (hbase : base ≤ w.heap.size)
    (h : ∀ a' cap' r w', Hid (r = l1 ++ [n]) → OwnT w' base a' cap' r → w.grownBy w' (blk a1) → wpList Tryd.prog ops Q rest (a.put o.dst (.slice a' r.length cap')) w') : wpList Tryd.prog ops Q (o :: rest) a w := by
  obtain ⟨i, hi, hz0, hz1, hz2⟩ := info_parts Tryd.infoT
  have hblk : (Value.slice a1 l1.length cap1).ownBlock = blk a1 := by cases a1 <;> rfl
  refine wpList_append_own w hgd s x 92 ho base 78 i (.slice none 0 0) 1 24 Tryd.underlying92 hi hz0 hz1 hz2 rfl (by decide) _ _ _ hs hown ⟨b, 0, none⟩ 1 cap2 (sls [n]) hx (by simp [sls_length]) ?_ (sls_one [n]) (by unfold maxLen; omega) (by omega) hbase ?_
  · intro j u hu
    have hj : j < 1 := by
      have := (List.getElem?_eq_some_iff.1 hu).1
      simpa [sls_length] using this
    obtain rfl : j = 0 := by omega
    rw [sls_get [n] 0 n (by simp)] at hu
    obtain rfl := Option.some.inj hu
    rw [addr_add]
    exact hsrc
  · intro v' w' h1 h2 _
    have e1 : l1.length + 1 = (l1 ++ [n]).length := by simp
    have e2 : sls l1 ++ sls [n] = sls (l1 ++ [n]) := (sls_append l1 [n]).symm
    rw [e1, e2] at h1
    have hv : ∃ a' cap', v' = .slice a' (l1 ++ [n]).length cap' := by
      rcases h1.2 with ⟨hv, hn⟩ | ⟨g, cap, cur, hv, _⟩
      · exact ⟨none, 0, by rw [hv, hn]⟩
      · exact ⟨_, _, hv⟩
    obtain ⟨a', cap', rfl⟩ := hv
    rw [hblk] at h2
    exact h a' cap' (l1 ++ [n]) w' rfl h1 h2
theorem cell_litt (w : World) (a : Option Addr) (n c : Nat) : (w.alloc (.cells #[.slice a n c] 78)).cell? ⟨w.heap.size, 0, none⟩ = some (.slice a n c) := by
  rw [cell_of_row _ w.heap.size _ #[.slice a n c] 78 (0, 0) (heap_alloc_new w _)]
  rfl

theorem OwnT.neW {w : World} {base base' : Nat} {a b : Option Addr} {cap cap' : Nat} {l : List Sl} {r : List UInt32} (h : OwnT w base a cap l) (k : OwnW w base' b cap' r) : blk a = none ∨ blk a ≠ blk b := by
  rcases h.cases with ⟨rfl, _, _⟩ | ⟨g, cur, rfl, _, hg, _⟩
  · exact .inl rfl
  · right
    rcases k.cases with ⟨rfl, _, _⟩ | ⟨g', cur', rfl, _, hg', _⟩
    · simp [blk]
    · intro e
      simp [blk] at e
      subst e
      rw [hg] at hg'
      simp at hg'
theorem neSym {a b : Option Nat} (h : a = none ∨ a ≠ b) : b = none ∨ b ≠ a := by
  rcases h with h | h
  · cases hb : b with
    | none => exact .inl rfl
    | some x => right; rw [h]; simp
  · exact .inr (Ne.symm h)
theorem OwnT.stored {w : World} {base g cap : Nat} {l : List Sl} (h : OwnT w base (Option.some ⟨g, 0, none⟩) cap l) (j : Nat) (x : Sl) : OwnT (w.setCell ⟨g, j, none⟩ (.slice x.1 x.2.1 x.2.2)) base (Option.some ⟨g, 0, none⟩) cap (l.set j x) := by
  have := World.ownsRow.stored h j (.slice x.1 x.2.1 x.2.2)
  unfold OwnT
  rw [List.length_set]
  have e : sls (l.set j x) = (sls l).set j (.slice x.1 x.2.1 x.2.2) := by simp [sls, List.map_set]
  rw [e]
  exact this.1
#print axioms wp_appw
#print axioms wp_appt1
end Go.Proofs.YtegbcjfceooflaaDoor
end
