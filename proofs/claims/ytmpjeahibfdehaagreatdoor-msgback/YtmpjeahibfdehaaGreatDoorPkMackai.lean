/-
  BLOCKS THAT ARE KNOWN WHOLE: an array in a block of its own, its cells told as one list.
-/
import Derived.Test.YtmpjeahibfdehaaGreatDoorPkMackac
import Derived.Deep.QuietTactic
import Derived.Laws.Rows
import Derived.Laws.Tables
section
set_option linter.unusedVariables false
namespace Go.Proofs.YtmpjeahibfdehaaGreatDoor
open Go.RowKit

/-- Words as cells. -/
def us (l : List UInt32) : List Value := l.map fun x => .int .u32 (x.toNat : Int)
theorem us_length (l : List UInt32) : (us l).length = l.length := by simp [us]
theorem us_get (l : List UInt32) (i : Nat) (h : i < l.length) : (us l)[i]? = some (.int .u32 ((l.getD i 0).toNat : Int)) := by simp [us, h]
theorem us_set (l : List UInt32) (i : Nat) (x : UInt32) : (us l).set i (.int .u32 (x.toNat : Int)) = us (l.set i x) := by simp [us, List.map_set]
theorem bs_set (l : List UInt8) (i : Nat) (x : UInt8) : (bs l).set i (.int .u8 (x.toNat : Int)) = bs (l.set i x) := by simp [bs, List.map_set]
theorem us_one (l : List UInt32) : ((us l).toArray.all (·.oneCell')) = true := by simp [us, Value.oneCell']
theorem bs_one' (l : List UInt8) : ((bs l).toArray.all (·.oneCell')) = true := by simp [bs, Value.oneCell']

/-- Block C holds just these cells. -/
def Cel (w : World) (C : Nat) (t : TypeId) (vs : List Value) : Prop := w.heap[C]? = some (.cells vs.toArray t (0, 0))

theorem Cel.lt {w : World} {C : Nat} {t : TypeId} {vs : List Value} (h : Cel w C t vs) : C < w.heap.size := (aI h).1
theorem Cel.cell {w : World} {C : Nat} {t : TypeId} {vs : List Value} (h : Cel w C t vs) (i : Nat) : w.cell? ⟨C, i, none⟩ = vs[i]? := by
 rw [cell_of_row w C i _ _ _ h]; simp
theorem Cel.word {w : World} {C : Nat} {t : TypeId} {l : List UInt32} (h : Cel w C t (us l)) (i : Nat) (hi : i < l.length) : w.cell? ⟨C, i, none⟩ = some (.int .u32 ((l.getD i 0).toNat : Int)) := by
 rw [h.cell, us_get l i hi]
theorem Cel.byte {w : World} {C : Nat} {t : TypeId} {l : List UInt8} (h : Cel w C t (bs l)) (i : Nat) (hi : i < l.length) : w.cell? ⟨C, i, none⟩ = some (.int .u8 ((l.getD i 0).toNat : Int)) := by
 rw [h.cell, bs_get l i hi]
theorem Cel.fr {w : World} {C : Nat} {t : TypeId} {vs : List Value} (h : Cel w C t vs) (i : Nat) : w.frozen? ⟨C, i, none⟩ = false := frozen_of_row w C i _ _ h
theorem Cel.set {w : World} {C : Nat} {t : TypeId} {vs : List Value} (h : Cel w C t vs) (i : Nat) (u : Value) : Cel (w.setCell ⟨C, i, none⟩ u) C t (vs.set i u) := by
 unfold Cel at h ⊢
 simp only [World.setCell, Array.getElem?_modify]
 rw [if_pos trivial, h]
 simp
theorem Cel.setW {w : World} {C : Nat} {t : TypeId} {l : List UInt32} (h : Cel w C t (us l)) (i : Nat) (x : UInt32) : Cel (w.setCell ⟨C, i, none⟩ (.int .u32 (x.toNat : Int))) C t (us (l.set i x)) := by
 rw [← us_set]; exact h.set i _
theorem Cel.setW' {w : World} {C : Nat} {t : TypeId} {l : List UInt32} (h : Cel w C t (us l)) (i : Nat) (x : UInt32) (v : Int) (hv : v = (x.toNat : Int)) : Cel (w.setCell ⟨C, i, none⟩ (.int .u32 v)) C t (us (l.set i x)) := by
 subst hv; exact h.setW i x
theorem Cel.setB' {w : World} {C : Nat} {t : TypeId} {l : List UInt8} (h : Cel w C t (bs l)) (i : Nat) (x : UInt8) (v : Int) (hv : v = (x.toNat : Int)) : Cel (w.setCell ⟨C, i, none⟩ (.int .u8 v)) C t (bs (l.set i x)) := by
 subst hv; rw [← bs_set]; exact h.set i _
theorem Cel.setB {w : World} {C : Nat} {t : TypeId} {l : List UInt8} (h : Cel w C t (bs l)) (i : Nat) (x : UInt8) : Cel (w.setCell ⟨C, i, none⟩ (.int .u8 (x.toNat : Int))) C t (bs (l.set i x)) := by
 rw [← bs_set]; exact h.set i _
theorem Cel.other {w : World} {C D : Nat} {t : TypeId} {vs : List Value} (h : Cel w C t vs) (i : Nat) (u : Value) (hne : C ≠ D) : Cel (w.setCell ⟨D, i, none⟩ u) C t vs := by
 unfold Cel at h ⊢
 rw [Below.heap_setCell _ _ _ _ hne]
 exact h
theorem Cel.alloc {w : World} {C : Nat} {t : TypeId} {vs : List Value} (h : Cel w C t vs) (o : Obj) : Cel (w.alloc o) C t vs := by
 unfold Cel
 rw [Below.heap_alloc w o C h.lt]; exact h
theorem Cel.drew {w : World} {C : Nat} {t : TypeId} {vs : List Value} (h : Cel w C t vs) : Cel w.drew C t vs := h
theorem Cel.drewN {w : World} {C : Nat} {t : TypeId} {vs : List Value} (h : Cel w C t vs) (n : Nat) : Cel (w.drewN n) C t vs := h
theorem Cel.below {w w' : World} {C B : Nat} {t : TypeId} {vs : List Value} (h : Cel w C t vs) (hb : Below B w w') (hC : C < B) : Cel w' C t vs := by
 unfold Cel
 rw [hb.block C hC]; exact h
theorem Cel.new (w : World) (t : TypeId) (vs : List Value) : Cel (w.alloc (.cells vs.toArray t)) w.heap.size t vs := heap_alloc_new w _
theorem Cel.new' (w : World) (t : TypeId) (vs : List Value) (c : Array Value) (h : c = vs.toArray) : Cel (w.alloc (.cells c t)) w.heap.size t vs := by subst h; exact heap_alloc_new w _
theorem Cel.newAt (w : World) (t : TypeId) (vs : List Value) (n : Nat) (h : w.heap.size = n) : Cel (w.alloc (.cells vs.toArray t)) n t vs := by subst h; exact heap_alloc_new w _
theorem Cel.grown {w w' : World} {C : Nat} {t : TypeId} {vs : List Value} (h : Cel w C t vs) {row : Option Nat} (hg : w.grownBy w' row) (hne : row ≠ some C) : Cel w' C t vs := by
 unfold Cel
 rw [hg.block C h.lt (fun e => hne e.symm)]; exact h
theorem Cel.row {w : World} {C : Nat} {t : TypeId} {l : List UInt8} (h : Cel w C t (bs l)) : Row w (some ⟨C, 0, none⟩) l := by
 intro _
 refine ⟨C, 0, rfl, fun i hi => ?_⟩
 rw [Nat.zero_add]
 exact h.byte i hi
theorem cel_keep {w : World} {C i k : Nat} {u v : Value} (h : w.cell? ⟨C, i, none⟩ = some u) (hne : i ≠ k) : ((w.setCell ⟨C, k, none⟩ v).drew).cell? ⟨C, i, none⟩ = some u := by
 show (w.setCell ⟨C, k, none⟩ v).cell? ⟨C, i, none⟩ = some u
 have hn : (⟨C, k, none⟩ : Addr) ≠ ⟨C, i, none⟩ := fun e => hne (congrArg Addr.off e).symm
 exact (World.cell?_setCell_other (h := hn) ..).trans h
theorem bdrewN {B : Nat} {w w' : World} (h : Below B w w') (n : Nat) : Below B w (w'.drewN n) := ⟨h.os, h.tape, h.output, h.size, h.block⟩
theorem Cel.setRow {w : World} {C : Nat} {t : TypeId} {old : List Value} (h : Cel w C t old) (vs : List Value) : Cel (w.setRow C vs.toArray) C t vs := by
 unfold Cel at h ⊢
 simp only [World.setRow, Array.getElem?_modify]
 rw [if_pos trivial, h]
 rfl
theorem setRow_grown (w : World) (C : Nat) (cs : Array Value) : w.grownBy (w.setRow C cs) (some C) := by
 refine ⟨rfl, rfl, rfl, by simp [World.setRow], fun k hk hne => ?_⟩
 simp only [World.setRow, Array.getElem?_modify]
 rw [if_neg (fun e => hne (by rw [e]))]

theorem cg_trans {a b c : World} {row : Option Nat} (h : a.grownBy b row) (k : b.grownBy c row) : a.grownBy c row :=
 ⟨k.os.trans h.os, k.tape.trans h.tape, k.output.trans h.output, Nat.le_trans h.size k.size, fun i hi hne => (k.block i (Nat.lt_of_lt_of_le hi h.size) hne).trans (h.block i hi hne)⟩
theorem cg_drewN (w : World) (n : Nat) (row : Option Nat) : w.grownBy (w.drewN n) row := ⟨rfl, rfl, rfl, Nat.le_refl _, fun _ _ _ => rfl⟩
theorem cg_drew (w : World) (row : Option Nat) : w.grownBy w.drew row := ⟨rfl, rfl, rfl, Nat.le_refl _, fun _ _ _ => rfl⟩
theorem cg_alloc (w : World) (o : Obj) (row : Option Nat) : w.grownBy (w.alloc o) row := ⟨rfl, rfl, rfl, by simp, fun k hk _ => Below.heap_alloc w o k hk⟩
theorem cg_below {w w' : World} (h : Below w.heap.size w w') (row : Option Nat) : w.grownBy w' row := ⟨h.os, h.tape, h.output, h.size, fun k hk _ => h.block k hk⟩
/-- What another block holds may change, where that block is new. -/
theorem cg_new {w w' w'' : World} {C : Nat} {row : Option Nat} (h : w.grownBy w' row) (hC : w.heap.size ≤ C) (k : w'.grownBy w'' (some C)) : w.grownBy w'' row :=
 ⟨k.os.trans h.os, k.tape.trans h.tape, k.output.trans h.output, Nat.le_trans h.size k.size, fun i hi hne => (k.block i (Nat.lt_of_lt_of_le hi h.size) (by intro e; cases e; omega)).trans (h.block i hi hne)⟩
theorem cg_set (w : World) (p : Addr) (u : Value) : w.grownBy (w.setCell p u) (some p.block) :=
 ⟨rfl, rfl, rfl, by simp [World.setCell], fun k hk hne => Below.heap_setCell w p u k (by intro h; subst h; exact hne rfl)⟩
theorem cg_to_below {w w' : World} {C B : Nat} (h : w.grownBy w' (some C)) (hC : B ≤ C) (hB : B ≤ w.heap.size) : Below B w w' :=
 ⟨h.os, h.tape, h.output, h.size, fun k hk => h.block k (by omega) (by intro e; cases e; omega)⟩

/-- A whole array is read. -/
theorem wpL_load {ops : Array Oper} {rest : List Oper} {o : Oper} {a : Act} {w : World} {Q : Exit → Act → World → Prop} (hgd : o.guard = none) (ty : TypeId) (x : Operand) (ho : o.op = .load ty x)
  (g : Nat) (hx : a.eval x = .pointer (some ⟨g, 0, none⟩)) (t : TypeId) (vs : List Value) (n : Nat) (e : TypeId) (hc : Cel w g t vs) (hu : Tryz.prog.underlying ty = some (.array n e)) (hi : (Tryz.prog.info? ty).map (·.size) = some vs.length)
  (h : wpList Tryz.prog ops Q rest (a.put o.dst (.agg vs.toArray)) w) : wpList Tryz.prog ops Q (o :: rest) a w :=
 wpList_load_row hgd ty x ho g hx t vs.toArray (0, 0) _ hc hu rfl (by rw [hi]; simp) h

/-- A whole array is written. -/
theorem wpL_store {ops : Array Oper} {rest : List Oper} {o : Oper} {a : Act} {w : World} {Q : Exit → Act → World → Prop} (hgd : o.guard = none) (ty : TypeId) (x y : Operand) (ho : o.op = .store ty x y)
  (g : Nat) (hx : a.eval x = .pointer (some ⟨g, 0, none⟩)) (vs : List Value) (hy : a.eval y = .agg vs.toArray) (t : TypeId) (old : List Value) (hc : Cel w g t old) (hl : old.length = vs.length) (hi : (Tryz.prog.info? ty).map (·.size) = some vs.length) (h1 : vs.toArray.all (·.oneCell') = true)
  (h : ∀ w', Cel w' g t vs → w.grownBy w' (some g) → wpList Tryz.prog ops Q rest (a.put o.dst undef) w') : wpList Tryz.prog ops Q (o :: rest) a w :=
 wpList_plain hgd fun _ hK => by
  unfold Oper.wp execOp
  simp only [ho, hx, hy, Instr.storeAt, Instr.sureAddr, Sem.run_bind, Sem.run_pure, Result.andThen_ok, run_storeVar_row w g t ty old.toArray vs.toArray hc (by rw [hi]; simp) (by simpa using hl) h1]
  exact hK _ _ (h _ (hc.setRow vs) (setRow_grown w g _))

/-- A whole array handed back. -/
theorem results_cel {fn : Func} {p : Tmp} {ty : TypeId} (hf : fn.results = #[.cell p ty]) (tmps : Array Value) (w : World) (g : Nat) (t : TypeId) (vs : List Value) (n : Nat) (e : TypeId)
  (hp : tmps.getD p undef = .pointer (some ⟨g, 0, none⟩)) (hc : Cel w g t vs) (hu : Tryz.prog.underlying ty = some (.array n e)) (hi : (Tryz.prog.info? ty).map (·.size) = some vs.length) :
  (results fn tmps).run Tryz.prog w = .ok (.agg vs.toArray) w :=
 results_cell_row hf tmps w g t vs.toArray (0, 0) _ hp hc hu rfl (by rw [hi]; simp)
end Go.Proofs.YtmpjeahibfdehaaGreatDoor
end
