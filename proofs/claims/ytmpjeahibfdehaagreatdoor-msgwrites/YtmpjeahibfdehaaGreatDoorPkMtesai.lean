/-
  BLOCKS THAT ARE KNOWN WHOLE: an array in a block of its own, its cells told as one list.
-/
import Derived.Test.YtmpjeahibfdehaaGreatDoorPkMtesac
import Derived.Deep.QuietTactic
import Derived.Laws.Rows
import Derived.Laws.Tables
section
set_option linter.unusedVariables false
namespace Go.Proofs.YtmpjeahibfdehaaGreatDoor
open Go.RowKit

/-- Block C holds just these cells. -/
def Cel (w : World) (C : Nat) (t : TypeId) (vs : List Value) : Prop := w.heap[C]? = some (.cells vs.toArray t (0, 0))

theorem Cel.lt {w : World} {C : Nat} {t : TypeId} {vs : List Value} (h : Cel w C t vs) : C < w.heap.size := (aI h).1
theorem Cel.cell {w : World} {C : Nat} {t : TypeId} {vs : List Value} (h : Cel w C t vs) (i : Nat) : w.cell? ⟨C, i, none⟩ = vs[i]? := by
 rw [cell_of_row w C i _ _ _ h]; simp
theorem Cel.byte {w : World} {C : Nat} {t : TypeId} {l : List UInt8} (h : Cel w C t (bs l)) (i : Nat) (hi : i < l.length) : w.cell? ⟨C, i, none⟩ = some (.int .u8 ((l.getD i 0).toNat : Int)) := by
 rw [h.cell, bs_get l i hi]
theorem Cel.fr {w : World} {C : Nat} {t : TypeId} {vs : List Value} (h : Cel w C t vs) (i : Nat) : w.frozen? ⟨C, i, none⟩ = false := frozen_of_row w C i _ _ h
theorem Cel.set {w : World} {C : Nat} {t : TypeId} {vs : List Value} (h : Cel w C t vs) (i : Nat) (u : Value) : Cel (w.setCell ⟨C, i, none⟩ u) C t (vs.set i u) := by
 unfold Cel at h ⊢
 simp only [World.setCell, Array.getElem?_modify]
 rw [if_pos trivial, h]
 simp
theorem Cel.other {w : World} {C D : Nat} {t : TypeId} {vs : List Value} (h : Cel w C t vs) (i : Nat) (u : Value) (hne : C ≠ D) : Cel (w.setCell ⟨D, i, none⟩ u) C t vs := by
 unfold Cel at h ⊢
 rw [Below.heap_setCell _ _ _ _ hne]
 exact h
theorem Cel.alloc {w : World} {C : Nat} {t : TypeId} {vs : List Value} (h : Cel w C t vs) (o : Obj) : Cel (w.alloc o) C t vs := by
 unfold Cel
 rw [Below.heap_alloc w o C h.lt]; exact h
theorem Cel.drew {w : World} {C : Nat} {t : TypeId} {vs : List Value} (h : Cel w C t vs) : Cel w.drew C t vs := h
theorem Cel.drewN {w : World} {C : Nat} {t : TypeId} {vs : List Value} (h : Cel w C t vs) (n : Nat) : Cel (w.drewN n) C t vs := h
theorem Cel.below {w w' : World} {C B : Nat} {t : TypeId} {vs : List Value} (h : Cel w C t vs) (hb : Below B w w') (hC : C < B) : Cel w' C t vs := by
 unfold Cel
 rw [hb.block C hC]; exact h
theorem Cel.new (w : World) (t : TypeId) (vs : List Value) : Cel (w.alloc (.cells vs.toArray t)) w.heap.size t vs := heap_alloc_new w _
theorem Cel.grown {w w' : World} {C : Nat} {t : TypeId} {vs : List Value} (h : Cel w C t vs) {row : Option Nat} (hg : w.grownBy w' row) (hne : row ≠ some C) : Cel w' C t vs := by
 unfold Cel
 rw [hg.block C h.lt (fun e => hne e.symm)]; exact h
theorem Cel.row {w : World} {C : Nat} {t : TypeId} {l : List UInt8} (h : Cel w C t (bs l)) : Row w (some ⟨C, 0, none⟩) l := by
 intro _
 refine ⟨C, 0, rfl, fun i hi => ?_⟩
 rw [Nat.zero_add]
 exact h.byte i hi
theorem cg_set (w : World) (p : Addr) (u : Value) : w.grownBy (w.setCell p u) (some p.block) :=
 ⟨rfl, rfl, rfl, by simp [World.setCell], fun k hk hne => Below.heap_setCell w p u k (by intro h; subst h; exact hne rfl)⟩
theorem cg_to_below {w w' : World} {C B : Nat} (h : w.grownBy w' (some C)) (hC : B ≤ C) (hB : B ≤ w.heap.size) : Below B w w' :=
 ⟨h.os, h.tape, h.output, h.size, fun k hk => h.block k (by omega) (by intro e; cases e; omega)⟩

end Go.Proofs.YtmpjeahibfdehaaGreatDoor
end
