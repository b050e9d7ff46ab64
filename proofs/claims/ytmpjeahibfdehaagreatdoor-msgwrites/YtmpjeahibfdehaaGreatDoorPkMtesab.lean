/-
  WHAT ALL TEXTS OF THIS SEAT SHARE: how a slice of bytes that came in is told to a walk (its bytes, where its cells lie), small equations, two closed facts on the program.
-/
import Derived.Test.YtmpjeahibfdehaaGreatDoorRows
import Derived.WalkKit
import Derived.ProofKit
import Derived.OpenShut
import Derived.ShutString
import Derived.ChangeOld
import Derived.Below
import Derived.Laws.BitsAllLaws
section
set_option linter.unusedVariables false
namespace Go.Proofs.YtmpjeahibfdehaaGreatDoor
open Go.ChangeShapes Go.WideShapes Go.ChangeAt Go.RowKit
open Go.ChangeMaps (open_string shut_string)

theorem own : ownKnob Tryz.prog.godebug = none := by kernel_rfl
theorem laidOut : laidOutB Tryz.prog = true := by kernel_rfl

theorem ret_int {k : IntKind} {a b : Int} (h : a = b) : Ending.returned (.int k a) = .returned (.int k b) := by rw [h]
theorem int_eq {k : IntKind} {a b : Int} (h : a = b) : Value.int k a = .int k b := by rw [h]

/-- A slice of bytes that is read: where it has elements its address is known, and its cells are these bytes. -/
def Row (w : World) (a : Option Addr) (l : List UInt8) : Prop :=
 l ≠ [] → ∃ b off, a = some ⟨b, off, none⟩ ∧ ∀ i, i < l.length → w.cell? ⟨b, off + i, none⟩ = some (.int .u8 ((l.getD i 0).toNat : Int))

/-- The same with what a walk wants of the slice's lengths. -/
structure Bs (w : World) (a : Option Addr) (cap : Nat) (l : List UInt8) : Prop where
 row : Row w a l
 le : l.length ≤ cap
 most : cap ≤ maxLen
 nz : a = none → cap = 0

-- short names (gen.py puts them into every text: a claim may have 1,500,000 bytes)
theorem hS6 {w : World} {g i : Nat} {cs : Array Value} {t : TypeId} {v : Value} (h : w.heap[g]? = some (.cells cs t (0, 0))) : (w.setCell ⟨g, i, none⟩ v).heap[g]? = some (.cells (cs.setIfInBounds i v) t (0, 0)) := heap_setCell_same _ _ _ _ _ _ h
theorem cR6 {w : World} {g j : Nat} {cs : Array Value} {t : TypeId} {fr : Nat × Nat} (h : w.heap[g]? = some (.cells cs t fr)) : w.cell? ⟨g, j, none⟩ = cs[j]? := cell_of_row _ _ _ _ _ _ h
theorem aI {α : Type} {a : Array α} {i : Nat} {v : α} (h : a[i]? = some v) : ∃ h : i < a.size, a[i] = v := Array.getElem?_eq_some_iff.1 h
theorem bA {w : World} (o : Obj) : Below w.heap.size w (w.alloc o) := (Below.refl _ _).alloc (Nat.le_refl _) o
theorem xq1 {α : Type} (l : List α) (i : Nat) : l.toArray[i]? = l[i]? := by simp
theorem xq2 {α : Type} (a : α) (l : List α) (i : Nat) : (a :: l)[i + 1]? = l[i]? := List.getElem?_cons_succ
theorem xq3 {α : Type} (a : α) (l : List α) : (a :: l)[0]? = some a := List.getElem?_cons_zero
theorem xq4 {α : Type} (l : List α) (i : Nat) (a : α) : l.toArray.setIfInBounds i a = (l.set i a).toArray := by simp
theorem xq5 {α : Type} (a b : α) (l : List α) : (a :: l).set 0 b = b :: l := List.set_cons_zero
theorem xq6 {α : Type} (a b : α) (l : List α) (n : Nat) : (a :: l).set (n + 1) b = a :: l.set n b := List.set_cons_succ
end Go.Proofs.YtmpjeahibfdehaaGreatDoor
end
