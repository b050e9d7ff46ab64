/-
  jsonx: the order of names, byte by byte.; jsonx: places sorted by their names.
-/
import Derived.Test.YtmpjeahibfdehaaGreatDoorPkMtesau
import Derived.Test.YtmpjeahibfdehaaGreatDoorPkMtesaa
section
set_option linter.unusedVariables false
set_option maxRecDepth 1000000
namespace Go.Proofs.YtmpjeahibfdehaaGreatDoor
open Go.RowKit Go.Shelf Go.Sort

theorem cb_lt : ∀ a b : List UInt8, (Lib.compareBytes a b < 0 ↔ a < b)
 | [], [] => by simp [Lib.compareBytes]
 | [], b :: bs => by simp [Lib.compareBytes]
 | a :: r, [] => by simp [Lib.compareBytes]
 | a :: r, b :: bs => by
  unfold Lib.compareBytes
  rw [List.cons_lt_cons_iff]
  by_cases h1 : a < b
  ·simp [h1]
  ·by_cases h2 : b < a
   ·have h3 : a ≠ b := fun e => by subst e; exact h1 h2
    simp [h1, h2, h3]
   ·have h3 : a = b := UInt8.le_antisymm (UInt8.not_lt.1 h2) (UInt8.not_lt.1 h1)
    subst h3
    simp [cb_lt r bs]
/-- Names by their bytes, told by their places. -/
def cmF {α : Type} (N : α → List UInt8) (x y : α) : Int := Lib.compareBytes (N x) (N y)
theorem lt_cmF {α : Type} (N : α → List UInt8) (x y : α) : ltOf (cmF N) x y = decide (N x < N y) := decide_eq_decide.2 (cb_lt _ _)
theorem swo_cmF {α : Type} (N : α → List UInt8) : SWO (ltOf (cmF N)) := by
 refine ⟨fun x => ?_, fun x y z h1 h2 => ?_, fun x y z h1 h2 => ?_⟩
 ·rw [lt_cmF]; simp
 ·rw [lt_cmF] at *; simp at *; exact List.lt_trans h1 h2
 ·rw [lt_cmF] at *; simp at *; exact List.le_trans h2 h1
end Go.Proofs.YtmpjeahibfdehaaGreatDoor
end
section
set_option linter.unusedVariables false
set_option maxRecDepth 1000000
namespace Go.Proofs.YtmpjeahibfdehaaGreatDoor
open Go.RowKit Go.Shelf Go.Sort

def encF {n : Nat} (i : Fin n) : Value := .int .i64 (i.val : Int)
/-- The name at a place. -/
def nmF (ns : List (List UInt8)) (i : Fin ns.length) : List UInt8 := ns[i]
theorem heap_put_o4 {α : Type} [Inhabited α] (enc : α → Value) (w : World) (G k : Nat) (F : Array α) (h : k ≠ G) : (putRow enc w G 0 F).heap[k]? = w.heap[k]? := by
 unfold putRow mapBlock
 simp only
 rw [Array.getElem?_modify, if_neg (Ne.symm h)]
theorem sw_heap {α : Type} [Inhabited α] (enc : α → Value) (w : World) (G m k : Nat) (dk : Array α) (os : Array Obj) (hk : k < w.heap.size) (hne : k ≠ G) : (sortWorld enc w G 0 m dk os).heap[k]? = w.heap[k]? := by
 unfold sortWorld
 rw [heap_grow_old _ _ (by simp [Sort.ahead]; exact hk)]
 exact heap_put_o4 enc _ G k _ hne
theorem sw_cell {α : Type} [Inhabited α] (enc : α → Value) (w : World) (G m : Nat) (a : Addr) (v : Value) (dk : Array α) (os : Array Obj) (h : w.cell? a = some v) (hne : a.block ≠ G) : (sortWorld enc w G 0 m dk os).cell? a = some v := by
 rw [World.cell?_of_block (w := w) (sw_heap enc w G m a.block dk os (World.block_lt_of_cell? _ _ h) hne)]
 exact h
theorem sort4 (C B o cap G c : Nat) (ns : List (List UInt8)) [Inhabited (Fin ns.length)] (w : World) (hC : w.cell? ⟨C, 0, none⟩ = some (.slice (some ⟨B, o, none⟩) ns.length cap)) (hB : ∀ i s, ns[i]? = some s → w.cell? ⟨B, o + i, none⟩ = some (.string (str s))) (hG : Holds encF w G 0 (Array.ofFn (id : Fin ns.length → Fin ns.length))) (hGl : G < w.heap.size) (hCG : C ≠ G) (hBG : B ≠ G) (hl : ns.length ≤ 1000000) :
  Calls Tryz.prog 149 #[.slice (some ⟨G, 0, none⟩) (Array.ofFn (id : Fin ns.length → Fin ns.length)).size c, .func (.func 150) #[] #[.pointer (some ⟨C, 0, none⟩)]] w fun e w' =>
   e = .returned (.tuple #[]) ∧ ∃ d' n os, PermIn 0 (Array.ofFn (id : Fin ns.length → Fin ns.length)).size (Array.ofFn id) d' ∧ SortedIn (ltOf (cmF (nmF ns))) 0 (Array.ofFn (id : Fin ns.length → Fin ns.length)).size d' ∧ w' = sortWorld encF w G 0 n d' os := by
 refine Any.slices_SortFunc Tryz.sortN encF (fun _ => rfl) (cmF (nmF ns)) (swo_cmF _) 150 #[.pointer (some ⟨C, 0, none⟩)] G 0 c _ w (enters_of Tryz.func150 (by kernel_rfl) rfl) ?_ hG hGl (by simp; omega)
 intro m os dk hs x y
 have gx : ns[x.val]? = some (nmF ns x) := List.getElem?_eq_getElem x.isLt
 have gy : ns[y.val]? = some (nmF ns y) := List.getElem?_eq_getElem y.isLt
 refine (rise1 C B o ns.length cap x.val y.val (nmF ns x) (nmF ns y) _ (sw_cell _ _ _ _ _ _ _ _ hC hCG) x.isLt y.isLt (sw_cell _ _ _ _ _ _ _ _ (hB _ _ gx) hBG) (sw_cell _ _ _ _ _ _ _ _ (hB _ _ gy) hBG)).mono ?_
 rintro e w' ⟨rfl, rfl⟩
 exact ⟨rfl, 1, #[], by rw [grow_empty]; rfl⟩
theorem sort0 (p : Option Addr) (c : Nat) (fv : Value) (w : World) : Calls Tryz.prog 149 #[.slice p 0 c, fv] w fun e w' => e = .returned (.tuple #[]) ∧ w' = w :=
 AnyF.slices_SortFunc_none (P := Tryz.prog) (ρ := Tryz.sortN_ren) { Tryz.sortN with } p c fv w
end Go.Proofs.YtmpjeahibfdehaaGreatDoor
end
