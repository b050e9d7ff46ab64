/-
  disk: maps.Clone of the peaks; Clone.
-/
import Derived.Test.YtkhpjlgbiicdcaaDskS
import Derived.Shelf.SlMaps.Clone
import Derived.Laws.Externs
set_option linter.unusedVariables false
namespace Go.Proofs.Ytkhpjlgbiicdcaa
open Go.RowKit Go.Maps

set_option maxRecDepth 20000 in
set_option maxHeartbeats 2000000 in
theorem mclone_any (bm : Nat) (f : Nm → Int) (cnt : Nat) (w : World) (h : PK w bm f cnt) :
    Calls Try.prog 26 #[.map (some bm)] w fun e w' => e = .returned (.map (some w.heap.size)) ∧ PK w' w.heap.size f cnt ∧ Below w.heap.size w w' ∧ w'.heap.size = w.heap.size + 1 := by
  obtain ⟨D, ⟨es, clock, hb, hF, hs, hD⟩, hat⟩ := h
  have hq := fun w => run_eql_map_nil_sl (P := Try.prog) w 56 _ _ (some bm) Try.underlying56
  have HR : Hid (PK (w.alloc (.map es clock)) w.heap.size f cnt) := ⟨D, ⟨es, clock, (MapKept.heap_alloc w _).1, hF, hs, hD⟩, hat⟩
  clear hat hD
  go_enter Try.func26, Try.ntmps26
  go_wp2
  rw [run_callFunc_extern Try.func46 (by kernel_rfl) (by kernel_rfl) (by kernel_rfl) (e := Extern.MapsClone.clone) (by kernel_rfl), run_maps_clone_sl w 56 hb]
  simp only [Result.andThen]
  rw [Oper.upon_value]
  go_wp2
  rw [run_typeAssert_map_sl _ 56 20 _ _ _ Try.underlying56]
  simp only [Result.andThen]
  rw [Oper.upon_value]
  go_wp2
  go_ret
  exact ⟨rfl, unhide HR, (Below.refl _ _).alloc (Nat.le_refl _) _, by simp⟩
#print axioms mclone_any
end Go.Proofs.Ytkhpjlgbiicdcaa
