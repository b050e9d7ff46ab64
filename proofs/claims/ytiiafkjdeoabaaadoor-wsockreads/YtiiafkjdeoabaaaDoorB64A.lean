/-
  THE WALKS of strings.Builder's methods at a builder in a block of the call's own.
-/
import Derived.Test.YtiiafkjdeoabaaaDoorShaK
import Derived.Test.YtiiafkjdeoabaaaDoorByt
import Derived.Lib.Builder
import Derived.Lib.UnsafeStr
set_option linter.unusedVariables false
namespace Go.Proofs.YtiiafkjdeoabaaaDoor
open Go.RowKit

/-- A builder in block b that holds these bytes. -/
def Bld (w : World) (base b : Nat) (p : Value) (l : List UInt8) : Prop :=
  base ≤ b ∧ ∃ a cap, Cel w b 67 [p, .slice a l.length cap] ∧ OwnB w base a cap l ∧ blk a ≠ some b ∧ (l = [] → a = none ∧ cap = 0)
def selfP (b : Nat) : Value := .pointer (some ⟨b, 0, none⟩)

theorem bSize : (Tryd.prog.info? 67).map (·.size) = some 2 := by kernel_rfl
theorem bLies : liesAt Tryd.prog Tryd.prog.depth 67 (2 / Tryd.prog.cellsOf 67) 0 67 1 = true := by kernel_rfl

set_option maxHeartbeats 1000000 in
theorem check_used (b : Nat) (w : World) (h0 : w.cell? ⟨b, 0, none⟩ = some (.pointer (some ⟨b, 0, none⟩))) :
    Calls Tryd.prog 39 #[.pointer (some ⟨b, 0, none⟩)] w fun e w' => e = .returned (.tuple #[]) ∧ w' = w := by
  obtain ⟨j, hj, _⟩ := Option.map_eq_some_iff.1 bSize
  have hnq := fun w => Lib.run_neq_ptr_same (P := Tryd.prog) w ⟨b, 0, none⟩ Tryd.underlying65 hj
  go_enter Tryd.func39, Tryd.ntmps39
  go_wp2
  go_end0
  exact ⟨rfl, rfl⟩

set_option maxRecDepth 100000 in
set_option maxHeartbeats 1000000 in
theorem check_fresh (b : Nat) (w : World) (h0 : w.cell? ⟨b, 0, none⟩ = some (.pointer none)) (hsh : w.shape? b = some (67, 2)) (hfz : w.frozen? ⟨b, 0, none⟩ = false) :
    Calls Tryd.prog 39 #[.pointer (some ⟨b, 0, none⟩)] w fun e w' => e = .returned (.tuple #[]) ∧ w' = w.setCell ⟨b, 0, none⟩ (.pointer (some ⟨b, 0, none⟩)) := by
  obtain ⟨j, hj, hjs⟩ := Option.map_eq_some_iff.1 bSize
  have hnq := fun w => Lib.run_neq_ptr_same (P := Tryd.prog) w ⟨b, 0, none⟩ Tryd.underlying65 hj
  have ht : (convert 65 96 (.pointer (some ⟨b, 0, none⟩))).run Tryd.prog w = .ok (.pointer (some ⟨b, 0, none⟩)) w := Lib.run_to_unsafe w ⟨b, 0, none⟩ Tryd.underlying65 Tryd.underlying96 hj (by rw [hjs]; decide) hsh (Nat.zero_lt_succ 1)
  have hf : (convert 96 65 (.pointer (some ⟨b, 0, none⟩))).run Tryd.prog w = .ok (.pointer (some ⟨b, 0, none⟩)) w := Lib.run_from_unsafe w ⟨b, 0, none⟩ Tryd.underlying96 Tryd.underlying65 hj hsh bLies
  have hne : ∀ (x : Value) (w : World), (callFunc 47 #[x]).run Tryd.prog w = .ok (.value x) w := by
    intro x w
    rw [run_callFunc_extern Tryd.func47 (by kernel_rfl) (by kernel_rfl) (by kernel_rfl) (e := Extern.AbiNoEscape.same) (by kernel_rfl)]
    rw [Lib.run_noEscape]
    rfl
  go_enter Tryd.func39, Tryd.ntmps39
  go_wp2
  go_end0
  exact ⟨rfl, rfl⟩

theorem check_any (base b : Nat) (p : Value) (l : List UInt8) (w : World) (h : Bld w base b p l) (hp : p = .pointer none ∨ p = selfP b) :
    Calls Tryd.prog 39 #[.pointer (some ⟨b, 0, none⟩)] w fun e w' => e = .returned (.tuple #[]) ∧ Hid (Bld w' base b (selfP b) l) ∧ Hid (w.grownBy w' (some b)) := by
  obtain ⟨hb, a, cap, hC, hO, hne, hz⟩ := h
  rcases hp with rfl | rfl
  · refine (check_fresh b w (by rw [hC.cell]; rfl) (by have h := hC; unfold Cel at h; simp [World.shape?, h]) (hC.fr 0)).mono ?_
    rintro e w' ⟨rfl, rfl⟩
    exact ⟨rfl, ⟨hb, a, cap, hC.set 0 _, hO.kept (cg_set w ⟨b, 0, none⟩ _) (.inr hne), hne, hz⟩, cg_set w ⟨b, 0, none⟩ _⟩
  · refine (check_used b w (by rw [hC.cell]; rfl)).mono ?_
    rintro e w' ⟨rfl, rfl⟩
    exact ⟨rfl, ⟨hb, a, cap, hC, hO, hne, hz⟩, ⟨rfl, rfl, rfl, Nat.le_refl _, fun _ _ _ => rfl⟩⟩
#print axioms check_any
end Go.Proofs.YtiiafkjdeoabaaaDoor
