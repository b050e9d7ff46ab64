/-
  wsock: the reference's SameFrame of two frames that are the same.
-/
import Derived.Test.YtiiafkjdeoabaaaDoorWskO
set_option linter.unusedVariables false
set_option maxRecDepth 1000000
namespace Go.Proofs.YtiiafkjdeoabaaaDoor
open Go.RowKit

set_option maxHeartbeats 2000000 in
theorem same_eq (fin : Bool) (op : Int) (x : Option Addr) (c : Nat) (y : Option Addr) (d : Nat) (l : List UInt8) (w : World) (hx : Bs w x c l) (hy : Bs w y d l) :
    Calls Tryd.prog 8 #[.agg #[.bool fin, .int .i64 op, .slice x l.length c], .agg #[.bool fin, .int .i64 op, .slice y l.length d]] w fun e w' => e = .returned (.bool true) ∧ Hid (Below w.heap.size w w') := by
  obtain ⟨W, hW⟩ : ∃ W, W = (w.alloc (.cells #[.bool fin, .int .i64 op, .slice x l.length c] 26)).alloc (.cells #[.bool fin, .int .i64 op, .slice y l.length d] 26) := ⟨_, rfl⟩
  have hB : Below w.heap.size w W := by rw [hW]; exact ((Below.refl _ _).alloc (Nat.le_refl _) _).alloc (by simp) _
  have k1 := run_str W x l.length c l (hx.below hB (Nat.le_refl _)).row rfl
  have k2 := run_str W y l.length d l (hy.below hB (Nat.le_refl _)).row rfl
  have f0 : (fin == fin) = true := beq_self_eq_true _
  have o0 : (op == op) = true := beq_self_eq_true _
  have HB := hide hB
  clear hx hy hB
  have r0 : W.cell? ⟨w.heap.size, 0, none⟩ = some (.bool fin) := by rw [hW]; simp
  have r1 : W.cell? ⟨w.heap.size, 1, none⟩ = some (.int .i64 op) := by rw [hW]; simp
  have r2 : W.cell? ⟨w.heap.size, 2, none⟩ = some (.slice x l.length c) := by rw [hW]; simp
  have q0 : W.cell? ⟨w.heap.size + 1, 0, none⟩ = some (.bool fin) := by rw [hW]; simp
  have q1 : W.cell? ⟨w.heap.size + 1, 1, none⟩ = some (.int .i64 op) := by rw [hW]; simp
  have q2 : W.cell? ⟨w.heap.size + 1, 2, none⟩ = some (.slice y l.length d) := by rw [hW]; simp
  go_enter Tryd.func8, Tryd.ntmps8
  go_upto_region 1 with fail
  rw [← hW]
  clear hW
  go_wp2
  go_ret
  exact ⟨rfl, HB⟩
#print axioms same_eq
end Go.Proofs.YtiiafkjdeoabaaaDoor
