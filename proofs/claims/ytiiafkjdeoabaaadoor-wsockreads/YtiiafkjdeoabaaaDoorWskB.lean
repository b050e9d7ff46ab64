/-
  wsock: which frames may be; THE WALK of mayBe; the header's bytes (model).
-/
import Derived.Test.YtiiafkjdeoabaaaDoorWskA
set_option linter.unusedVariables false
set_option maxRecDepth 1000000
namespace Go.Proofs.YtiiafkjdeoabaaaDoor
open Go.RowKit

def isCtl (op : Int) : Bool := op == 8 || op == 9 || op == 10
def isMsg (op : Int) : Bool := op == 0 || op == 1 || op == 2
def mayB (op : Int) (fin : Bool) (size : Int) : Bool := if isCtl op then fin && decide (size ≤ 125) else isMsg op
theorem mayB_op {op : Int} {fin : Bool} {size : Int} (h : mayB op fin size = true) : ∃ n : Nat, op = (n : Int) ∧ n ≤ 10 := by
  unfold mayB at h
  split at h
  · rename_i hc
    simp only [isCtl, Bool.or_eq_true, beq_iff_eq] at hc
    rcases hc with (rfl | rfl) | rfl
    · exact ⟨8, rfl, by omega⟩
    · exact ⟨9, rfl, by omega⟩
    · exact ⟨10, rfl, by omega⟩
  · simp only [isMsg, Bool.or_eq_true, beq_iff_eq] at h
    rcases h with (rfl | rfl) | rfl
    · exact ⟨0, rfl, by omega⟩
    · exact ⟨1, rfl, by omega⟩
    · exact ⟨2, rfl, by omega⟩
set_option maxHeartbeats 2000000 in
theorem mayBe_any (op : Int) (fin : Bool) (size : Int) (w : World) :
    Calls Tryd.prog 19 #[.int .i64 op, .bool fin, .int .i64 size] w fun e w' => e = .returned (.bool (mayB op fin size)) ∧ w' = w := by
  obtain ⟨B, hB⟩ : ∃ B, mayB op fin size = B := ⟨_, rfl⟩
  rw [hB]
  have HB := hide hB
  clear hB
  by_cases h8 : op = 8 ∨ op = 9 ∨ op = 10
  · have HC : Hid (B = (fin && decide (size ≤ 125))) := by
      show _ = _
      rw [← HB.out]
      unfold mayB
      rw [if_pos (by simp only [isCtl, Bool.or_eq_true, beq_iff_eq]; omega)]
    clear HB
    cases fin with
    | false =>
      obtain rfl : B = false := HC.out
      rcases h8 with rfl | rfl | rfl
      all_goals
        go_enter Tryd.func19, Tryd.ntmps19
        go_wp2
        go_ret
        exact ⟨rfl, rfl⟩
    | true =>
      by_cases hs : 125 < size
      · have d1 : decide (125 < size) = true := decide_eq_true hs
        obtain rfl : B = false := by rw [HC.out]; simp; omega
        rcases h8 with rfl | rfl | rfl
        all_goals
          go_enter Tryd.func19, Tryd.ntmps19
          go_wp2
          go_ret
          exact ⟨rfl, rfl⟩
      · have d1 : decide (125 < size) = false := decide_eq_false hs
        obtain rfl : B = true := by rw [HC.out]; simp; omega
        rcases h8 with rfl | rfl | rfl
        all_goals
          go_enter Tryd.func19, Tryd.ntmps19
          go_wp2
          go_ret
          exact ⟨rfl, rfl⟩
  · have HC : Hid (B = isMsg op) := by
      show _ = _
      rw [← HB.out]
      unfold mayB
      rw [if_neg (by simp only [isCtl, Bool.or_eq_true, beq_iff_eq]; omega)]
    clear HB
    have n8 : (op == 8) = false := by simp; omega
    have n9 : (op == 9) = false := by simp; omega
    have n10 : (op == 10) = false := by simp; omega
    by_cases h0 : op = 0 ∨ op = 1 ∨ op = 2
    · obtain rfl : B = true := by rw [HC.out]; simp only [isMsg, Bool.or_eq_true, beq_iff_eq]; omega
      clear n8 n9 n10 h8
      rcases h0 with rfl | rfl | rfl
      all_goals
        go_enter Tryd.func19, Tryd.ntmps19
        go_wp2
        go_ret
        exact ⟨rfl, rfl⟩
    · obtain rfl : B = false := by rw [HC.out]; simp only [isMsg, Bool.or_eq_false_iff, beq_eq_false_iff_ne]; omega
      have n0 : (op == 0) = false := by simp; omega
      have n1 : (op == 1) = false := by simp; omega
      have n2 : (op == 2) = false := by simp; omega
      clear h8 h0
      go_enter Tryd.func19, Tryd.ntmps19
      go_wp2
      go_ret
      exact ⟨rfl, rfl⟩
#print axioms mayBe_any
end Go.Proofs.YtiiafkjdeoabaaaDoor
