/-
  httpd: readLength.
-/
import Derived.Test.YthkadboeokgjnacGreatDoorHhF
import Derived.Test.YthkadboeokgjnacGreatDoorAtk
import Derived.Test.YthkadboeokgjnacGreatDoorAtc
import Derived.Lib.AtoiErrMem
set_option linter.unusedVariables false
set_option maxRecDepth 1000000
namespace Go.Proofs.YthkadboeokgjnacGreatDoor
open Go.RowKit

/-- strconv.ErrSyntax is there. -/
def Sx (w : World) : Prop := ∃ te pe, w.cell? ⟨3, 0, none⟩ = some (.iface te pe)
theorem Sx.below {w w' : World} {B : Nat} (h : Sx w) (hb : Below B w w') (hB : w.heap.size ≤ B) : Sx w' := by
  obtain ⟨m, q, hm⟩ := h
  exact ⟨m, q, by rw [hb.cell (Nat.lt_of_lt_of_le (World.block_lt_of_cell? w _ hm) hB)]; exact hm⟩
theorem dig_val (c : UInt8) (h : digB c = true) : Lib.digitVal c = some (c.toNat - 48) := by
  unfold digB at h
  simp only [Bool.and_eq_true, decide_eq_true_eq] at h
  unfold Lib.digitVal
  rw [if_pos h]
theorem dec_dig : ∀ (l : List UInt8) (acc : Nat), l.all digB = true → ∃ n, Lib.decFrom acc l = some n ∧ n < (acc + 1) * 10 ^ l.length
  | [], acc, _ => ⟨acc, rfl, by simp⟩
  | c :: l, acc, h => by
    simp only [List.all_cons, Bool.and_eq_true] at h
    have hd := dig_val c h.1
    obtain ⟨n, h1, h2⟩ := dec_dig l (acc * 10 + (c.toNat - 48)) h.2
    refine ⟨n, ?_, ?_⟩
    · unfold Lib.decFrom
      rw [hd]
      exact h1
    · have hc : c.toNat - 48 ≤ 9 := by
        have := h.1
        unfold digB at this
        simp only [Bool.and_eq_true, decide_eq_true_eq] at this
        omega
      rw [List.length_cons, Nat.pow_succ]
      refine Nat.lt_of_lt_of_le h2 ?_
      calc (acc * 10 + (c.toNat - 48) + 1) * 10 ^ l.length ≤ ((acc + 1) * 10) * 10 ^ l.length := Nat.mul_le_mul_right _ (by omega)
        _ = (acc + 1) * (10 ^ l.length * 10) := by rw [Nat.mul_assoc, Nat.mul_comm 10]
theorem atoi_dig (l : List UInt8) (h : l.all digB = true) (hne : l ≠ []) (h9 : l.length ≤ 9) : ∃ n : Nat, Lib.atoi l = some (n : Int) ∧ n < 1000000000 := by
  match l, hne with
  | c :: r, _ =>
    have hc : digB c = true := by simp only [List.all_cons, Bool.and_eq_true] at h; exact h.1
    have h45 : (c == 45) = false := by
      rw [beq_eq_false_iff_ne]; rintro rfl; simp [digB] at hc
    have h43 : (c == 43) = false := by
      rw [beq_eq_false_iff_ne]; rintro rfl; simp [digB] at hc
    obtain ⟨n, h1, h2⟩ := dec_dig (c :: r) 0 h
    refine ⟨n, ?_, ?_⟩
    · have : Lib.decNat (c :: r) = some n := h1
      simp only [Lib.atoi, h45, h43, this]
      rfl
    · have : 10 ^ (c :: r).length ≤ 10 ^ 9 := Nat.pow_le_pow_right (by decide) h9
      omega
/-- A number of few digits. -/
def rlM (l : List UInt8) : Option Nat := if decide (l.length ≤ 9) && (l.all digB && !l.isEmpty) then (Lib.atoi l).map Int.toNat else none
theorem rlM_some (l : List UInt8) (h : l.all digB = true) (hne : l ≠ []) (h9 : l.length ≤ 9) : ∃ n : Nat, rlM l = some n ∧ Lib.atoi l = some (n : Int) ∧ n < 1000000000 := by
  obtain ⟨n, h1, h2⟩ := atoi_dig l h hne h9
  refine ⟨n, ?_, h1, h2⟩
  unfold rlM
  rw [decide_eq_true h9, h, show l.isEmpty = false by cases l; exact absurd rfl hne; rfl, h1]
  rfl
set_option maxHeartbeats 2000000 in
theorem readLength_any (l : List UInt8) (w : World) (hl : l.length ≤ 1000000) (hs : Sx w) :
    Calls Tryz.prog 50 #[.string (str l)] w fun e w' => e = .returned (.tuple #[.int .i64 (((rlM l).getD 0 : Nat) : Int), .bool (rlM l).isSome]) ∧ Hid (Below w.heap.size w w') := by
  have hsz : (str l).size = l.length := str_size l
  have HA := hide (all_dig l w hl)
  by_cases h9 : l.length ≤ 9
  · have h9' : ¬ (9 : Int) < (l.length : Int) := by omega
    cases hd : l.all digB with
    | false =>
      have HR : Hid (rlM l = none) := by show _ = _; unfold rlM; rw [hd]; simp
      rw [hd] at HA
      clear hd h9 hs
      go_enter Tryz.func50, Tryz.ntmps50
      go_wp2_with (go_at_call 61; refine (unhide HA).mono ?_; rintro e w2 ⟨rfl, rfl⟩)
      go_ret2
      exact ⟨by rw [unhide HR]; rfl, Below.refl _ _⟩
    | true =>
      rw [hd] at HA
      by_cases hne : l = []
      · subst hne
        obtain ⟨te, pe, hcell⟩ := hs
        have HE := hide (Any.strconv_Atoi_err (ρ := Tryz.laysC172_ren) Tryz.laysC172 (str []) (by decide) rfl (.iface te pe) w hcell (.inr ⟨te, pe, rfl⟩))
        clear hcell hd h9
        go_enter Tryz.func50, Tryz.ntmps50
        go_wp2_with (first | (go_at_call 61; refine (unhide HA).mono ?_; rintro e w2 ⟨rfl, rfl⟩) | (go_at_call 76; refine (unhide HE).mono ?_; rintro e w2 ⟨N, rfl, hN, hrow, hb⟩; have HB := hide hb; clear hb hrow hN))
        go_quiet (fail)
        go_wp2
        go_ret2
        exact ⟨rfl, below_drewN (unhide HB) nq⟩
      · obtain ⟨n, h1, h2, h3⟩ := rlM_some l hd hne h9
        have HE : Hid (Calls Tryz.prog 76 #[.string (str l)] w fun e w' => e = .returned (.tuple #[.int .i64 (n : Int), .nilIface]) ∧ Hid (Below w.heap.size w w')) :=
          Calls.mono (Any.strconv_Atoi (ρ := Tryz.lays172_ren) Tryz.lays172 (str l) (n : Int) (by omega) h2 w) (fun e w' h => ⟨h.1, by obtain ⟨t, ht⟩ := h.2; rw [ht]; exact Lib.bytesWorld_below _ _ _⟩)
        have HR := hide h1
        clear h1 h2 hd h9 hne hs
        go_enter Tryz.func50, Tryz.ntmps50
        go_wp2_with (first | (go_at_call 61; refine (unhide HA).mono ?_; rintro e w2 ⟨rfl, rfl⟩) | (go_at_call 76; refine (unhide HE).mono ?_; rintro e w2 ⟨rfl, HB⟩))
        go_quiet (fail)
        go_wp2
        go_ret2
        exact ⟨by rw [unhide HR]; rfl, below_drewN (unhide HB) nq⟩
  · have h9' : (9 : Int) < (l.length : Int) := by omega
    have HR : Hid (rlM l = none) := by show _ = _; unfold rlM; rw [decide_eq_false h9]; rfl
    clear h9 hs
    go_enter Tryz.func50, Tryz.ntmps50
    go_wp2
    go_ret2
    exact ⟨by rw [unhide HR]; rfl, Below.refl _ _⟩
#print axioms readLength_any
end Go.Proofs.YthkadboeokgjnacGreatDoor
