/-
  slices.Equal of bytes, told as a call that only reads.
-/
import Derived.Test.YtmpaekhklfnkfaaLnkW
set_option linter.unusedVariables false
namespace Go.Proofs.Ytmpaekhklfnkfaa
open Go.RowKit Go.Maps

set_option maxHeartbeats 2000000 in
theorem eqs_z (a1 : Option Addr) (cap1 : Nat) (l1 : List UInt8) (a2 : Option Addr) (cap2 : Nat) (l2 : List UInt8) (n1 n2 : Nat) (w : World) (h1 : Row w a1 l1) (h2 : Row w a2 l2) (E1 : Hid (n1 = l1.length)) (E2 : Hid (n2 = l2.length)) (hl1 : n1 ≤ 1000000000) (hl2 : n2 ≤ 1000000000) :
    Calls Try.prog 17 #[.slice a1 n1 cap1, .slice a2 n2 cap2] w fun e w' => e = .returned (.bool (l1 == l2)) ∧ ∃ m, w' = w.drewN m := by
  by_cases hl : n1 = n2
  · subst hl
    go_enter Try.func17, Try.ntmps17
    go_wp2
    go_loopw [13] (fun i wr => ∃ k : Nat, k ≤ n1 ∧ i = .int .i64 (k : Int) ∧ Hid (l1.take k = l2.take k) ∧ ∃ m, wr = w.drewN m) (fun i _ => n1 - (intOf i).toNat)
    case atStart => exact ⟨0, Nat.zero_le _, rfl, (by show _ = _; simp), 0, rfl⟩
    case round =>
      obtain ⟨k, hk, rfl, HT, m, hwr⟩ := hrel
      have hb : Below w.heap.size w wr := by rw [hwr]; exact below_drewN (Below.refl _ _) m
      have HW := hide hwr
      clear hwr
      by_cases hlt : k < n1
      · have hk1 : k < l1.length := by have := unhide E1; omega
        have hk2 : k < l2.length := by have := unhide E2; omega
        obtain ⟨b1, o1, ea1, hc1⟩ := (h1.below hb (Nat.le_refl _)) (by intro e; subst e; simp at hk1)
        obtain ⟨b2, o2, ea2, hc2⟩ := (h2.below hb (Nat.le_refl _)) (by intro e; subst e; simp at hk2)
        subst ea1
        subst ea2
        have k1 := hc1 k hk1
        have k2 := hc2 k hk2
        have hlt2 : (k : Int) < (n1 : Int) := by omega
        obtain ⟨x, hx⟩ : ∃ x, x = l1.getD k 0 := ⟨_, rfl⟩
        obtain ⟨y, hy⟩ : ∃ y, y = l2.getD k 0 := ⟨_, rfl⟩
        rw [← hx] at k1
        rw [← hy] at k2
        have G1 : Hid (l1[k]? = some x) := by show _ = _; rw [hx]; simp [hk1]
        have G2 : Hid (l2[k]? = some y) := by show _ = _; rw [hy]; simp [hk2]
        clear hx hy hc1 hc2
        by_cases hxy : x = y
        · have hb1 : ((x.toNat : Int) != (y.toNat : Int)) = false := by rw [hxy]; simp
          have HT2 : Hid (l1.take (k + 1) = l2.take (k + 1)) := by show _ = _; rw [List.take_add_one, List.take_add_one, unhide HT, unhide G1, unhide G2, hxy]
          clear hxy
          go_wp2_with fail
          go_quiet (fail)
          go_wp2
          go_roundw
          case rel => exact ⟨k + 1, by omega, by go_num, HT2, m + nq, by rw [unhide HW, World.drewN_drewN]⟩
          case measure => simp [intOf]; omega
        · have hb1 : ((x.toNat : Int) != (y.toNat : Int)) = true := by
            simp only [bne_iff_ne, ne_eq]
            intro h
            exact hxy (UInt8.toNat_inj.1 (by omega))
          have HF : Hid ((l1 == l2) = false) := by
            show _ = _
            simp only [beq_eq_false_iff_ne, ne_eq]
            intro e
            apply hxy
            have := unhide G1
            rw [e, unhide G2] at this
            exact (Option.some.inj this).symm
          clear hxy
          go_wp2_with fail
          go_quiet (fail)
          go_wp2
          go_ret
          exact ⟨by rw [unhide HF]; rfl, m + nq, by rw [unhide HW, World.drewN_drewN]⟩
      · obtain rfl : k = n1 := by omega
        have HF : Hid ((l1 == l2) = true) := by
          show _ = _
          have e1 := unhide HT
          rw [List.take_of_length_le (by have := unhide E1; omega), List.take_of_length_le (by have := unhide E2; omega)] at e1
          rw [e1]; simp
        go_wp2
        go_ret
        exact ⟨by rw [unhide HF]; rfl, m, unhide HW⟩
  · have HF : Hid ((l1 == l2) = false) := by
      show _ = _
      simp only [beq_eq_false_iff_ne, ne_eq]
      intro e
      apply hl
      rw [unhide E1, unhide E2, e]
    have hd : ((n1 : Int) != (n2 : Int)) = true := by simp; omega
    go_enter Try.func17, Try.ntmps17
    go_wp2
    go_ret
    exact ⟨by rw [unhide HF]; rfl, 0, rfl⟩
#print axioms eqs_z
end Go.Proofs.Ytmpaekhklfnkfaa
