/-
  authtok: THE WALKS of the document's own Check and Make.
-/
import Derived.Test.YthliodpihbbjfaaDoorAutV
import Derived.Deep.QuietTactic
import Derived.BigQuiet
set_option linter.unusedVariables false
set_option maxRecDepth 1000000
namespace Go.Proofs.YthliodpihbbjfaaDoor
open Go.RowKit

theorem leastAt_zero (L : List Sec) : leastAt L 0 = 0 := by simp [leastAt]

set_option maxHeartbeats 8000000 in
theorem rcheck_core (E : Int) (p : Option Addr) (c : Nat) (L : List Sec) (w : World) (HEQ : Hid (E = if ckOk L then 0 else 102)) (h : SecR w p L) (hl : L.length ≤ 140737488355328) :
    Calls Tryd.prog 14 #[.slice p L.length c] w fun e w' => e = .returned (.int .i64 E) ∧ Hid (Below w.heap.size w w') := by
  by_cases h0 : L = []
  · subst h0
    obtain rfl : E = 102 := HEQ.out
    go_enter Tryd.func14, Tryd.ntmps14
    go_wp2
    go_ret
    exact ⟨rfl, Below.refl _ _⟩
  have hl0 : ¬ L.length = 0 := fun h => h0 (List.eq_nil_of_length_eq_zero h)
  have hd0 : decide ((L.length : Int) < 1) = false := decide_eq_false (by omega)
  by_cases h1 : 8 < L.length
  · obtain rfl : E = 102 := by rw [HEQ.out]; unfold ckOk; rw [decide_eq_false (show ¬ L.length ≤ 8 by omega)]; simp
    clear h0 HEQ
    have hd1 : decide ((8 : Int) < (L.length : Int)) = true := decide_eq_true (by omega)
    go_enter Tryd.func14, Tryd.ntmps14
    go_wp2
    go_ret
    exact ⟨rfl, Below.refl _ _⟩
  have HE : Hid (E = if ckFrom 0 L then 0 else 102) := by
    show _ = _
    rw [HEQ.out]
    unfold ckOk
    rw [decide_eq_true h0, decide_eq_true (show L.length ≤ 8 by omega)]
    simp
  have HS := hide h
  have hd1 : decide ((8 : Int) < (L.length : Int)) = false := decide_eq_false (by omega)
  clear h h0 HEQ
  go_enter Tryd.func14, Tryd.ntmps14
  go_wp2
  go_loopw [15] (fun v wr => ∃ (i : Nat) (m : Int), i ≤ L.length ∧ v = .int .i64 (i : Int) ∧ Hid (m = leastAt L i) ∧ 0 ≤ m ∧ (0 < i → 1 ≤ m) ∧ Hid (ckFrom 0 (L.take i) = true) ∧ Hid (Below w.heap.size w wr)) (fun v _ => L.length - (intOf v).toNat)
  case atStart => exact ⟨0, 0, Nat.zero_le _, rfl, rfl, by omega, by omega, rfl, Below.refl _ _⟩
  case round =>
    obtain ⟨i, m, hi, rfl, hm, hm0, hm1, hck, hb⟩ := hrel
    by_cases hlt : i < L.length
    · obtain ⟨s, hs⟩ : ∃ s, L[i]? = some s := ⟨_, List.getElem?_eq_getElem hlt⟩
      obtain ⟨b, off, x, cx, rfl, c0, c1, hB, hbl⟩ := (HS.out.below hb.out (Nat.le_refl _)).at hs
      have hbm := Nat.le_trans hB.le hB.most
      unfold maxLen at hbm
      have HK := hide (ck_succ L i s hs)
      have HL := hide (leastAt_succ L i s hs)
      rw [hck.out, ← hm.out] at HK
      obtain ⟨id, bt⟩ := s
      simp only at c0 c1 hbm HL
      have HBD : Hid (ckS m (id, bt) = false → E = 102) := fun h => by rw [HE.out, ck_bad L (i + 1) (by rw [HK.out, h]; rfl)]; rfl
      have HGD : Hid (ckS m (id, bt) = true → ckFrom 0 (L.take (i + 1)) = true) := fun h => by rw [HK.out, h]; rfl
      have hi2 : (i : Int) < (L.length : Int) := by omega
      have HBA : Hid (∀ o n, Hid (Below w.heap.size w ((wr.alloc o).drewN n))) := fun o n => below_drewN (hb.out.alloc hb.out.size o) n
      rcases Nat.eq_zero_or_pos i with hi0 | hip
      · subst hi0
        obtain rfl : m = 0 := by rw [hm.out]; exact leastAt_zero L
        have j0 : decide ((0 : Int) < ((0 : Nat) : Int)) = false := by simp
        rw [Nat.zero_mul, Nat.add_zero] at c0 c1
        clear hs HK hB hm hck hm1
        by_cases q1 : id < 0
        · obtain rfl := HBD.out (by simp [ckS]; omega)
          have g1 : decide (id < 0) = true := decide_eq_true (by omega)
          go_wp2
          go_quiet (fail)
          go_wp2
          go_ret
          exact ⟨rfl, HBA.out _ _⟩
        have g1 : decide (id < 0) = false := decide_eq_false (by omega)
        by_cases q2 : 1099511627776 < id
        · obtain rfl := HBD.out (by simp [ckS]; omega)
          have g2 : decide (1099511627776 < id) = true := decide_eq_true (by omega)
          go_wp2
          go_quiet (fail)
          go_wp2
          go_ret
          exact ⟨rfl, HBA.out _ _⟩
        have g2 : decide (1099511627776 < id) = false := decide_eq_false (by omega)
        by_cases q3 : bt.length < 16
        · obtain rfl := HBD.out (by simp [ckS]; omega)
          have g3 : decide ((bt.length : Int) < 16) = true := decide_eq_true (by omega)
          go_wp2
          go_quiet (fail)
          go_wp2
          go_ret
          exact ⟨rfl, HBA.out _ _⟩
        have g3 : decide ((bt.length : Int) < 16) = false := decide_eq_false (by omega)
        by_cases q4 : 64 < bt.length
        · obtain rfl := HBD.out (by simp [ckS]; omega)
          have g4 : decide ((64 : Int) < (bt.length : Int)) = true := decide_eq_true (by omega)
          go_wp2
          go_quiet (fail)
          go_wp2
          go_ret
          exact ⟨rfl, HBA.out _ _⟩
        have g4 : decide ((64 : Int) < (bt.length : Int)) = false := decide_eq_false (by omega)
        have HG := hide (HGD.out (by simp [ckS]; omega))
        clear HBD HGD
        go_wp2
        go_quiet (fail)
        go_wp2
        go_roundw
        case rel => exact ⟨0 + 1, id + 1, by omega, by go_num, (by show _ = _; rw [HL.out]), by omega, by omega, HG, HBA.out _ _⟩
        case measure => simp [intOf]; omega
      · obtain ⟨j, rfl⟩ : ∃ j, i = j + 1 := ⟨i - 1, by omega⟩
        obtain ⟨t, ht⟩ : ∃ t, L[j]? = some t := ⟨_, List.getElem?_eq_getElem (by omega)⟩
        obtain ⟨b', off', x', cx', he, p0, _, _, _⟩ := (HS.out.below hb.out (Nat.le_refl _)).at ht
        obtain ⟨rfl, rfl⟩ : b = b' ∧ off = off' := by simpa using he
        obtain ⟨pid, pbt⟩ := t
        simp only at p0
        obtain rfl : m = pid + 1 := by rw [hm.out]; exact leastAt_succ L j _ ht
        have j0 : decide ((0 : Int) < ((j + 1 : Nat) : Int)) = true := decide_eq_true (by omega)
        have j1 : ((j + 1 : Nat) : Int) - 1 = (j : Int) := by omega
        have j2 : (j : Int) + 1 - 1 = (j : Int) := by omega
        have j3 : (j : Int) < (L.length : Int) := by omega
        have j4 : decide ((0 : Int) < (j : Int) + 1) = true := decide_eq_true (by omega)
        have hm1' := hm1 (by omega)
        clear hs HK hB hm hck hm1 ht he
        by_cases q1 : id < 0
        · obtain rfl := HBD.out (by simp [ckS]; omega)
          have g1 : decide (id < 0) = true := decide_eq_true (by omega)
          go_wp2
          go_quiet (fail)
          go_wp2
          go_ret
          exact ⟨rfl, HBA.out _ _⟩
        have g1 : decide (id < 0) = false := decide_eq_false (by omega)
        by_cases q2 : 1099511627776 < id
        · obtain rfl := HBD.out (by simp [ckS]; omega)
          have g2 : decide (1099511627776 < id) = true := decide_eq_true (by omega)
          go_wp2
          go_quiet (fail)
          go_wp2
          go_ret
          exact ⟨rfl, HBA.out _ _⟩
        have g2 : decide (1099511627776 < id) = false := decide_eq_false (by omega)
        by_cases q5 : id ≤ pid
        · obtain rfl := HBD.out (by simp [ckS]; omega)
          have g5 : decide (id ≤ pid) = true := decide_eq_true (by omega)
          go_wp2
          go_quiet (fail)
          go_wp2
          go_ret
          exact ⟨rfl, HBA.out _ _⟩
        have g5 : decide (id ≤ pid) = false := decide_eq_false (by omega)
        by_cases q3 : bt.length < 16
        · obtain rfl := HBD.out (by simp [ckS]; omega)
          have g3 : decide ((bt.length : Int) < 16) = true := decide_eq_true (by omega)
          go_wp2
          go_quiet (fail)
          go_wp2
          go_ret
          exact ⟨rfl, HBA.out _ _⟩
        have g3 : decide ((bt.length : Int) < 16) = false := decide_eq_false (by omega)
        by_cases q4 : 64 < bt.length
        · obtain rfl := HBD.out (by simp [ckS]; omega)
          have g4 : decide ((64 : Int) < (bt.length : Int)) = true := decide_eq_true (by omega)
          go_wp2
          go_quiet (fail)
          go_wp2
          go_ret
          exact ⟨rfl, HBA.out _ _⟩
        have g4 : decide ((64 : Int) < (bt.length : Int)) = false := decide_eq_false (by omega)
        have HG := hide (HGD.out (by simp [ckS]; omega))
        clear HBD HGD
        go_wp2
        go_quiet (fail)
        go_wp2
        go_roundw
        case rel => exact ⟨j + 1 + 1, id + 1, by omega, by go_num, (by show _ = _; rw [HL.out]), by omega, by omega, HG, HBA.out _ _⟩
        case measure => simp [intOf]; omega
    · obtain rfl : i = L.length := by omega
      rw [List.take_length] at hck
      obtain rfl : E = 0 := by rw [HE.out, hck.out]; rfl
      go_wp2
      go_ret
      exact ⟨rfl, hb⟩
theorem rcheck_any (p : Option Addr) (c : Nat) (L : List Sec) (w : World) (h : SecR w p L) (hl : L.length ≤ 140737488355328) :
    Calls Tryd.prog 14 #[.slice p L.length c] w fun e w' => e = .returned (.int .i64 (if ckOk L then 0 else 102)) ∧ Hid (Below w.heap.size w w') := rcheck_core _ p c L w rfl h hl
#print axioms rcheck_any
end Go.Proofs.YthliodpihbbjfaaDoor
