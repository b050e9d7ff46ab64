/-
  authtok: THE WALKS of the document's own Name, claim, token and Check.
-/
import Derived.Test.YthliodpihbbjfaaDoorAutT
import Derived.Test.YthliodpihbbjfaaDoorRefN
import Derived.Test.YthliodpihbbjfaaDoorRefS
import Derived.Test.YthliodpihbbjfaaDoorRfM
set_option linter.unusedVariables false
set_option maxRecDepth 1000000
namespace Go.Proofs.YthliodpihbbjfaaDoor
open Go.RowKit

theorem u8_is (c d : UInt8) : (c == d) = decide (c.toNat = d.toNat) := by
  rw [Bool.eq_iff_iff, beq_iff_eq, decide_eq_true_eq, UInt8.toNat_inj]
set_option maxHeartbeats 4000000 in
theorem rname_any (s : List UInt8) (w : World) (hs : s.length ≤ 100000) :
    Calls Tryd.prog 16 #[.string (str s)] w fun e w' => e = .returned (.bool (nmOk s)) ∧ w' = w := by
  have hsz : (str s).size = s.length := str_size s
  have hidx : ∀ i : Nat, i < s.length → ∀ w : World, (Instr.index 9 (.string (str s)) (.int .i64 (i : Int))).run Tryd.prog w = .ok (.int .u8 ((s.getD i 0).toNat : Int)) w := by
    intro i hi w
    exact run_ixs w s i _ (by rw [List.getD_eq_getElem?_getD, List.getElem?_eq_getElem hi]; rfl)
  have HX := hide hidx
  obtain ⟨B, hB⟩ : ∃ B, nmOk s = B := ⟨_, rfl⟩
  rw [hB]
  have HB := hide hB
  clear hidx hB
  go_enter Tryd.func16, Tryd.ntmps16
  go_wp2
  go_loopw [8] (fun v wr => ∃ i : Nat, i ≤ s.length ∧ v = .int .i64 (i : Int) ∧ Hid ((s.take i).all nmB = true) ∧ wr = w) (fun v _ => s.length - (intOf v).toNat)
  case atStart => exact ⟨0, Nat.zero_le _, rfl, (by show _ = _; simp), rfl⟩
  case round =>
    obtain ⟨i, hi, rfl, ha, rfl⟩ := hrel
    by_cases hlt : i < s.length
    · have hx := HX.out i hlt
      have HS : Hid (s.take (i + 1) = s.take i ++ [s.getD i 0]) := by show _ = _; rw [List.take_add_one]; simp [hlt]
      have HM : Hid (s.getD i 0 ∈ s) := by show _ ∈ _; simp [hlt]
      have hi2 : (i : Int) < (s.length : Int) := by omega
      generalize s.getD i 0 = c at *
      have hn := nmB_nat c c.toNat rfl
      have c46 := u8_is c 46
      have c45 := u8_is c 45
      have c95 := u8_is c 95
      rw [show (46 : UInt8).toNat = 46 from rfl] at c46
      rw [show (45 : UInt8).toNat = 45 from rfl] at c45
      rw [show (95 : UInt8).toNat = 95 from rfl] at c95
      rw [c46, c45, c95] at hn
      have hcl := c.toNat_lt
      have HGO : Hid (nmB c = true → (s.take (i + 1)).all nmB = true) := fun hc => by rw [HS.out, List.all_append, ha.out]; simp [hc]
      have HST : Hid (nmB c = false → B = false) := fun hc => by
        rw [← HB.out]
        unfold nmOk
        rw [show s.all nmB = false from by rw [List.all_eq_false]; exact ⟨c, HM.out, by rw [hc]; simp⟩]
        simp
      clear c46 c45 c95 HS HM ha
      generalize c.toNat = X at *
      generalize nmB c = q at *
      have HN := hide hn
      clear hn
      by_cases y0 : 97 ≤ X ∧ X ≤ 122
      · have ga0 : decide ((97 : Int) ≤ (X : Int)) = true := decide_eq_true (by omega)
        have la0 : decide ((X : Int) ≤ 122) = true := decide_eq_true (by omega)
        have hq : q = true := by rw [HN.out]; simp; omega
        subst hq
        have HG := hide (HGO.out rfl)
        clear HGO HST HN
        go_wp2
        go_roundw
        case rel => exact ⟨i + 1, by omega, by go_num, HG, trivial⟩
        case measure => simp [intOf]; omega
      by_cases y1 : 122 < X
      · have ga0 : decide ((97 : Int) ≤ (X : Int)) = true := decide_eq_true (by omega)
        have ga1 : decide ((65 : Int) ≤ (X : Int)) = true := decide_eq_true (by omega)
        have ga2 : decide ((48 : Int) ≤ (X : Int)) = true := decide_eq_true (by omega)
        have la0 : decide ((X : Int) ≤ 122) = false := decide_eq_false (by omega)
        have la1 : decide ((X : Int) ≤ 90) = false := decide_eq_false (by omega)
        have la2 : decide ((X : Int) ≤ 57) = false := decide_eq_false (by omega)
        have na0 : ((X : Int) != 46) = true := by simp; omega
        have nb0 : ((X : Int) == 46) = false := by simp; omega
        have na1 : ((X : Int) != 45) = true := by simp; omega
        have nb1 : ((X : Int) == 45) = false := by simp; omega
        have na2 : ((X : Int) != 95) = true := by simp; omega
        have nb2 : ((X : Int) == 95) = false := by simp; omega
        have hq : q = false := by rw [HN.out]; simp; omega
        subst hq
        obtain rfl := HST.out rfl
        clear HGO HST HN
        go_wp2
        go_ret
        exact ⟨rfl, rfl⟩
      by_cases y2 : 65 ≤ X ∧ X ≤ 90
      · have ga0 : decide ((97 : Int) ≤ (X : Int)) = false := decide_eq_false (by omega)
        have ga1 : decide ((65 : Int) ≤ (X : Int)) = true := decide_eq_true (by omega)
        have la0 : decide ((X : Int) ≤ 90) = true := decide_eq_true (by omega)
        have hq : q = true := by rw [HN.out]; simp; omega
        subst hq
        have HG := hide (HGO.out rfl)
        clear HGO HST HN
        go_wp2
        go_roundw
        case rel => exact ⟨i + 1, by omega, by go_num, HG, trivial⟩
        case measure => simp [intOf]; omega
      by_cases y3 : X = 95
      · have ga0 : decide ((97 : Int) ≤ (X : Int)) = false := decide_eq_false (by omega)
        have ga1 : decide ((65 : Int) ≤ (X : Int)) = true := decide_eq_true (by omega)
        have ga2 : decide ((48 : Int) ≤ (X : Int)) = true := decide_eq_true (by omega)
        have la0 : decide ((X : Int) ≤ 90) = false := decide_eq_false (by omega)
        have la1 : decide ((X : Int) ≤ 57) = false := decide_eq_false (by omega)
        have na0 : ((X : Int) != 46) = true := by simp; omega
        have nb0 : ((X : Int) == 46) = false := by simp; omega
        have na1 : ((X : Int) != 45) = true := by simp; omega
        have nb1 : ((X : Int) == 45) = false := by simp; omega
        have na2 : ((X : Int) != 95) = false := by simp; omega
        have nb2 : ((X : Int) == 95) = true := by simp; omega
        have hq : q = true := by rw [HN.out]; simp; omega
        subst hq
        have HG := hide (HGO.out rfl)
        clear HGO HST HN
        go_wp2
        go_roundw
        case rel => exact ⟨i + 1, by omega, by go_num, HG, trivial⟩
        case measure => simp [intOf]; omega
      by_cases y4 : 91 ≤ X
      · have ga0 : decide ((97 : Int) ≤ (X : Int)) = false := decide_eq_false (by omega)
        have ga1 : decide ((65 : Int) ≤ (X : Int)) = true := decide_eq_true (by omega)
        have ga2 : decide ((48 : Int) ≤ (X : Int)) = true := decide_eq_true (by omega)
        have la0 : decide ((X : Int) ≤ 90) = false := decide_eq_false (by omega)
        have la1 : decide ((X : Int) ≤ 57) = false := decide_eq_false (by omega)
        have na0 : ((X : Int) != 46) = true := by simp; omega
        have nb0 : ((X : Int) == 46) = false := by simp; omega
        have na1 : ((X : Int) != 45) = true := by simp; omega
        have nb1 : ((X : Int) == 45) = false := by simp; omega
        have na2 : ((X : Int) != 95) = true := by simp; omega
        have nb2 : ((X : Int) == 95) = false := by simp; omega
        have hq : q = false := by rw [HN.out]; simp; omega
        subst hq
        obtain rfl := HST.out rfl
        clear HGO HST HN
        go_wp2
        go_ret
        exact ⟨rfl, rfl⟩
      by_cases y5 : 48 ≤ X ∧ X ≤ 57
      · have ga0 : decide ((97 : Int) ≤ (X : Int)) = false := decide_eq_false (by omega)
        have ga1 : decide ((65 : Int) ≤ (X : Int)) = false := decide_eq_false (by omega)
        have ga2 : decide ((48 : Int) ≤ (X : Int)) = true := decide_eq_true (by omega)
        have la0 : decide ((X : Int) ≤ 57) = true := decide_eq_true (by omega)
        have hq : q = true := by rw [HN.out]; simp; omega
        subst hq
        have HG := hide (HGO.out rfl)
        clear HGO HST HN
        go_wp2
        go_roundw
        case rel => exact ⟨i + 1, by omega, by go_num, HG, trivial⟩
        case measure => simp [intOf]; omega
      by_cases y6 : 58 ≤ X
      · have ga0 : decide ((97 : Int) ≤ (X : Int)) = false := decide_eq_false (by omega)
        have ga1 : decide ((65 : Int) ≤ (X : Int)) = false := decide_eq_false (by omega)
        have ga2 : decide ((48 : Int) ≤ (X : Int)) = true := decide_eq_true (by omega)
        have la0 : decide ((X : Int) ≤ 57) = false := decide_eq_false (by omega)
        have na0 : ((X : Int) != 46) = true := by simp; omega
        have nb0 : ((X : Int) == 46) = false := by simp; omega
        have na1 : ((X : Int) != 45) = true := by simp; omega
        have nb1 : ((X : Int) == 45) = false := by simp; omega
        have na2 : ((X : Int) != 95) = true := by simp; omega
        have nb2 : ((X : Int) == 95) = false := by simp; omega
        have hq : q = false := by rw [HN.out]; simp; omega
        subst hq
        obtain rfl := HST.out rfl
        clear HGO HST HN
        go_wp2
        go_ret
        exact ⟨rfl, rfl⟩
      by_cases y7 : X = 46
      · have ga0 : decide ((97 : Int) ≤ (X : Int)) = false := decide_eq_false (by omega)
        have ga1 : decide ((65 : Int) ≤ (X : Int)) = false := decide_eq_false (by omega)
        have ga2 : decide ((48 : Int) ≤ (X : Int)) = false := decide_eq_false (by omega)
        have na0 : ((X : Int) != 46) = false := by simp; omega
        have nb0 : ((X : Int) == 46) = true := by simp; omega
        have hq : q = true := by rw [HN.out]; simp; omega
        subst hq
        have HG := hide (HGO.out rfl)
        clear HGO HST HN
        go_wp2
        go_roundw
        case rel => exact ⟨i + 1, by omega, by go_num, HG, trivial⟩
        case measure => simp [intOf]; omega
      by_cases y8 : X = 45
      · have ga0 : decide ((97 : Int) ≤ (X : Int)) = false := decide_eq_false (by omega)
        have ga1 : decide ((65 : Int) ≤ (X : Int)) = false := decide_eq_false (by omega)
        have ga2 : decide ((48 : Int) ≤ (X : Int)) = false := decide_eq_false (by omega)
        have na0 : ((X : Int) != 46) = true := by simp; omega
        have nb0 : ((X : Int) == 46) = false := by simp; omega
        have na1 : ((X : Int) != 45) = false := by simp; omega
        have nb1 : ((X : Int) == 45) = true := by simp; omega
        have hq : q = true := by rw [HN.out]; simp; omega
        subst hq
        have HG := hide (HGO.out rfl)
        clear HGO HST HN
        go_wp2
        go_roundw
        case rel => exact ⟨i + 1, by omega, by go_num, HG, trivial⟩
        case measure => simp [intOf]; omega
      · have ga0 : decide ((97 : Int) ≤ (X : Int)) = false := decide_eq_false (by omega)
        have ga1 : decide ((65 : Int) ≤ (X : Int)) = false := decide_eq_false (by omega)
        have ga2 : decide ((48 : Int) ≤ (X : Int)) = false := decide_eq_false (by omega)
        have na0 : ((X : Int) != 46) = true := by simp; omega
        have nb0 : ((X : Int) == 46) = false := by simp; omega
        have na1 : ((X : Int) != 45) = true := by simp; omega
        have nb1 : ((X : Int) == 45) = false := by simp; omega
        have na2 : ((X : Int) != 95) = true := by simp; omega
        have nb2 : ((X : Int) == 95) = false := by simp; omega
        have hq : q = false := by rw [HN.out]; simp; omega
        subst hq
        obtain rfl := HST.out rfl
        clear HGO HST HN
        go_wp2
        go_ret
        exact ⟨rfl, rfl⟩
    · obtain rfl : i = s.length := by omega
      rw [List.take_length] at ha
      have HE : Hid (B = (decide (s ≠ []) && decide (s.length ≤ 24))) := by
        show _ = _
        rw [← HB.out]
        unfold nmOk
        rw [ha.out, Bool.and_true]
      by_cases h1 : 1 ≤ s.length
      · have a1 : decide ((1 : Int) ≤ (s.length : Int)) = true := decide_eq_true (by omega)
        have hne : s ≠ [] := by intro e; subst e; simp at h1
        by_cases h2 : s.length ≤ 24
        · have a2 : decide ((s.length : Int) ≤ 24) = true := decide_eq_true (by omega)
          obtain rfl : B = true := by rw [HE.out]; simp [hne, h2]
          clear hne
          go_wp2
          go_ret
          exact ⟨rfl, rfl⟩
        · have a2 : decide ((s.length : Int) ≤ 24) = false := decide_eq_false (by omega)
          obtain rfl : B = false := by rw [HE.out]; simp [hne, h2]
          clear hne
          go_wp2
          go_ret
          exact ⟨rfl, rfl⟩
      · have a1 : decide ((1 : Int) ≤ (s.length : Int)) = false := decide_eq_false (by omega)
        have hse : s = [] := List.eq_nil_of_length_eq_zero (by omega)
        obtain rfl : B = false := by rw [HE.out, hse]; simp
        clear hse
        go_wp2
        go_ret
        exact ⟨rfl, rfl⟩
#print axioms rname_any
end Go.Proofs.YthliodpihbbjfaaDoor
