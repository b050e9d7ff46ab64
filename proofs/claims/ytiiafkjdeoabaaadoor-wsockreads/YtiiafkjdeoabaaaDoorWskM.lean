/-
  wsock, THE MODEL: what is written is read as it was.
-/
import Derived.Test.YtiiafkjdeoabaaaDoorWskE
import Derived.Test.YtiiafkjdeoabaaaDoorWskH
set_option linter.unusedVariables false
namespace Go.Proofs.YtiiafkjdeoabaaaDoor
open Go.RowKit

theorem xm_xm (m l : List UInt8) : xm m (xm m l) = l := by
  unfold xm
  by_cases h : m = []
  · rw [if_pos h, if_pos h]
  · rw [if_neg h, if_neg h]
    apply List.ext_getElem?
    intro i
    by_cases hi : i < l.length
    · simp only [pm, List.getElem?_mapIdx, List.getElem?_eq_getElem hi, Option.map_some, List.length_mapIdx, hi, if_true]
      rw [UInt8.xor_assoc, UInt8.xor_self, UInt8.xor_zero]
    · simp only [pm, List.getElem?_mapIdx]
      rw [List.getElem?_eq_none (by omega)]
      rfl
theorem mayB_le {op s t : Int} {fin : Bool} (h : mayB op fin s = true) (ht : t ≤ s) : mayB op fin t = true := by
  unfold mayB at h ⊢
  split
  · rename_i hc
    rw [if_pos hc] at h
    simp only [Bool.and_eq_true, decide_eq_true_eq] at h ⊢
    exact ⟨h.1, by omega⟩
  · rename_i hc
    rw [if_neg hc] at h
    exact h
theorem kFin_of {c1 : UInt8} {R : List UInt8} {n : Nat} {fin : Bool} (h1 : c1.toNat = n + if fin then 128 else 0) (hn : n ≤ 10) : kFin (c1 :: R) = fin := by
  unfold kFin
  simp only [List.getD_cons_zero]
  rw [h1]
  cases fin
  · exact decide_eq_false (by simp; omega)
  · exact decide_eq_true (by simp)
theorem kOp_of {c1 : UInt8} {R : List UInt8} {n : Nat} {fin : Bool} (h1 : c1.toNat = n + if fin then 128 else 0) (hn : n ≤ 10) : kOp (c1 :: R) = n := by
  unfold kOp
  simp only [List.getD_cons_zero]
  rw [h1]
  cases fin
  · simp; omega
  · simp; omega
theorem k112 {c1 : UInt8} {n : Nat} {fin : Bool} (h1 : c1.toNat = n + if fin then 128 else 0) (hn : n ≤ 10) : decide (c1.toNat / 16 % 8 ≠ 0) = false := by
  rw [h1]
  cases fin
  · exact decide_eq_false (by simp; omega)
  · exact decide_eq_false (by simp; omega)
theorem kY_one {c1 : UInt8} {n : Nat} {fin mask : Bool} (h1 : c1.toNat = n + if fin then 128 else 0) (hn : n ≤ 10) (h0 : mayB (n : Int) fin 0 = true) : kY [c1] mask = 1 := by
  unfold kY
  rw [kFin_of h1 hn, kOp_of h1 hn]
  simp only [List.getD_cons_zero]
  rw [k112 h1 hn, h0]
  simp
theorem hi2 {c2 : UInt8} {s : Nat} {mk : Bool} (h2 : c2.toNat = (if mk then 128 else 0) + s) (hs : s < 128) : decide (128 ≤ c2.toNat) = mk ∧ c2.toNat % 128 = s := by
  rw [h2]
  cases mk
  · exact ⟨decide_eq_false (by simp; omega), by simp; omega⟩
  · exact ⟨decide_eq_true (by simp), by simp; omega⟩
theorem kY_two {c1 c2 : UInt8} {R : List UInt8} {n s : Nat} {fin mk : Bool} (mask : Bool) (h1 : c1.toNat = n + if fin then 128 else 0) (hn : n ≤ 10) (h0 : mayB (n : Int) fin 0 = true) (h2 : c2.toNat = (if mk then 128 else 0) + s) (hs : s < 128) (hmay : mayB (n : Int) fin (s : Int) = true) : kY (c1 :: c2 :: R) mask = if mk = mask then 0 else 1002 := by
  unfold kY
  rw [kFin_of h1 hn, kOp_of h1 hn]
  simp only [List.getD_cons_zero, List.getD_cons_succ]
  rw [k112 h1 hn, h0, (hi2 h2 hs).1, (hi2 h2 hs).2, hmay]
  cases mk <;> cases mask <;> simp

theorem hd1_nat (n : Nat) (fin : Bool) (hn : n ≤ 10) : (hd1 n fin).toNat = n + if fin then 128 else 0 := by
  unfold hd1
  rw [UInt8.toNat_ofNat']
  cases fin
  · simp; omega
  · simp; omega
theorem mk1_of (m : List UInt8) (hm : m = [] ∨ m.length = 4) : mk1 m = if decide (m.length = 4) then 128 else 0 := by
  unfold mk1
  rcases hm with rfl | hm
  · simp
  · rw [if_neg (by intro e; subst e; simp at hm)]; simp [hm]
theorem four_of (m : List UInt8) (hm : m = [] ∨ m.length = 4) : (if decide (m.length = 4) then 4 else 0) = m.length := by
  rcases hm with rfl | hm
  · simp
  · simp [hm]

theorem szN_short {c1 c2 : UInt8} {R : List UInt8} {s : Nat} (h : c2.toNat % 128 = s) (hs : s ≤ 125) : szN (c1 :: c2 :: R) = s := by
  unfold szN
  simp only [List.getD_cons_zero, List.getD_cons_succ]
  rw [h]
  have : szAt s = 2 := by unfold szAt; rw [if_neg (by omega), if_neg (by omega)]
  rw [this, if_pos rfl]
theorem szY_short {c1 c2 : UInt8} {R : List UInt8} {s : Nat} (h : c2.toNat % 128 = s) (hs : s ≤ 125) : szY (c1 :: c2 :: R) = 0 := by
  unfold szY
  rw [szN_short h hs]
  simp only [List.getD_cons_zero, List.getD_cons_succ]
  rw [h]
  have e1 : szAt s = 2 := by unfold szAt; rw [if_neg (by omega), if_neg (by omega)]
  have e2 : szLe s = 0 := by unfold szLe; rw [if_neg (by omega), if_neg (by omega)]
  rw [e1, e2]
  rw [if_neg (by simp), if_neg (by omega), if_neg (by omega)]
theorem szA_short {c1 c2 : UInt8} {R : List UInt8} {s : Nat} (h : c2.toNat % 128 = s) (hs : s ≤ 125) : szA (c1 :: c2 :: R) = 2 := by
  unfold szA
  rw [szY_short h hs, if_pos rfl]
  simp only [List.getD_cons_zero, List.getD_cons_succ]
  rw [h]
  unfold szAt; rw [if_neg (by omega), if_neg (by omega)]
theorem szS_short {c1 c2 : UInt8} {R : List UInt8} {s : Nat} (h : c2.toNat % 128 = s) (hs : s ≤ 125) : szS (c1 :: c2 :: R) = s := by
  unfold szS
  rw [szY_short h hs, if_pos rfl, szN_short h hs]

theorem szY_cut {c1 c2 : UInt8} {R : List UInt8} (h : c2.toNat % 128 = 126) (hR : R.length < 2) : szY (c1 :: c2 :: R) = 1 := by
  unfold szY
  simp only [List.getD_cons_zero, List.getD_cons_succ]
  rw [h]
  have e1 : szAt 126 = 4 := rfl
  rw [e1, if_pos (by simp; omega)]
theorem szN_long {c1 c2 c3 c4 : UInt8} {R : List UInt8} {s : Nat} (h : c2.toNat % 128 = 126) (hs : c3.toNat * 256 + c4.toNat = s) : szN (c1 :: c2 :: c3 :: c4 :: R) = s := by
  unfold szN
  simp only [List.getD_cons_zero, List.getD_cons_succ]
  rw [h]
  have e1 : szAt 126 = 4 := rfl
  rw [e1, if_neg (by omega)]
  simp only [List.take_succ_cons, List.take_zero, List.drop_succ_cons, List.drop_zero]
  rw [← hs]
  simp [fh]
theorem szY_long {c1 c2 c3 c4 : UInt8} {R : List UInt8} {s : Nat} (h : c2.toNat % 128 = 126) (hs : c3.toNat * 256 + c4.toNat = s) (h1 : 126 ≤ s) (h2 : s ≤ 16384) : szY (c1 :: c2 :: c3 :: c4 :: R) = 0 := by
  unfold szY
  rw [szN_long h hs]
  simp only [List.getD_cons_zero, List.getD_cons_succ]
  rw [h]
  have e1 : szAt 126 = 4 := rfl
  have e2 : szLe 126 = 126 := rfl
  rw [e1, e2]
  rw [if_neg (by simp), if_neg (by omega), if_neg (by omega)]
theorem szA_long {c1 c2 c3 c4 : UInt8} {R : List UInt8} {s : Nat} (h : c2.toNat % 128 = 126) (hs : c3.toNat * 256 + c4.toNat = s) (h1 : 126 ≤ s) (h2 : s ≤ 16384) : szA (c1 :: c2 :: c3 :: c4 :: R) = 4 := by
  unfold szA
  rw [szY_long h hs h1 h2, if_pos rfl]
  simp only [List.getD_cons_zero, List.getD_cons_succ]
  rw [h]
  rfl
theorem szS_long {c1 c2 c3 c4 : UInt8} {R : List UInt8} {s : Nat} (h : c2.toNat % 128 = 126) (hs : c3.toNat * 256 + c4.toNat = s) (h1 : 126 ≤ s) (h2 : s ≤ 16384) : szS (c1 :: c2 :: c3 :: c4 :: R) = s := by
  unfold szS
  rw [szY_long h hs h1 h2, if_pos rfl, szN_long h hs]

/-- A frame that is written: its two or four first bytes, the mask, the load under it. -/
theorem wrB_short (n : Nat) (fin : Bool) (m l : List UInt8) (hm : m = [] ∨ m.length = 4) (h : l.length ≤ 125) : ∃ c2 : UInt8, wrB n fin m l = hd1 n fin :: c2 :: (m ++ xm m l) ∧ c2.toNat = (if decide (m.length = 4) then 128 else 0) + l.length := by
  refine ⟨UInt8.ofNat (mk1 m + l.length), ?_, ?_⟩
  · unfold wrB hd2
    rw [if_pos h]
    simp
  · rw [UInt8.toNat_ofNat', mk1_of m hm]
    split <;> omega
theorem wrB_long (n : Nat) (fin : Bool) (m l : List UInt8) (hm : m = [] ∨ m.length = 4) (h : ¬ l.length ≤ 125) (hl : l.length ≤ 16384) : ∃ c2 c3 c4 : UInt8, wrB n fin m l = hd1 n fin :: c2 :: c3 :: c4 :: (m ++ xm m l) ∧ c2.toNat = (if decide (m.length = 4) then 128 else 0) + 126 ∧ c3.toNat * 256 + c4.toNat = l.length := by
  refine ⟨UInt8.ofNat (mk1 m + 126), UInt8.ofNat (l.length / 256), UInt8.ofNat (l.length % 256), ?_, ?_, ?_⟩
  · unfold wrB hd2
    rw [if_neg h]
    simp
  · rw [UInt8.toNat_ofNat', mk1_of m hm]
    split <;> omega
  · rw [UInt8.toNat_ofNat', UInt8.toNat_ofNat']
    omega

theorem rdL_of (A : Nat) (P m l Z : List UInt8) (mask : Bool) (hP : P.length = A) (hA : szA (P ++ (m ++ xm m l ++ Z)) = A) (hS : szS (P ++ (m ++ xm m l ++ Z)) = l.length) (hf : (if mask then 4 else 0) = m.length) :
    rdL (P ++ (m ++ xm m l ++ Z)) mask = l ∧ rdEnd (P ++ (m ++ xm m l ++ Z)) mask = A + m.length + l.length := by
  have hE : rdEnd (P ++ (m ++ xm m l ++ Z)) mask = A + m.length + l.length := by unfold rdEnd; rw [hA, hS, hf]
  refine ⟨?_, hE⟩
  unfold rdL
  rw [hE, hA, hf]
  have e1 : ((P ++ (m ++ xm m l ++ Z)).take (A + m.length)).drop A = m := by
    subst hP
    simp [List.take_append]
  have e2 : ((P ++ (m ++ xm m l ++ Z)).take (A + m.length + l.length)).drop (A + m.length) = xm m l := by
    subst hP
    have hx := xm_length m l
    have a1 : (P ++ (m ++ xm m l ++ Z)).take (P.length + m.length + l.length) = P ++ m ++ xm m l := by
      rw [← hx]
      have : P.length + m.length + (xm m l).length = (P ++ m ++ xm m l).length := by simp; omega
      rw [this, show P ++ (m ++ xm m l ++ Z) = (P ++ m ++ xm m l) ++ Z by simp]
      exact List.take_left
    rw [a1, show P.length + m.length = (P ++ m).length by simp]
    exact List.drop_left
  rw [e1, e2, xm_xm]

/-- What is written is read as it was, whatever stands behind. -/
theorem rd_back (n : Nat) (fin : Bool) (m l Z : List UInt8) (hn : n ≤ 10) (hm : m = [] ∨ m.length = 4) (hmay : mayB (n : Int) fin (l.length : Int) = true) (hl : l.length ≤ 16384) :
    rdY (wrB n fin m l ++ Z) (decide (m.length = 4)) = 0 ∧ rdEnd (wrB n fin m l ++ Z) (decide (m.length = 4)) = (wrB n fin m l).length ∧ kFin (wrB n fin m l ++ Z) = fin ∧ kOp (wrB n fin m l ++ Z) = n ∧ rdL (wrB n fin m l ++ Z) (decide (m.length = 4)) = l := by
  have h0 := mayB_le hmay (t := 0) (by omega)
  have h1 := hd1_nat n fin hn
  have hx := xm_length m l
  have hf := four_of m hm
  by_cases h : l.length ≤ 125
  · obtain ⟨c2, e, hc2⟩ := wrB_short n fin m l hm h
    have hs := (hi2 hc2 (by omega)).2
    obtain ⟨hL, hE⟩ := rdL_of 2 [hd1 n fin, c2] m l Z (decide (m.length = 4)) rfl (szA_short hs h) (szS_short hs h) hf
    have e' : wrB n fin m l ++ Z = [hd1 n fin, c2] ++ (m ++ xm m l ++ Z) := by rw [e]; simp
    have hlen : (wrB n fin m l).length = 2 + m.length + l.length := by rw [e]; simp [hx]; omega
    rw [e']
    refine ⟨?_, by rw [hE, hlen], kFin_of h1 hn, kOp_of h1 hn, hL⟩
    unfold rdY
    rw [hE]
    have k0 := kY_two (R := m ++ xm m l ++ Z) (decide (m.length = 4)) h1 hn h0 hc2 (by omega) hmay
    rw [if_pos rfl] at k0
    have y0 := szY_short (c1 := hd1 n fin) (R := m ++ xm m l ++ Z) hs h
    simp only [List.cons_append, List.nil_append]
    rw [k0, y0, if_neg (by omega), if_neg (by omega), if_neg (by simp [hx]; omega)]
  · obtain ⟨c2, c3, c4, e, hc2, hc3⟩ := wrB_long n fin m l hm h hl
    have hs := (hi2 hc2 (by omega)).2
    obtain ⟨hL, hE⟩ := rdL_of 4 [hd1 n fin, c2, c3, c4] m l Z (decide (m.length = 4)) rfl (szA_long hs hc3 (by omega) hl) (szS_long hs hc3 (by omega) hl) hf
    have e' : wrB n fin m l ++ Z = [hd1 n fin, c2, c3, c4] ++ (m ++ xm m l ++ Z) := by rw [e]; simp
    have hlen : (wrB n fin m l).length = 4 + m.length + l.length := by rw [e]; simp [hx]; omega
    rw [e']
    refine ⟨?_, by rw [hE, hlen], kFin_of h1 hn, kOp_of h1 hn, hL⟩
    unfold rdY
    rw [hE]
    have k0 := kY_two (R := c3 :: c4 :: (m ++ xm m l ++ Z)) (decide (m.length = 4)) h1 hn h0 hc2 (by omega) (mayB_le hmay (by omega))
    rw [if_pos rfl] at k0
    have y0 := szY_long (c1 := hd1 n fin) (R := m ++ xm m l ++ Z) hs hc3 (by omega) hl
    simp only [List.cons_append, List.nil_append]
    rw [k0, y0, if_neg (by omega), if_neg (by omega), if_neg (by simp [hx]; omega)]

/-- A frame is refused where the mask is not as it must be. -/
theorem rd_other (n : Nat) (fin : Bool) (m l : List UInt8) (hn : n ≤ 10) (hm : m = [] ∨ m.length = 4) (hmay : mayB (n : Int) fin (l.length : Int) = true) (hl : l.length ≤ 16384) :
    rdY (wrB n fin m l) (!decide (m.length = 4)) = 1002 := by
  have h0 := mayB_le hmay (t := 0) (by omega)
  have h1 := hd1_nat n fin hn
  unfold rdY
  by_cases h : l.length ≤ 125
  · obtain ⟨c2, e, hc2⟩ := wrB_short n fin m l hm h
    rw [e, kY_two (!decide (m.length = 4)) h1 hn h0 hc2 (by omega) hmay]
    cases decide (m.length = 4) <;> rfl
  · obtain ⟨c2, c3, c4, e, hc2, hc3⟩ := wrB_long n fin m l hm h hl
    rw [e, kY_two (!decide (m.length = 4)) h1 hn h0 hc2 (by omega) (mayB_le hmay (by omega))]
    cases decide (m.length = 4) <;> rfl

/-- A shorter beginning is too short. -/
theorem rd_cut (n : Nat) (fin : Bool) (m l : List UInt8) (j : Nat) (hn : n ≤ 10) (hm : m = [] ∨ m.length = 4) (hmay : mayB (n : Int) fin (l.length : Int) = true) (hl : l.length ≤ 16384) (hj : j < (wrB n fin m l).length) :
    rdY ((wrB n fin m l).take j) (decide (m.length = 4)) = 1 := by
  have h0 := mayB_le hmay (t := 0) (by omega)
  have h1 := hd1_nat n fin hn
  have hx := xm_length m l
  have hf := four_of m hm
  match j, hj with
  | 0, _ => simp [rdY, kY]
  | 1, _ =>
      have : (wrB n fin m l).take 1 = [hd1 n fin] := by simp [wrB]
      rw [this]
      unfold rdY
      rw [kY_one h1 hn h0]
      rfl
  | j + 2, hj =>
      by_cases h : l.length ≤ 125
      · obtain ⟨c2, e, hc2⟩ := wrB_short n fin m l hm h
        have hs := (hi2 hc2 (by omega)).2
        rw [e] at hj ⊢
        simp only [List.length_cons, List.length_append, hx] at hj
        simp only [List.take_succ_cons]
        unfold rdY
        rw [kY_two (decide (m.length = 4)) h1 hn h0 hc2 (by omega) hmay, if_pos rfl, szY_short hs h, if_neg (by omega), if_neg (by omega)]
        unfold rdEnd
        rw [szA_short hs h, szS_short hs h, hf, if_pos (by simp [hx]; omega)]
      · obtain ⟨c2, c3, c4, e, hc2, hc3⟩ := wrB_long n fin m l hm h hl
        have hs := (hi2 hc2 (by omega)).2
        rw [e] at hj ⊢
        simp only [List.length_cons, List.length_append, hx] at hj
        simp only [List.take_succ_cons]
        unfold rdY
        rw [kY_two (decide (m.length = 4)) h1 hn h0 hc2 (by omega) (mayB_le hmay (by omega)), if_pos rfl]
        match j, hj with
        | 0, _ => rw [szY_cut hs (by simp)]; rfl
        | 1, _ => rw [szY_cut hs (by simp)]; rfl
        | j + 2, hj =>
            rw [show (c3 :: c4 :: (m ++ xm m l)).take (j + 2) = c3 :: c4 :: (m ++ xm m l).take j from rfl]
            rw [szY_long hs hc3 (by omega) hl, if_neg (by omega), if_neg (by omega)]
            unfold rdEnd
            rw [szA_long hs hc3 (by omega) hl, szS_long hs hc3 (by omega) hl, hf, if_pos (by simp [hx]; omega)]
#print axioms rd_back
#print axioms rd_cut
end Go.Proofs.YtiiafkjdeoabaaaDoor
