/-
  httpd: readLength.; httpd: readForm.
-/
import Derived.Test.YtonaekkenggmbaaGreatDoorPkHadsal
import Derived.Test.YtonaekkenggmbaaGreatDoorPkHadsaa
import Derived.Lib.AtoiErrMem
section
set_option linter.unusedVariables false
set_option maxRecDepth 1000000
namespace Go.Proofs.YtonaekkenggmbaaGreatDoor
open Go.RowKit

/-- strconv.ErrSyntax is there. -/
def Sx (w : World) : Prop := ∃ te pe, w.cell? ⟨4, 0, none⟩ = some (.iface te pe)
theorem Sx.below {w w' : World} {B : Nat} (h : Sx w) (hb : Below B w w') (hB : w.heap.size ≤ B) : Sx w' := by
  obtain ⟨m, q, hm⟩ := h
  exact ⟨m, q, by rw [hb.cell (Nat.lt_of_lt_of_le (World.block_lt_of_cell? w _ hm) hB)]; exact hm⟩
theorem dig_val (c : UInt8) (h : digB c = true) : Lib.digitVal c = some (c.toNat - 48) := by
  unfold digB at h
  simp only [Bool.and_eq_true, decide_eq_true_eq] at h
  unfold Lib.digitVal
  rw [if_pos h]
theorem dec_dig : ∀ (l : List UInt8) (acc : Nat), l.all digB = true → ∃ n, Lib.decFrom acc l = some n ∧ n < (acc + 1) * 10 ^ l.length
  | [], acc, _ => ⟨acc, rfl, by simp⟩
  | c :: l, acc, h => by
    simp only [List.all_cons, Bool.and_eq_true] at h
    have hd := dig_val c h.1
    obtain ⟨n, h1, h2⟩ := dec_dig l (acc * 10 + (c.toNat - 48)) h.2
    refine ⟨n, ?_, ?_⟩
    · unfold Lib.decFrom
      rw [hd]
      exact h1
    · have hc : c.toNat - 48 ≤ 9 := by
        have := h.1
        unfold digB at this
        simp only [Bool.and_eq_true, decide_eq_true_eq] at this
        omega
      rw [List.length_cons, Nat.pow_succ]
      refine Nat.lt_of_lt_of_le h2 ?_
      calc (acc * 10 + (c.toNat - 48) + 1) * 10 ^ l.length ≤ ((acc + 1) * 10) * 10 ^ l.length := Nat.mul_le_mul_right _ (by omega)
        _ = (acc + 1) * (10 ^ l.length * 10) := by rw [Nat.mul_assoc, Nat.mul_comm 10]
theorem atoi_dig (l : List UInt8) (h : l.all digB = true) (hne : l ≠ []) (h9 : l.length ≤ 9) : ∃ n : Nat, Lib.atoi l = some (n : Int) ∧ n < 1000000000 := by
  match l, hne with
  | c :: r, _ =>
    have hc : digB c = true := by simp only [List.all_cons, Bool.and_eq_true] at h; exact h.1
    have h45 : (c == 45) = false := by
      rw [beq_eq_false_iff_ne]; rintro rfl; simp [digB] at hc
    have h43 : (c == 43) = false := by
      rw [beq_eq_false_iff_ne]; rintro rfl; simp [digB] at hc
    obtain ⟨n, h1, h2⟩ := dec_dig (c :: r) 0 h
    refine ⟨n, ?_, ?_⟩
    · have : Lib.decNat (c :: r) = some n := h1
      simp only [Lib.atoi, h45, h43, this]
      rfl
    · have : 10 ^ (c :: r).length ≤ 10 ^ 9 := Nat.pow_le_pow_right (by decide) h9
      omega
/-- A number of few digits. -/
def rlM (l : List UInt8) : Option Nat := if decide (l.length ≤ 9) && (l.all digB && !l.isEmpty) then (Lib.atoi l).map Int.toNat else none
theorem rlM_some (l : List UInt8) (h : l.all digB = true) (hne : l ≠ []) (h9 : l.length ≤ 9) : ∃ n : Nat, rlM l = some n ∧ Lib.atoi l = some (n : Int) ∧ n < 1000000000 := by
  obtain ⟨n, h1, h2⟩ := atoi_dig l h hne h9
  refine ⟨n, ?_, h1, h2⟩
  unfold rlM
  rw [decide_eq_true h9, h, show l.isEmpty = false by cases l; exact absurd rfl hne; rfl, h1]
  rfl
set_option maxHeartbeats 2000000 in
theorem readLength_any (l : List UInt8) (w : World) (hl : l.length ≤ 1000000) (hs : Sx w) :
    Calls Tryz.prog 113 #[.string (str l)] w fun e w' => e = .returned (.tuple #[.int .i64 (((rlM l).getD 0 : Nat) : Int), .bool (rlM l).isSome]) ∧ Hid (Below w.heap.size w w') := by
  have hsz : (str l).size = l.length := str_size l
  have HA := hide (all_dig l w hl)
  by_cases h9 : l.length ≤ 9
  · have h9' : ¬ (9 : Int) < (l.length : Int) := by omega
    cases hd : l.all digB with
    | false =>
      have HR : Hid (rlM l = none) := by show _ = _; unfold rlM; rw [hd]; simp
      rw [hd] at HA
      clear hd h9 hs
      go_enter Tryz.func113, Tryz.ntmps113
      go_wp2_with (go_at_call 103; refine (unhide HA).mono ?_; rintro e w2 ⟨rfl, rfl⟩)
      go_ret2
      exact ⟨by rw [unhide HR]; rfl, Below.refl _ _⟩
    | true =>
      rw [hd] at HA
      by_cases hne : l = []
      · subst hne
        obtain ⟨te, pe, hcell⟩ := hs
        have HE := hide (Any.strconv_Atoi_err (ρ := Tryz.laysC172_ren) Tryz.laysC172 (str []) (by decide) rfl (.iface te pe) w hcell (.inr ⟨te, pe, rfl⟩))
        clear hcell hd h9
        go_enter Tryz.func113, Tryz.ntmps113
        go_wp2_with (first | (go_at_call 103; refine (unhide HA).mono ?_; rintro e w2 ⟨rfl, rfl⟩) | (go_at_call 111; refine (unhide HE).mono ?_; rintro e w2 ⟨N, rfl, hN, hrow, hb⟩; have HB := hide hb; clear hb hrow hN))
        go_quiet (fail)
        go_wp2
        go_ret2
        exact ⟨rfl, below_drewN (unhide HB) nq⟩
      · obtain ⟨n, h1, h2, h3⟩ := rlM_some l hd hne h9
        have HE : Hid (Calls Tryz.prog 111 #[.string (str l)] w fun e w' => e = .returned (.tuple #[.int .i64 (n : Int), .nilIface]) ∧ Hid (Below w.heap.size w w')) :=
          Calls.mono (Any.strconv_Atoi (ρ := Tryz.lays172_ren) Tryz.lays172 (str l) (n : Int) (by omega) h2 w) (fun e w' h => ⟨h.1, by obtain ⟨t, ht⟩ := h.2; rw [ht]; exact Lib.bytesWorld_below _ _ _⟩)
        have HR := hide h1
        clear h1 h2 hd h9 hne hs
        go_enter Tryz.func113, Tryz.ntmps113
        go_wp2_with (first | (go_at_call 103; refine (unhide HA).mono ?_; rintro e w2 ⟨rfl, rfl⟩) | (go_at_call 111; refine (unhide HE).mono ?_; rintro e w2 ⟨rfl, HB⟩))
        go_quiet (fail)
        go_wp2
        go_ret2
        exact ⟨by rw [unhide HR]; rfl, below_drewN (unhide HB) nq⟩
  · have h9' : (9 : Int) < (l.length : Int) := by omega
    have HR : Hid (rlM l = none) := by show _ = _; unfold rlM; rw [decide_eq_false h9]; rfl
    clear h9 hs
    go_enter Tryz.func113, Tryz.ntmps113
    go_wp2
    go_ret2
    exact ⟨by rw [unhide HR]; rfl, Below.refl _ _⟩
#print axioms readLength_any
end Go.Proofs.YtonaekkenggmbaaGreatDoor
end
section
set_option linter.unusedVariables false
set_option maxRecDepth 1000000
namespace Go.Proofs.YtonaekkenggmbaaGreatDoor
open Go.RowKit

def wTE : List UInt8 := [116, 114, 97, 110, 115, 102, 101, 114, 45, 101, 110, 99, 111, 100, 105, 110, 103]
def wHost : List UInt8 := [104, 111, 115, 116]
def wCL : List UInt8 := [99, 111, 110, 116, 101, 110, 116, 45, 108, 101, 110, 103, 116, 104]
def wChk : List UInt8 := [99, 104, 117, 110, 107, 101, 100]
/-- How a body comes, by the values of three fields. -/
def fmM (te ho cl : List (List UInt8)) : Fm × Nat :=
  if decide (1 < te.length) || (decide (te.length = 1) && !decide (sm (te.getD 0 []) = wChk)) then (⟨false, 0⟩, 501)
  else if !decide (ho.length = 1) || decide (ho.getD 0 [] = []) then (⟨false, 0⟩, 400)
  else if decide (1 < te.length + cl.length) then (⟨false, 0⟩, 400)
  else if decide (cl.length = 0) then (⟨decide (te.length = 1), 0⟩, 0)
  else match rlM (cl.getD 0 []) with
    | none => (⟨false, 0⟩, 400)
    | some n => if 32768 < n then (⟨false, 0⟩, 413) else (⟨false, n⟩, 0)
theorem fm_end {w wx : World} (b : Bool) (n : Int) (h : wx.heap[w.heap.size]? = some (.cells #[.bool false, .int .i64 0] 152 (0, 0))) (hb : Below w.heap.size w wx) :
    ∃ W, W = (wx.setCell ⟨w.heap.size, 0, none⟩ (.bool b)).setCell ⟨w.heap.size, 1, none⟩ (.int .i64 n) ∧ W.cell? ⟨w.heap.size, 0, none⟩ = some (.bool b) ∧ W.cell? ⟨w.heap.size, 1, none⟩ = some (.int .i64 n) ∧ Below w.heap.size w W ∧
      wx.cell? ⟨w.heap.size, 0, none⟩ = some (.bool false) ∧ wx.cell? ⟨w.heap.size, 1, none⟩ = some (.int .i64 0) ∧ wx.frozen? ⟨w.heap.size, 0, none⟩ = false ∧ wx.frozen? ⟨w.heap.size, 1, none⟩ = false := by
  have hr : ((wx.setCell ⟨w.heap.size, 0, none⟩ (.bool b)).setCell ⟨w.heap.size, 1, none⟩ (.int .i64 n)).heap[w.heap.size]? = some (.cells #[.bool b, .int .i64 n] 152 (0, 0)) := by
    rw [heap_setCell_same _ _ 1 _ _ _ (heap_setCell_same _ _ 0 _ _ _ h)]; rfl
  refine ⟨_, rfl, by rw [cell_of_row _ _ 0 _ _ _ hr]; rfl, by rw [cell_of_row _ _ 1 _ _ _ hr]; rfl, ?_, by rw [cell_of_row _ _ 0 _ _ _ h]; rfl, by rw [cell_of_row _ _ 1 _ _ _ h]; rfl, frozen_of_row wx _ 0 _ _ h, frozen_of_row wx _ 1 _ _ h⟩
  have k1 := hb.grown (gsc wx ⟨w.heap.size, 0, none⟩ (.bool b)) hb.size (fun k hk => by cases hk; exact Nat.le_refl _)
  exact k1.grown (gsc _ ⟨w.heap.size, 1, none⟩ (.int .i64 n)) k1.size (fun k hk => by cases hk; exact Nat.le_refl _)
theorem own1 {w : World} {base : Nat} {a : Option Addr} {c : Nat} {t : List UInt8} (h : OwnN w base a c [t]) : ∃ g, a = some ⟨g, 0, none⟩ ∧ w.cell? ⟨g, 0, none⟩ = some (.string (str t)) := by
  obtain ⟨g, e, _, _, hc⟩ := h.some (by simp)
  exact ⟨g, e, hc 0 (by simp)⟩
theorem vals_len2 (nm : List UInt8) (H : List Hd) : (vals nm H).length ≤ H.length := by
  unfold vals; rw [List.length_map]; exact List.length_filter_le _ _
theorem vals_S (nm : List UInt8) (H : List Hd) (hS : HdS H) : ∀ x ∈ vals nm H, x.length ≤ 1000000 := by
  intro x hx
  unfold vals at hx
  obtain ⟨d, hd, rfl⟩ := List.mem_map.1 hx
  obtain ⟨j, hj, e⟩ := List.mem_iff_getElem.1 (List.mem_filter.1 hd).1
  exact (hS j d (by rw [List.getElem?_eq_getElem hj, e])).2
theorem rlM_lt (l : List UInt8) (n : Nat) (h : rlM l = some n) : n < 1000000000 := by
  unfold rlM at h
  split at h
  · rename_i hc
    simp only [Bool.and_eq_true, decide_eq_true_eq, Bool.not_eq_true'] at hc
    obtain ⟨m, h1, h2, h3⟩ := rlM_some l hc.2.1 (by rintro rfl; simp at hc) hc.1
    rw [h2] at h
    simp at h
    omega
  · cases h
set_option maxHeartbeats 8000000 in
theorem readForm_any (p : Option Addr) (cp : Nat) (H : List Hd) (w : World) (h : HdR w p H) (hS : HdS H) (hl : H.length ≤ 1000000) (hx : Sx w) :
    Calls Tryz.prog 144 #[.slice p H.length cp] w fun e w' => e = .returned (.tuple #[.agg #[.bool (fmM (vals wTE H) (vals wHost H) (vals wCL H)).1.c, .int .i64 ((fmM (vals wTE H) (vals wHost H) (vals wCL H)).1.n : Int)], .int .i64 ((fmM (vals wTE H) (vals wHost H) (vals wCL H)).2 : Int)]) ∧ Hid (Below w.heap.size w w') := by
  obtain ⟨V, hV⟩ : ∃ V, V = w.alloc (.cells #[.bool false, .int .i64 0] 152) := ⟨_, rfl⟩
  have hbV : Below w.heap.size w V := by rw [hV]; exact (Below.refl _ _).alloc (Nat.le_refl _) _
  have hrV : V.heap[w.heap.size]? = some (.cells #[.bool false, .int .i64 0] 152 (0, 0)) := by rw [hV]; exact heap_alloc_new w _
  have hsV : w.heap.size < V.heap.size := (Array.getElem?_eq_some_iff.1 hrV).1
  have HR := hide hrV
  have HBV := hide hbV
  have HH := hide (h.below hbV (Nat.le_refl _))
  have HS := hide hS
  have HX := hide (hx.below hbV (Nat.le_refl _))
  have ln1 := vals_len2 wTE H
  have ln2 := vals_len2 wHost H
  have ln3 := vals_len2 wCL H
  obtain ⟨T, hT⟩ : ∃ T, fmM (vals wTE H) (vals wHost H) (vals wCL H) = T := ⟨_, rfl⟩
  have HT := hide hT
  rw [hT]
  have HS1 := hide (vals_S wTE H hS)
  have HS3 := hide (vals_S wCL H hS)
  clear h hS hx hbV hrV hT
  go_enter Tryz.func144, Tryz.ntmps144
  go_upto_region 1 with fail
  rw [← hV]
  clear hV
  go_wp2_with fail
  refine (values_any wTE (by decide) (by decide) p cp H V (unhide HH) (unhide HS) hl).mono ?_
  rintro e w1 ⟨a1, c1, te, rfl, HL1, HO1, HB1⟩
  go_wp2_with fail
  refine (values_any wHost (by decide) (by decide) p cp H w1 ((unhide HH).below (unhide HB1) (Nat.le_refl _)) (unhide HS) hl).mono ?_
  rintro e w2 ⟨a2, c2, ho, rfl, HL2, HO2, HB2⟩
  have HB12 : Hid (Below V.heap.size V w2) := (unhide HB1).trans ((unhide HB2).mono (unhide HB1).size)
  go_wp2_with fail
  refine (values_any wCL (by decide) (by decide) p cp H w2 ((unhide HH).below (unhide HB12) (Nat.le_refl _)) (unhide HS) hl).mono ?_
  rintro e w3 ⟨a3, c3, cl, rfl, HL3, HO3, HB3⟩
  have HB13 : Hid (Below V.heap.size V w3) := (unhide HB12).trans ((unhide HB3).mono (unhide HB12).size)
  have HBW : Hid (Below w.heap.size w w3) := (unhide HBV).trans ((unhide HB13).mono (unhide HBV).size)
  have HR3 := hide (((unhide HB13).block w.heap.size hsV).trans (unhide HR))
  have HQ1 := hide ((((unhide HO1).below (unhide HB2) (Nat.le_refl _)).below (unhide HB3) (Nat.le_refl _)))
  have HQ2 := hide ((unhide HO2).below (unhide HB3) (Nat.le_refl _))
  have HX3 := hide ((unhide HX).below (unhide HB13) (Nat.le_refl _))
  rw [← unhide HL1, ← unhide HL2, ← unhide HL3] at HT
  rw [← unhide HL1] at HS1 ln1
  rw [← unhide HL2] at ln2
  rw [← unhide HL3] at HS3 ln3
  have HB13' := HB13
  clear HL1 HL2 HL3 HO1 HO2 HB1 HB2 HB3 HB12 HB13 HH HX HR
  have hcase : te = [] ∨ (∃ t, te = [t]) ∨ (1 < te.length) := by
    match te with
    | [] => exact .inl rfl
    | [t] => exact .inr (.inl ⟨t, rfl⟩)
    | t :: u :: r => exact .inr (.inr (by simp))
  rcases hcase with rfl | ⟨t, rfl⟩ | h2
  · -- no coding
    have HBX : Hid (Below V.heap.size V w3) := HB13'
    have hhc : (∃ x, ho = [x]) ∨ ho.length ≠ 1 := by
      match ho with
      | [] => exact .inr (by simp)
      | [x] => exact .inl ⟨x, rfl⟩
      | x :: y :: r => exact .inr (by simp)
    rcases hhc with ⟨x, rfl⟩ | hh
    · obtain ⟨gx, rfl, cx⟩ := own1 (unhide HQ2)
      by_cases hxe : x = []
      · have qx : ((str x).toList == ([] : List UInt8)) = true := by rw [toList_str, hxe]; rfl
        have qx' : (str x).toList.isEmpty = true := by rw [toList_str, hxe]; rfl
        have HTT : Hid (T = (⟨false, 0⟩, 400)) := by show _ = _; rw [← unhide HT]; unfold fmM; simp [hxe]
        clear hxe HT
        obtain ⟨W, hW, e0, e1, hBW, x0, x1, f0, f1⟩ := fm_end false 0 (unhide HR3) (unhide HBW)
        have HBF := hide hBW
        clear hBW
        go_wp2_with fail
        rw [← hW]
        refine bodyPost_ret (v := .tuple #[.agg #[.bool false, .int .i64 0], .int .i64 400]) (by simp [results, Tryz.results144, go_sem, e0, e1]) rfl ⟨by rw [unhide HTT]; rfl, HBF⟩
      · have qx : ((str x).toList == ([] : List UInt8)) = false := by rw [toList_str, beq_eq_false_iff_ne]; exact hxe
        have qx' : (str x).toList.isEmpty = false := by rw [toList_str]; cases x; exact absurd rfl hxe; rfl
        have HT2 : Hid (T = if decide (1 < ([] : List (List UInt8)).length + cl.length) then (⟨false, 0⟩, 400) else if decide (cl.length = 0) then (⟨decide (([] : List (List UInt8)).length = 1), 0⟩, 0) else match rlM (cl.getD 0 []) with | none => (⟨false, 0⟩, 400) | some n => if 32768 < n then (⟨false, 0⟩, 413) else (⟨false, n⟩, 0)) := by show _ = _; rw [← unhide HT]; unfold fmM; simp [hxe]
        clear hxe HT
        have hcc : cl = [] ∨ (∃ y, cl = [y]) ∨ 1 < cl.length := by
          match cl with
          | [] => exact .inl rfl
          | [y] => exact .inr (.inl ⟨y, rfl⟩)
          | y :: z :: r => exact .inr (.inr (by simp))
        rcases hcc with rfl | ⟨y, rfl⟩ | h1
        · have HTT : Hid (T = (⟨false, 0⟩, 0)) := by show _ = _; rw [unhide HT2]; rfl
          clear HT2
          obtain ⟨W, hW, e0, e1, hBW, x0, x1, f0, f1⟩ := fm_end false 0 (unhide HR3) (unhide HBW)
          have HBF := hide hBW
          clear hBW
          go_wp2_with fail
          rw [← hW]
          refine bodyPost_ret (v := .tuple #[.agg #[.bool false, .int .i64 0], .int .i64 0]) (by simp [results, Tryz.results144, go_sem, e0, e1]) rfl ⟨by rw [unhide HTT]; rfl, HBF⟩
        · obtain ⟨gy, rfl, cy⟩ := own1 (unhide HO3)
          have hyl : y.length ≤ 1000000 := unhide HS3 y (by simp)
          have HRL := hide (readLength_any y w3 hyl (unhide HX3))
          have HT3 : Hid (T = match rlM y with | none => (⟨false, 0⟩, 400) | some n => if 32768 < n then (⟨false, 0⟩, 413) else (⟨false, n⟩, 0)) := by show _ = _; rw [unhide HT2]; rfl
          clear HT2
          cases hr : rlM y with
          | none =>
            have HTT : Hid (T = (⟨false, 0⟩, 400)) := by show _ = _; rw [unhide HT3, hr]
            rw [hr] at HRL
            clear hr HT3
            go_upto_region 13 with (go_at_call 113; refine (unhide HRL).mono ?_; rintro e w5 ⟨rfl, HB5⟩)
            have HB6 : Hid (Below w.heap.size w w5) := (unhide HBW).trans ((unhide HB5).mono (unhide HBW).size)
            have HR6 := hide (((unhide HB5).block w.heap.size (Nat.lt_of_lt_of_le hsV (by have := (unhide HBX).size; omega))).trans (unhide HR3))
            obtain ⟨W, hW, e0, e1, hBW, x0, x1, f0, f1⟩ := fm_end false 0 (unhide HR6) (unhide HB6)
            have HBF := hide hBW
            clear hBW
            go_wp2_with fail
            rw [← hW]
            refine bodyPost_ret (v := .tuple #[.agg #[.bool false, .int .i64 0], .int .i64 400]) (by simp [results, Tryz.results144, go_sem, e0, e1]) rfl ⟨by rw [unhide HTT]; rfl, HBF⟩
          | some n =>
            rw [hr] at HRL HT3
            simp only at HT3
            have hnl : n < 1000000000 := rlM_lt y n hr
            clear hr
            by_cases hn : 32768 < n
            · have hn' : (32768 : Int) < (n : Int) := by omega
              have HTT : Hid (T = (⟨false, 0⟩, 413)) := by show _ = _; rw [unhide HT3, if_pos hn]
              clear hn HT3
              go_upto_region 13 with (go_at_call 113; refine (unhide HRL).mono ?_; rintro e w5 ⟨rfl, HB5⟩)
              have HB6 : Hid (Below w.heap.size w w5) := (unhide HBW).trans ((unhide HB5).mono (unhide HBW).size)
              have HR6 := hide (((unhide HB5).block w.heap.size (Nat.lt_of_lt_of_le hsV (by have := (unhide HBX).size; omega))).trans (unhide HR3))
              obtain ⟨W, hW, e0, e1, hBW, x0, x1, f0, f1⟩ := fm_end false 0 (unhide HR6) (unhide HB6)
              have HBF := hide hBW
              clear hBW
              go_wp2_with fail
              rw [← hW]
              refine bodyPost_ret (v := .tuple #[.agg #[.bool false, .int .i64 0], .int .i64 413]) (by simp [results, Tryz.results144, go_sem, e0, e1]) rfl ⟨by rw [unhide HTT]; rfl, HBF⟩
            · have hn' : ¬ (32768 : Int) < (n : Int) := by omega
              have HTT : Hid (T = (⟨false, n⟩, 0)) := by show _ = _; rw [unhide HT3, if_neg hn]
              clear hn HT3
              go_upto_region 13 with (go_at_call 113; refine (unhide HRL).mono ?_; rintro e w5 ⟨rfl, HB5⟩)
              have HB6 : Hid (Below w.heap.size w w5) := (unhide HBW).trans ((unhide HB5).mono (unhide HBW).size)
              have HR6 := hide (((unhide HB5).block w.heap.size (Nat.lt_of_lt_of_le hsV (by have := (unhide HBX).size; omega))).trans (unhide HR3))
              obtain ⟨W, hW, e0, e1, hBW, x0, x1, f0, f1⟩ := fm_end false (n : Int) (unhide HR6) (unhide HB6)
              have HBF := hide hBW
              clear hBW
              go_wp2_with fail
              rw [← hW]
              refine bodyPost_ret (v := .tuple #[.agg #[.bool false, .int .i64 (n : Int)], .int .i64 0]) (by simp [results, Tryz.results144, go_sem, e0, e1]) rfl ⟨by rw [unhide HTT]; rfl, HBF⟩
        · have h1' : (1 : Int) < 0 + (cl.length : Int) := by omega
          have h1'' : (1 : Int) < (cl.length : Int) := by omega
          have HTT : Hid (T = (⟨false, 0⟩, 400)) := by show _ = _; rw [unhide HT2]; simp [h1]
          clear h1 HT2
          obtain ⟨W, hW, e0, e1, hBW, x0, x1, f0, f1⟩ := fm_end false 0 (unhide HR3) (unhide HBW)
          have HBF := hide hBW
          clear hBW
          go_wp2_with fail
          rw [← hW]
          refine bodyPost_ret (v := .tuple #[.agg #[.bool false, .int .i64 0], .int .i64 400]) (by simp [results, Tryz.results144, go_sem, e0, e1]) rfl ⟨by rw [unhide HTT]; rfl, HBF⟩
    · have hh' : ((ho.length : Int) != 1) = true := by simp; omega
      have HTT : Hid (T = (⟨false, 0⟩, 400)) := by show _ = _; rw [← unhide HT]; unfold fmM; simp [hh]
      clear hh HT
      obtain ⟨W, hW, e0, e1, hBW, x0, x1, f0, f1⟩ := fm_end false 0 (unhide HR3) (unhide HBW)
      have HBF := hide hBW
      clear hBW
      go_wp2_with fail
      rw [← hW]
      refine bodyPost_ret (v := .tuple #[.agg #[.bool false, .int .i64 0], .int .i64 400]) (by simp [results, Tryz.results144, go_sem, e0, e1]) rfl ⟨by rw [unhide HTT]; rfl, HBF⟩
  · obtain ⟨gt, rfl, ct⟩ := own1 (unhide HQ1)
    have htl : t.length ≤ 1000000 := unhide HS1 t (by simp)
    have HSM := hide (small_any t w3 htl)
    by_cases hch : sm t = wChk
    · have q : ((str (sm t)).toList == [99, 104, 117, 110, 107, 101, 100]) = true := by rw [toList_str, hch]; rfl
      have q' : ((str (sm t)).toList != [99, 104, 117, 110, 107, 101, 100]) = false := by show (!_) = _; rw [q]; rfl
      have pq : (str (sm t)).toList = [99, 104, 117, 110, 107, 101, 100] := by rw [toList_str, hch]; rfl
      have hchk := hide hch
      clear hch
      go_upto_region 6 with (go_at_call 57; refine (unhide HSM).mono ?_; rintro e w4 ⟨rfl, hb4⟩; have HBs := hide hb4; clear hb4)
      have hch := unhide hchk
      have HB4 : Hid (Below w.heap.size w w4) := (unhide HBW).trans ((unhide HBs).mono (unhide HBW).size)
      have HR4 := hide (((unhide HBs).block w.heap.size (Nat.lt_of_lt_of_le hsV (unhide HB13').size)).trans (unhide HR3))
      have HQ2x := hide ((unhide HQ2).below (unhide HBs) (Nat.le_refl _))
      clear q q' pq hchk ct
      have hhc : (∃ x, ho = [x]) ∨ ho.length ≠ 1 := by
        match ho with
        | [] => exact .inr (by simp)
        | [x] => exact .inl ⟨x, rfl⟩
        | x :: y :: r => exact .inr (by simp)
      rcases hhc with ⟨x, rfl⟩ | hh
      · obtain ⟨gx, rfl, cx⟩ := own1 (unhide HQ2x)
        by_cases hxe : x = []
        · have qx : ((str x).toList == ([] : List UInt8)) = true := by rw [toList_str, hxe]; rfl
          have qx' : (str x).toList.isEmpty = true := by rw [toList_str, hxe]; rfl
          have HTT : Hid (T = (⟨false, 0⟩, 400)) := by show _ = _; rw [← unhide HT]; unfold fmM; simp [hch, hxe]
          clear hxe HT hch
          obtain ⟨W, hW, e0, e1, hBW, x0, x1, f0, f1⟩ := fm_end false 0 (unhide HR4) (unhide HB4)
          have HBF := hide hBW
          clear hBW
          go_wp2_with fail
          rw [← hW]
          refine bodyPost_ret (v := .tuple #[.agg #[.bool false, .int .i64 0], .int .i64 400]) (by simp [results, Tryz.results144, go_sem, e0, e1]) rfl ⟨by rw [unhide HTT]; rfl, HBF⟩
        · have qx : ((str x).toList == ([] : List UInt8)) = false := by rw [toList_str, beq_eq_false_iff_ne]; exact hxe
          have qx' : (str x).toList.isEmpty = false := by rw [toList_str]; cases x; exact absurd rfl hxe; rfl
          have HT2 : Hid (T = if decide (1 < [t].length + cl.length) then (⟨false, 0⟩, 400) else if decide (cl.length = 0) then (⟨decide ([t].length = 1), 0⟩, 0) else match rlM (cl.getD 0 []) with | none => (⟨false, 0⟩, 400) | some n => if 32768 < n then (⟨false, 0⟩, 413) else (⟨false, n⟩, 0)) := by show _ = _; rw [← unhide HT]; unfold fmM; simp [hch, hxe]
          clear hxe HT hch
          by_cases h0 : cl = []
          · subst h0
            have HTT : Hid (T = (⟨true, 0⟩, 0)) := by show _ = _; rw [unhide HT2]; rfl
            clear HT2
            obtain ⟨W, hW, e0, e1, hBW, x0, x1, f0, f1⟩ := fm_end true 0 (unhide HR4) (unhide HB4)
            have HBF := hide hBW
            clear hBW
            go_wp2_with fail
            rw [← hW]
            refine bodyPost_ret (v := .tuple #[.agg #[.bool true, .int .i64 0], .int .i64 0]) (by simp [results, Tryz.results144, go_sem, e0, e1]) rfl ⟨by rw [unhide HTT]; rfl, HBF⟩
          · have hp := List.length_pos_iff.2 h0
            have h1' : (1 : Int) < 1 + (cl.length : Int) := by omega
            have HTT : Hid (T = (⟨false, 0⟩, 400)) := by show _ = _; rw [unhide HT2, decide_eq_true (by simp; omega)]; rfl
            clear h0 HT2
            obtain ⟨W, hW, e0, e1, hBW, x0, x1, f0, f1⟩ := fm_end false 0 (unhide HR4) (unhide HB4)
            have HBF := hide hBW
            clear hBW
            go_wp2_with fail
            rw [← hW]
            refine bodyPost_ret (v := .tuple #[.agg #[.bool false, .int .i64 0], .int .i64 400]) (by simp [results, Tryz.results144, go_sem, e0, e1]) rfl ⟨by rw [unhide HTT]; rfl, HBF⟩
      · have hh' : ((ho.length : Int) != 1) = true := by simp; omega
        have HTT : Hid (T = (⟨false, 0⟩, 400)) := by show _ = _; rw [← unhide HT]; unfold fmM; simp [hch, hh]
        clear hh HT hch
        obtain ⟨W, hW, e0, e1, hBW, x0, x1, f0, f1⟩ := fm_end false 0 (unhide HR4) (unhide HB4)
        have HBF := hide hBW
        clear hBW
        go_wp2_with fail
        rw [← hW]
        refine bodyPost_ret (v := .tuple #[.agg #[.bool false, .int .i64 0], .int .i64 400]) (by simp [results, Tryz.results144, go_sem, e0, e1]) rfl ⟨by rw [unhide HTT]; rfl, HBF⟩
    · have q : ((str (sm t)).toList == [99, 104, 117, 110, 107, 101, 100]) = false := by rw [toList_str, beq_eq_false_iff_ne]; exact hch
      have q' : ((str (sm t)).toList != [99, 104, 117, 110, 107, 101, 100]) = true := by show (!_) = _; rw [q]; rfl
      have HTT : Hid (T = (⟨false, 0⟩, 501)) := by show _ = _; rw [← unhide HT]; unfold fmM; simp [hch]
      clear hch HT
      go_upto_region 5 with (go_at_call 57; refine (unhide HSM).mono ?_; rintro e w4 ⟨rfl, hb4⟩; have HBs := hide hb4; clear hb4)
      have HB4 : Hid (Below w.heap.size w w4) := (unhide HBW).trans ((unhide HBs).mono (unhide HBW).size)
      have HR4 := hide (((unhide HBs).block w.heap.size (Nat.lt_of_lt_of_le hsV (unhide HB13').size)).trans (unhide HR3))
      obtain ⟨W, hW, e0, e1, hBW, x0, x1, f0, f1⟩ := fm_end false 0 (unhide HR4) (unhide HB4)
      have HBF := hide hBW
      clear hBW
      go_wp2_with fail
      rw [← hW]
      refine bodyPost_ret (v := .tuple #[.agg #[.bool false, .int .i64 0], .int .i64 501]) (by simp [results, Tryz.results144, go_sem, e0, e1]) rfl ⟨by rw [unhide HTT]; rfl, HBF⟩
  · have h2' : (1 : Int) < (te.length : Int) := by omega
    have HTT : Hid (T = (⟨false, 0⟩, 501)) := by show _ = _; rw [← unhide HT]; unfold fmM; simp [h2]
    clear h2 HT
    obtain ⟨W, hW, e0, e1, hBW, x0, x1, f0, f1⟩ := fm_end false 0 (unhide HR3) (unhide HBW)
    have HBF := hide hBW
    clear hBW
    go_wp2_with fail
    rw [← hW]
    refine bodyPost_ret (v := .tuple #[.agg #[.bool false, .int .i64 0], .int .i64 501]) (by simp [results, Tryz.results144, go_sem, e0, e1]) rfl ⟨by rw [unhide HTT]; rfl, HBF⟩
#print axioms readForm_any
end Go.Proofs.YtonaekkenggmbaaGreatDoor
end
