/-
  httpd's reference: Write.
-/
import Derived.Test.YtonaekkenggmbaaGreatDoorPkHadsbd
import Derived.Test.YtonaekkenggmbaaGreatDoorPkHadsay
import Derived.Test.YtonaekkenggmbaaGreatDoorPkHadsbh
import Derived.Test.YtonaekkenggmbaaGreatDoorPkHadsbi
section
set_option linter.unusedVariables false
set_option maxRecDepth 1000000
namespace Go.Proofs.YtonaekkenggmbaaGreatDoor
open Go.RowKit

theorem reF_some (st : Int) : ∀ f k, reF st f k ≠ [] → ∃ j, (rcd.getD j 0 : Int) = st
  | 0, k, h => absurd rfl h
  | f + 1, k, h => by
    unfold reF at h
    split at h
    · rename_i e; exact ⟨k, e⟩
    · exact reF_some st f (k + 1) h
theorem rcd_le : ∀ j, rcd.getD j 0 ≤ 507 := by
  intro j
  by_cases h : j < 18
  · have : ∀ j, j < 18 → rcd.getD j 0 ≤ 507 := by decide +kernel
    exact this j h
  · have e : rcd.getD j 0 = 0 := by
      have h18 : rcd.length = 18 := by decide +kernel
      rw [List.getD_eq_getElem?_getD, List.getElem?_eq_none (by omega)]; rfl
    omega
theorem reM_some (st : Int) (h : reM st ≠ []) : ∃ n : Nat, st = (n : Int) ∧ n ≤ 507 := by
  obtain ⟨j, hj⟩ := reF_some st 18 0 h
  exact ⟨rcd.getD j 0, hj.symm, rcd_le j⟩
set_option maxHeartbeats 4000000 in
theorem rwrite8 (st : Int) (H : List Hd) (B : List UInt8) (hp bp : Option Addr) (hc bc : Nat) (w : World) (h1 : HdR w hp H) (b1 : Bs w bp bc B) (hh : hsz H ≤ 262144) :
    Calls Tryz.prog 33 #[.agg #[.int .i64 st, .slice hp H.length hc, .slice bp B.length bc]] w fun e w' => ∃ a c r, ∃ E : Nat, e = .returned (.tuple #[.slice a r.length c, .int .i64 (E : Int)]) ∧ Hid (E = awE st H B ∧ r = awR st H B) ∧ Hid (Bs w' a c r) ∧ Hid (Below w.heap.size w w') := by
  obtain ⟨o, ho⟩ : ∃ o, o = Obj.cells #[.int .i64 st, .slice hp H.length hc, .slice bp B.length bc] 58 := ⟨_, rfl⟩
  have hbU : Below w.heap.size w (w.alloc o) := (Below.refl _ _).alloc (Nat.le_refl _) _
  have hrU : (w.alloc o).heap[w.heap.size]? = some (.cells #[.int .i64 st, .slice hp H.length hc, .slice bp B.length bc] 58 (0, 0)) := by rw [ho]; exact heap_alloc_new w _
  obtain ⟨U, hU⟩ : ∃ U, U = w.alloc o := ⟨_, rfl⟩
  rw [← hU] at hbU hrU
  rw [ho] at hU
  have HBU := hide hbU
  have HRU := hide hrU
  have y0 : U.cell? ⟨w.heap.size, 0, none⟩ = some (.int .i64 st) := cell_of_row _ _ _ _ _ _ (unhide HRU)
  have y1 : U.cell? ⟨w.heap.size, 1, none⟩ = some (.slice hp H.length hc) := cell_of_row _ _ _ _ _ _ (unhide HRU)
  have y2 : U.cell? ⟨w.heap.size, 2, none⟩ = some (.slice bp B.length bc) := cell_of_row _ _ _ _ _ _ (unhide HRU)
  have hHl : H.length ≤ 32768 := by have := hsz_len H; omega
  have HSS : Hid (HdS H) := fun t d hd => by have := hsz_mem H d (List.mem_of_getElem? hd); omega
  have hBl := Nat.le_trans b1.le b1.most
  unfold maxLen at hBl
  have HHU : Hid (HdR w hp H ∧ Bs w bp bc B) := ⟨h1, b1⟩
  have HRE := hide (rreason st U)
  clear ho hbU hrU h1 b1 o
  go_enter Tryz.func33, Tryz.ntmps33
  go_upto_region 1 with fail
  rw [← hU]
  clear hU
  by_cases hre : reM st = []
  · have f1 : (str (reM st)).toList.isEmpty = true := by rw [toList_str, hre]; rfl
    have HM : Hid (1 = awE st H B ∧ ([] : List UInt8) = awR st H B) := by
      have e : awE st H B = 1 := by unfold awE; rw [if_pos hre]
      exact ⟨e.symm, by unfold awR; rw [e]; rfl⟩
    generalize reM st = R at *
    clear hre
    go_wp2_with fail
    refine (unhide HRE).mono ?_
    rintro e W ⟨rfl, HB⟩
    have HBF := hide ((unhide HBU).trans ((unhide HB).mono (unhide HBU).size))
    go_wp2_with fail
    go_ret2
    exact ⟨none, 0, [], 1, rfl, HM, ⟨fun h => absurd rfl h, Nat.zero_le _, Nat.zero_le _, fun _ => rfl⟩, HBF⟩
  have HE1 := hide hre
  have f1 : (str (reM st)).toList.isEmpty = false := by rw [toList_str]; cases h : reM st with | nil => exact absurd h hre | cons a l => rfl
  generalize hR : reM st = R at HRE f1
  clear hR hre
  go_wp2_with fail
  refine (unhide HRE).mono ?_
  rintro e W ⟨rfl, HB⟩
  have HBW : Hid (Below w.heap.size w W) := (unhide HBU).trans ((unhide HB).mono (unhide HBU).size)
  have HRW : Hid (W.heap[w.heap.size]? = some (.cells #[.int .i64 st, .slice hp H.length hc, .slice bp B.length bc] 58 (0, 0))) := ((unhide HB).block _ (Array.getElem?_eq_some_iff.1 (unhide HRU)).1).trans (unhide HRU)
  clear HRE y0 y1 y2 HB HBU HRU
  have y0 : W.cell? ⟨w.heap.size, 0, none⟩ = some (.int .i64 st) := cell_of_row _ _ _ _ _ _ (unhide HRW)
  have y1 : W.cell? ⟨w.heap.size, 1, none⟩ = some (.slice hp H.length hc) := cell_of_row _ _ _ _ _ _ (unhide HRW)
  have y2 : W.cell? ⟨w.heap.size, 2, none⟩ = some (.slice bp B.length bc) := cell_of_row _ _ _ _ _ _ (unhide HRW)
  go_wp2_with fail
  go_loopw [14] (fun i wr => ∃ k : Nat, k ≤ H.length ∧ i = .int .i64 (k : Int) ∧ Hid ((H.take k).any noA = false) ∧ Hid (Below W.heap.size W wr)) (fun i _ => H.length - (intOf i).toNat)
  case atStart => exact ⟨0, Nat.zero_le _, rfl, rfl, Below.refl _ _⟩
  case round =>
    obtain ⟨k, hk, rfl, HN, HB⟩ := hrel
    have HBwr : Hid (Below w.heap.size w wr) := (unhide HBW).trans ((unhide HB).mono (unhide HBW).size)
    have HRwr : Hid (wr.heap[w.heap.size]? = some (.cells #[.int .i64 st, .slice hp H.length hc, .slice bp B.length bc] 58 (0, 0))) := ((unhide HB).block _ (Array.getElem?_eq_some_iff.1 (unhide HRW)).1).trans (unhide HRW)
    clear y0 y1 y2
    by_cases hlt : k < H.length
    · have hlt' : (k : Int) < (H.length : Int) := by omega
      obtain ⟨d, hd⟩ : ∃ d, H[k]? = some d := ⟨_, List.getElem?_eq_getElem hlt⟩
      obtain ⟨g, off, hpe, hcs⟩ := ((unhide HHU).1.below (unhide HBwr) (Nat.le_refl _)).mem (by intro e; subst e; simp at hd)
      subst hpe
      obtain ⟨c0, c1⟩ := hcs k d hd
      have hds := unhide HSS k d hd
      have hbA : Below wr.heap.size wr (wr.alloc (.cells #[.string (str d.1), .string (str d.2)] 49)) := (Below.refl _ _).alloc (Nat.le_refl _) _
      have HPL := hide (rplain d.1 d.2 (wr.alloc (.cells #[.string (str d.1), .string (str d.2)] 49)) hds.1 hds.2)
      have HBA := hide hbA
      have HDD := hide hd
      generalize hpl : plB (d.1, d.2) = A at HPL
      clear hcs hd hbA
      go_wp2_with fail
      refine (unhide HPL).mono ?_
      rintro e w2 ⟨rfl, HB2⟩
      have HBB : Hid (Below wr.heap.size wr w2) := (unhide HBA).trans ((unhide HB2).mono (unhide HBA).size)
      clear HPL HB2 HBA
      cases A with
      | false =>
        have HBF := hide ((unhide HBwr).trans ((unhide HBB).mono (unhide HBwr).size))
        have hany : H.any noA = true := by
          refine List.any_eq_true.2 ⟨d, List.mem_of_getElem? (unhide HDD), ?_⟩
          unfold noA; rw [← pl_ans, hpl]; rfl
        have HM : Hid (80 = awE st H B ∧ ([] : List UInt8) = awR st H B) := by
          have e : awE st H B = 80 := by unfold awE; rw [if_neg (unhide HE1), if_pos (.inr hany)]
          exact ⟨e.symm, by unfold awR; rw [e]; rfl⟩
        clear hany hpl
        go_wp2_with fail
        go_ret2
        exact ⟨none, 0, [], 80, rfl, HM, ⟨fun h => absurd rfl h, Nat.zero_le _, Nat.zero_le _, fun _ => rfl⟩, HBF⟩
      | true =>
        have HN2 : Hid ((H.take (k + 1)).any noA = false) := by
          show _ = _
          obtain ⟨hl2, he2⟩ := List.getElem?_eq_some_iff.1 (unhide HDD)
          rw [List.take_succ_eq_append_getElem hl2, List.any_append, unhide HN, he2]
          have : noA d = false := by unfold noA; rw [← pl_ans, hpl]; rfl
          simp [this]
        have HBw : Hid (Below W.heap.size W w2) := (unhide HB).trans ((unhide HBB).mono (unhide HB).size)
        clear hpl
        go_wp2_with fail
        go_roundw
        case rel => exact ⟨k + 1, by omega, by go_num, HN2, HBw⟩
        case measure => simp [intOf]; omega
    · have hlt' : ¬ (k : Int) < (H.length : Int) := by omega
      obtain rfl : k = H.length := by omega
      have hany : H.any noA = false := by have := unhide HN; rw [List.take_length] at this; exact this
      clear hlt HN
      have y0 : wr.cell? ⟨w.heap.size, 0, none⟩ = some (.int .i64 st) := cell_of_row _ _ _ _ _ _ (unhide HRwr)
      have y1 : wr.cell? ⟨w.heap.size, 1, none⟩ = some (.slice hp H.length hc) := cell_of_row _ _ _ _ _ _ (unhide HRwr)
      have y2 : wr.cell? ⟨w.heap.size, 2, none⟩ = some (.slice bp B.length bc) := cell_of_row _ _ _ _ _ _ (unhide HRwr)
      by_cases h32 : 32 ≤ H.length
      · have h32' : (32 : Int) ≤ (H.length : Int) := by omega
        have HM : Hid (80 = awE st H B ∧ ([] : List UInt8) = awR st H B) := by
          have e : awE st H B = 80 := by unfold awE; rw [if_neg (unhide HE1), if_pos (.inl h32)]
          exact ⟨e.symm, by unfold awR; rw [e]; rfl⟩
        clear h32 hany
        go_wp2_with fail
        go_ret2
        exact ⟨none, 0, [], 80, rfl, HM, ⟨fun h => absurd rfl h, Nat.zero_le _, Nat.zero_le _, fun _ => rfl⟩, HBwr⟩
      have h32' : ¬ (32 : Int) ≤ (H.length : Int) := by omega
      have HE2 : Hid (¬ (32 ≤ H.length ∨ H.any noA = true)) := fun h => h.elim h32 (fun e => by rw [hany] at e; cases e)
      clear h32 hany
      by_cases hB : 32768 < B.length
      · have hB' : (32768 : Int) < (B.length : Int) := by omega
        have HM : Hid (81 = awE st H B ∧ ([] : List UInt8) = awR st H B) := by
          have e : awE st H B = 81 := by unfold awE; rw [if_neg (unhide HE1), if_neg (unhide HE2), if_pos (.inl hB)]
          exact ⟨e.symm, by unfold awR; rw [e]; rfl⟩
        clear hB
        go_wp2_with fail
        go_ret2
        exact ⟨none, 0, [], 81, rfl, HM, ⟨fun h => absurd rfl h, Nat.zero_le _, Nat.zero_le _, fun _ => rfl⟩, HBwr⟩
      have hB' : ¬ (32768 : Int) < (B.length : Int) := by omega
      have HB32 : Hid (B.length ≤ 32768) := by show _ ≤ _; omega
      obtain ⟨n, hn, hn5⟩ := reM_some st (unhide HE1)
      subst hn
      have HFI := hide (fun wx => rfirst n (by omega) wx)
      have HSN : Hid (∀ wx, Below w.heap.size w wx → Calls Tryz.prog 52 #[.slice hp H.length hc] wx fun e w' => e = .returned (.string (str (H.flatMap hline))) ∧ Hid (Below wx.heap.size wx w')) := fun wx hx => rsent hp hc H wx ((unhide HHU).1.below hx (Nat.le_refl _)) hh
      by_cases h101 : n = 101
      · have h101' : ((n : Int) == 101) = true := by rw [beq_iff_eq]; omega
        have h101b : ((n : Int) != 101) = false := by rw [h101]; rfl
        have h101c : (n : Int) = 101 := by omega
        by_cases hB0 : 0 < B.length
        · have hB0' : (0 : Int) < (B.length : Int) := by omega
          have HM : Hid (81 = awE (n : Int) H B ∧ ([] : List UInt8) = awR (n : Int) H B) := by
            have e : awE (n : Int) H B = 81 := by unfold awE; rw [if_neg (unhide HE1), if_neg (unhide HE2), if_pos (.inr ⟨h101c, hB0⟩)]
            exact ⟨e.symm, by unfold awR; rw [e]; rfl⟩
          clear hB hB0 h101 h101c
          go_wp2_with fail
          go_ret2
          exact ⟨none, 0, [], 81, rfl, HM, ⟨fun h => absurd rfl h, Nat.zero_le _, Nat.zero_le _, fun _ => rfl⟩, HBwr⟩
        · have hB0' : ¬ (0 : Int) < (B.length : Int) := by omega
          have HE3 : Hid (¬ (32768 < B.length ∨ ((n : Int) = 101 ∧ 0 < B.length))) := fun h => h.elim hB (fun e => hB0 e.2)
          have H101 := hide h101c
          clear hB hB0 h101 h101c
          have HBwrd : Hid (Below w.heap.size w wr.drew) := (unhide HBwr).drew
          have HRwrd : Hid (wr.drew.heap[w.heap.size]? = some (.cells #[.int .i64 (n : Int), .slice hp H.length hc, .slice bp B.length bc] 58 (0, 0))) := unhide HRwr
          have hsl : (stL (n : Int)).length ≤ 71 := stL_len _ (by omega) (by omega)
          have hFl := hl_len H
          have HAW : Hid (awH (n : Int) H B = stL (n : Int) ++ [13, 10] ++ H.flatMap hline ++ ([])) := by show _ = _; unfold awH; rw [if_pos (unhide H101)]
          generalize H.flatMap hline = F at *
          generalize stL (n : Int) = q4 at *
          have ka : ∀ w, (Op.stringOp .add (str q4) (⟨#[13, 10]⟩ : ByteArray)).run Tryz.prog w = .ok (.string (str (q4 ++ [13, 10]))) w := fun w => by
            rw [← show str q4 ++ (⟨#[13, 10]⟩ : ByteArray) = str (q4 ++ [13, 10]) from str_app _ [13, 10]]; exact run_string_add_sum w _ _ (by rw [str_size]; show _ + 2 ≤ _; omega)
          have kb : ∀ w, (Op.stringOp .add (str (q4 ++ [13, 10])) (str F)).run Tryz.prog w = .ok (.string (str (q4 ++ [13, 10] ++ F))) w := fun w => by
            rw [← str_app (q4 ++ [13, 10]) F]; exact run_string_add_sum w _ _ (by rw [str_size, str_size]; simp; omega)
          have hq6 : (q4 ++ [13, 10] ++ F).length ≤ 262300 := by simp; omega
          generalize q4 ++ [13, 10] ++ F = q6 at *
          generalize q4 ++ [13, 10] = q5 at *
          go_upto_region 13 with fail
          go_region_held (fun w' => w'.cell? ⟨w.heap.size, 0, none⟩ = some (.int .i64 (n : Int)) ∧ w'.cell? ⟨w.heap.size, 1, none⟩ = some (.slice hp H.length hc)) (first | exact Sw3 | exact Sw2 | exact ⟨y0, y1⟩ | go_keep) ((first
            | (have hh := HBa; clear hh; go_at_call 62; refine (unhide HFI _).mono ?_; rintro e w3 ⟨rfl, HBb⟩; have HBw3 : Hid (Below w.heap.size w w3) := (unhide HBw2).trans ((unhide HBb).mono (unhide HBw2).size); have HRw3 : Hid (w3.heap[w.heap.size]? = some (.cells #[.int .i64 (n : Int), .slice hp H.length hc, .slice bp B.length bc] 58 (0, 0))) := ((unhide HBb).block _ (Array.getElem?_eq_some_iff.1 (unhide HRw2)).1).trans (unhide HRw2); have Sw3 : w3.cell? ⟨w.heap.size, 0, none⟩ = some (.int .i64 (n : Int)) ∧ w3.cell? ⟨w.heap.size, 1, none⟩ = some (.slice hp H.length hc) := ⟨cell_of_row _ _ _ _ _ _ (unhide HRw3), cell_of_row _ _ _ _ _ _ (unhide HRw3)⟩)
            | (have hh := HBa; clear hh; go_at_call 52; refine (unhide HSN _ (unhide HBw2)).mono ?_; rintro e w3 ⟨rfl, HBb⟩; have HBw3 : Hid (Below w.heap.size w w3) := (unhide HBw2).trans ((unhide HBb).mono (unhide HBw2).size); have HRw3 : Hid (w3.heap[w.heap.size]? = some (.cells #[.int .i64 (n : Int), .slice hp H.length hc, .slice bp B.length bc] 58 (0, 0))) := ((unhide HBb).block _ (Array.getElem?_eq_some_iff.1 (unhide HRw2)).1).trans (unhide HRw2); have Sw3 : w3.cell? ⟨w.heap.size, 0, none⟩ = some (.int .i64 (n : Int)) ∧ w3.cell? ⟨w.heap.size, 1, none⟩ = some (.slice hp H.length hc) := ⟨cell_of_row _ _ _ _ _ _ (unhide HRw3), cell_of_row _ _ _ _ _ _ (unhide HRw3)⟩)
            | (go_at_call 62; refine (unhide HFI _).mono ?_; rintro e w2 ⟨rfl, HBa⟩; have HBw2 : Hid (Below w.heap.size w w2) := (unhide HBwrd).trans ((unhide HBa).mono (unhide HBwrd).size); have HRw2 : Hid (w2.heap[w.heap.size]? = some (.cells #[.int .i64 (n : Int), .slice hp H.length hc, .slice bp B.length bc] 58 (0, 0))) := ((unhide HBa).block _ (Array.getElem?_eq_some_iff.1 (unhide HRwrd)).1).trans (unhide HRwrd); have Sw2 : w2.cell? ⟨w.heap.size, 0, none⟩ = some (.int .i64 (n : Int)) ∧ w2.cell? ⟨w.heap.size, 1, none⟩ = some (.slice hp H.length hc) := ⟨cell_of_row _ _ _ _ _ _ (unhide HRw2), cell_of_row _ _ _ _ _ _ (unhide HRw2)⟩)
            | (go_at_call 52; refine (unhide HSN _ (unhide HBwrd)).mono ?_; rintro e w2 ⟨rfl, HBa⟩; have HBw2 : Hid (Below w.heap.size w w2) := (unhide HBwrd).trans ((unhide HBa).mono (unhide HBwrd).size); have HRw2 : Hid (w2.heap[w.heap.size]? = some (.cells #[.int .i64 (n : Int), .slice hp H.length hc, .slice bp B.length bc] 58 (0, 0))) := ((unhide HBa).block _ (Array.getElem?_eq_some_iff.1 (unhide HRwrd)).1).trans (unhide HRwrd); have Sw2 : w2.cell? ⟨w.heap.size, 0, none⟩ = some (.int .i64 (n : Int)) ∧ w2.cell? ⟨w.heap.size, 1, none⟩ = some (.slice hp H.length hc) := ⟨cell_of_row _ _ _ _ _ _ (unhide HRw2), cell_of_row _ _ _ _ _ _ (unhide HRw2)⟩)
            | fail))
          all_goals
            clear y0 y1 y2 Sw2 HFI HSN ka kb
            have y0 : w3.cell? ⟨w.heap.size, 0, none⟩ = some (.int .i64 (n : Int)) := cell_of_row _ _ _ _ _ _ (unhide HRw3)
            have y2 : w3.cell? ⟨w.heap.size, 2, none⟩ = some (.slice bp B.length bc) := cell_of_row _ _ _ _ _ _ (unhide HRw3)
            have HQ : Hid (q6 = awH (n : Int) H B) := by rw [unhide HAW, List.append_nil]; exact rfl
            clear HAW

            have zq : (str q6).size = q6.length := str_size q6
            by_cases hlg : 8192 < q6.length - 2
            · have hlg' : (8192 : Int) < (q6.length : Int) - 2 := by omega
              have HM : Hid (4 = awE (n : Int) H B ∧ ([] : List UInt8) = awR (n : Int) H B) := by
                have e : awE (n : Int) H B = 4 := by unfold awE; rw [if_neg (unhide HE1), if_neg (unhide HE2), if_neg (unhide HE3), if_pos (by rw [← unhide HQ]; exact hlg)]
                exact ⟨e.symm, by unfold awR; rw [e]; rfl⟩
              clear hlg
              go_wp2_with fail
              go_ret2
              exact ⟨none, 0, [], 4, rfl, HM, ⟨fun h => absurd rfl h, Nat.zero_le _, Nat.zero_le _, fun _ => rfl⟩, HBw3⟩
            · have hlg' : ¬ (8192 : Int) < (q6.length : Int) - 2 := by omega
              have HM : Hid (0 = awE (n : Int) H B ∧ q6 ++ [13, 10] ++ B = awR (n : Int) H B) := by
                have e : awE (n : Int) H B = 0 := by
                  unfold awE
                  rw [if_neg (unhide HE1), if_neg (unhide HE2), if_neg (unhide HE3), if_neg (by rw [← unhide HQ]; exact hlg)]
                exact ⟨e.symm, by unfold awR; rw [e, if_pos rfl, ← unhide HQ]⟩
              have hql : q6.length ≤ 8194 := by omega
              have g1 : str q6 ++ (⟨#[13, 10]⟩ : ByteArray) = str (q6 ++ [13, 10]) := str_app _ [13, 10]
              have g2 : str (q6 ++ [13, 10]) ++ str B = str (q6 ++ [13, 10] ++ B) := str_app _ B
              have z1 : (str (q6 ++ [13, 10])).size = q6.length + 2 := by rw [str_size]; simp
              have zB : (str B).size = B.length := str_size B
              have kS := run_str w3 bp _ bc B ((unhide HHU).2.below (unhide HBw3) (Nat.le_refl _)).row rfl
              have htl : (q6 ++ [13, 10] ++ B).length ≤ 50000 := by have := unhide HB32; simp; omega
              generalize q6 ++ [13, 10] ++ B = r9 at *
              generalize q6 ++ [13, 10] = q8 at *
              obtain ⟨V, c, hcv, hbV, hsV, hOV⟩ := to_omg r9 w3 (by omega)
              have HBV : Hid (Below w.heap.size w V) := (unhide HBw3).trans (hbV.mono (unhide HBw3).size)
              have HOV := hide hOV.toBs
              have hB32 := unhide HB32
              clear hlg hbV hsV hOV
              go_wp2_with fail
              go_ret2
              exact ⟨_, c, r9, 0, rfl, HM, HOV, HBV⟩
      · have h101' : ((n : Int) == 101) = false := by rw [beq_eq_false_iff_ne]; omega
        have h101b : ((n : Int) != 101) = true := by rw [bne_iff_ne]; omega
        have h101c : ¬ (n : Int) = 101 := by omega
        have HE3 : Hid (¬ (32768 < B.length ∨ ((n : Int) = 101 ∧ 0 < B.length))) := fun h => h.elim hB (fun e => h101c e.1)
        have H101 := hide h101c
        clear hB h101 h101c
        have HBwrd : Hid (Below w.heap.size w wr.drew) := (unhide HBwr).drew
        have HRwrd : Hid (wr.drew.heap[w.heap.size]? = some (.cells #[.int .i64 (n : Int), .slice hp H.length hc, .slice bp B.length bc] 58 (0, 0))) := unhide HRwr
        have hsl : (stL (n : Int)).length ≤ 71 := stL_len _ (by omega) (by omega)
        have hFl := hl_len H
        have HAW : Hid (awH (n : Int) H B = stL (n : Int) ++ [13, 10] ++ H.flatMap hline ++ (hline (nCL, Lib.itoa (B.length : Int)))) := by show _ = _; unfold awH; rw [if_neg (unhide H101)]
        generalize H.flatMap hline = F at *
        generalize stL (n : Int) = q4 at *
        have ka : ∀ w, (Op.stringOp .add (str q4) (⟨#[13, 10]⟩ : ByteArray)).run Tryz.prog w = .ok (.string (str (q4 ++ [13, 10]))) w := fun w => by
          rw [← show str q4 ++ (⟨#[13, 10]⟩ : ByteArray) = str (q4 ++ [13, 10]) from str_app _ [13, 10]]; exact run_string_add_sum w _ _ (by rw [str_size]; show _ + 2 ≤ _; omega)
        have kb : ∀ w, (Op.stringOp .add (str (q4 ++ [13, 10])) (str F)).run Tryz.prog w = .ok (.string (str (q4 ++ [13, 10] ++ F))) w := fun w => by
          rw [← str_app (q4 ++ [13, 10]) F]; exact run_string_add_sum w _ _ (by rw [str_size, str_size]; simp; omega)
        have hq6 : (q4 ++ [13, 10] ++ F).length ≤ 262300 := by simp; omega
        generalize q4 ++ [13, 10] ++ F = q6 at *
        generalize q4 ++ [13, 10] = q5 at *
        go_upto_region 13 with fail
        go_region_held (fun w' => w'.cell? ⟨w.heap.size, 0, none⟩ = some (.int .i64 (n : Int)) ∧ w'.cell? ⟨w.heap.size, 1, none⟩ = some (.slice hp H.length hc)) (first | exact Sw3 | exact Sw2 | exact ⟨y0, y1⟩ | go_keep) ((first
          | (have hh := HBa; clear hh; go_at_call 62; refine (unhide HFI _).mono ?_; rintro e w3 ⟨rfl, HBb⟩; have HBw3 : Hid (Below w.heap.size w w3) := (unhide HBw2).trans ((unhide HBb).mono (unhide HBw2).size); have HRw3 : Hid (w3.heap[w.heap.size]? = some (.cells #[.int .i64 (n : Int), .slice hp H.length hc, .slice bp B.length bc] 58 (0, 0))) := ((unhide HBb).block _ (Array.getElem?_eq_some_iff.1 (unhide HRw2)).1).trans (unhide HRw2); have Sw3 : w3.cell? ⟨w.heap.size, 0, none⟩ = some (.int .i64 (n : Int)) ∧ w3.cell? ⟨w.heap.size, 1, none⟩ = some (.slice hp H.length hc) := ⟨cell_of_row _ _ _ _ _ _ (unhide HRw3), cell_of_row _ _ _ _ _ _ (unhide HRw3)⟩)
          | (have hh := HBa; clear hh; go_at_call 52; refine (unhide HSN _ (unhide HBw2)).mono ?_; rintro e w3 ⟨rfl, HBb⟩; have HBw3 : Hid (Below w.heap.size w w3) := (unhide HBw2).trans ((unhide HBb).mono (unhide HBw2).size); have HRw3 : Hid (w3.heap[w.heap.size]? = some (.cells #[.int .i64 (n : Int), .slice hp H.length hc, .slice bp B.length bc] 58 (0, 0))) := ((unhide HBb).block _ (Array.getElem?_eq_some_iff.1 (unhide HRw2)).1).trans (unhide HRw2); have Sw3 : w3.cell? ⟨w.heap.size, 0, none⟩ = some (.int .i64 (n : Int)) ∧ w3.cell? ⟨w.heap.size, 1, none⟩ = some (.slice hp H.length hc) := ⟨cell_of_row _ _ _ _ _ _ (unhide HRw3), cell_of_row _ _ _ _ _ _ (unhide HRw3)⟩)
          | (go_at_call 62; refine (unhide HFI _).mono ?_; rintro e w2 ⟨rfl, HBa⟩; have HBw2 : Hid (Below w.heap.size w w2) := (unhide HBwrd).trans ((unhide HBa).mono (unhide HBwrd).size); have HRw2 : Hid (w2.heap[w.heap.size]? = some (.cells #[.int .i64 (n : Int), .slice hp H.length hc, .slice bp B.length bc] 58 (0, 0))) := ((unhide HBa).block _ (Array.getElem?_eq_some_iff.1 (unhide HRwrd)).1).trans (unhide HRwrd); have Sw2 : w2.cell? ⟨w.heap.size, 0, none⟩ = some (.int .i64 (n : Int)) ∧ w2.cell? ⟨w.heap.size, 1, none⟩ = some (.slice hp H.length hc) := ⟨cell_of_row _ _ _ _ _ _ (unhide HRw2), cell_of_row _ _ _ _ _ _ (unhide HRw2)⟩)
          | (go_at_call 52; refine (unhide HSN _ (unhide HBwrd)).mono ?_; rintro e w2 ⟨rfl, HBa⟩; have HBw2 : Hid (Below w.heap.size w w2) := (unhide HBwrd).trans ((unhide HBa).mono (unhide HBwrd).size); have HRw2 : Hid (w2.heap[w.heap.size]? = some (.cells #[.int .i64 (n : Int), .slice hp H.length hc, .slice bp B.length bc] 58 (0, 0))) := ((unhide HBa).block _ (Array.getElem?_eq_some_iff.1 (unhide HRwrd)).1).trans (unhide HRwrd); have Sw2 : w2.cell? ⟨w.heap.size, 0, none⟩ = some (.int .i64 (n : Int)) ∧ w2.cell? ⟨w.heap.size, 1, none⟩ = some (.slice hp H.length hc) := ⟨cell_of_row _ _ _ _ _ _ (unhide HRw2), cell_of_row _ _ _ _ _ _ (unhide HRw2)⟩)
          | fail))
        all_goals
          clear y0 y1 y2 Sw2 HFI HSN ka kb
          have y0 : w3.cell? ⟨w.heap.size, 0, none⟩ = some (.int .i64 (n : Int)) := cell_of_row _ _ _ _ _ _ (unhide HRw3)
          have y2 : w3.cell? ⟨w.heap.size, 2, none⟩ = some (.slice bp B.length bc) := cell_of_row _ _ _ _ _ _ (unhide HRw3)
          have HDG := hide (digits_any B.length (by have := unhide HB32; omega) w3)
          have hil := Lib.itoa_length_le (B.length : Int) (by omega) (by have := unhide HB32; omega)
          rw [Lib.itoa_nonneg] at hil HAW
          generalize Lib.decDigits B.length = I at *
          have z6 : (str q6).size = q6.length := str_size q6
          have zI : (str I).size = I.length := str_size I
          have g4 : str q6 ++ (⟨#[99, 111, 110, 116, 101, 110, 116, 45, 108, 101, 110, 103, 116, 104, 58, 32]⟩ : ByteArray) = str (q6 ++ (nCL ++ [58, 32])) := str_app _ (nCL ++ [58, 32])
          have g5 : str (q6 ++ (nCL ++ [58, 32])) ++ str I = str (q6 ++ (nCL ++ [58, 32]) ++ I) := str_app _ I
          have g6 : str (q6 ++ (nCL ++ [58, 32]) ++ I) ++ (⟨#[13, 10]⟩ : ByteArray) = str (q6 ++ (nCL ++ [58, 32]) ++ I ++ [13, 10]) := str_app _ [13, 10]
          have z7 : (str (q6 ++ (nCL ++ [58, 32]))).size = q6.length + 16 := by rw [str_size]; simp [nCL]
          have z8 : (str (q6 ++ (nCL ++ [58, 32]) ++ I)).size = q6.length + 16 + I.length := by rw [str_size]; simp [nCL]; omega
          have hqz : (q6 ++ (nCL ++ [58, 32]) ++ I ++ [13, 10]).length ≤ 300000 := by simp [nCL]; omega
          have HQ : Hid (q6 ++ (nCL ++ [58, 32]) ++ I ++ [13, 10] = awH (n : Int) H B) := by
            show _ = _
            rw [unhide HAW]
            simp [hline, List.append_assoc]
          generalize q6 ++ (nCL ++ [58, 32]) ++ I ++ [13, 10] = qz at *
          generalize q6 ++ (nCL ++ [58, 32]) ++ I = qy at *
          generalize q6 ++ (nCL ++ [58, 32]) = qx at *
          clear HAW
          go_wp2_with fail
          refine (unhide HDG).mono ?_
          rintro e w4 ⟨rfl, HB4⟩
          have HBw4 : Hid (Below w.heap.size w w4) := (unhide HBw3).trans ((unhide HB4).mono (unhide HBw3).size)
          have HRw4 : Hid (w4.heap[w.heap.size]? = some (.cells #[.int .i64 (n : Int), .slice hp H.length hc, .slice bp B.length bc] 58 (0, 0))) := ((unhide HB4).block _ (Array.getElem?_eq_some_iff.1 (unhide HRw3)).1).trans (unhide HRw3)
          clear HDG y0 y2 HB4
          have y2 : w4.cell? ⟨w.heap.size, 2, none⟩ = some (.slice bp B.length bc) := cell_of_row _ _ _ _ _ _ (unhide HRw4)

          have zq : (str qz).size = qz.length := str_size qz
          by_cases hlg : 8192 < qz.length - 2
          · have hlg' : (8192 : Int) < (qz.length : Int) - 2 := by omega
            have HM : Hid (4 = awE (n : Int) H B ∧ ([] : List UInt8) = awR (n : Int) H B) := by
              have e : awE (n : Int) H B = 4 := by unfold awE; rw [if_neg (unhide HE1), if_neg (unhide HE2), if_neg (unhide HE3), if_pos (by rw [← unhide HQ]; exact hlg)]
              exact ⟨e.symm, by unfold awR; rw [e]; rfl⟩
            clear hlg
            go_wp2_with fail
            go_ret2
            exact ⟨none, 0, [], 4, rfl, HM, ⟨fun h => absurd rfl h, Nat.zero_le _, Nat.zero_le _, fun _ => rfl⟩, HBw4⟩
          · have hlg' : ¬ (8192 : Int) < (qz.length : Int) - 2 := by omega
            have HM : Hid (0 = awE (n : Int) H B ∧ qz ++ [13, 10] ++ B = awR (n : Int) H B) := by
              have e : awE (n : Int) H B = 0 := by
                unfold awE
                rw [if_neg (unhide HE1), if_neg (unhide HE2), if_neg (unhide HE3), if_neg (by rw [← unhide HQ]; exact hlg)]
              exact ⟨e.symm, by unfold awR; rw [e, if_pos rfl, ← unhide HQ]⟩
            have hql : qz.length ≤ 8194 := by omega
            have g1 : str qz ++ (⟨#[13, 10]⟩ : ByteArray) = str (qz ++ [13, 10]) := str_app _ [13, 10]
            have g2 : str (qz ++ [13, 10]) ++ str B = str (qz ++ [13, 10] ++ B) := str_app _ B
            have z1 : (str (qz ++ [13, 10])).size = qz.length + 2 := by rw [str_size]; simp
            have zB : (str B).size = B.length := str_size B
            have kS := run_str w4 bp _ bc B ((unhide HHU).2.below (unhide HBw4) (Nat.le_refl _)).row rfl
            have htl : (qz ++ [13, 10] ++ B).length ≤ 50000 := by have := unhide HB32; simp; omega
            generalize qz ++ [13, 10] ++ B = r9 at *
            generalize qz ++ [13, 10] = q8 at *
            obtain ⟨V, c, hcv, hbV, hsV, hOV⟩ := to_omg r9 w4 (by omega)
            have HBV : Hid (Below w.heap.size w V) := (unhide HBw4).trans (hbV.mono (unhide HBw4).size)
            have HOV := hide hOV.toBs
            have hB32 := unhide HB32
            clear hlg hbV hsV hOV
            go_wp2_with fail
            go_ret2
            exact ⟨_, c, r9, 0, rfl, HM, HOV, HBV⟩
#print axioms rwrite8
end Go.Proofs.YtonaekkenggmbaaGreatDoor
end
