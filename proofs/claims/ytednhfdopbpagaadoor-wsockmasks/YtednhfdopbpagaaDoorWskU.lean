/-
  WsockMasks: THE WALK.
-/
import Derived.Test.YtednhfdopbpagaaDoorWskT
import Derived.Deep.RegionHeld3
set_option linter.unusedVariables false
set_option maxRecDepth 1000000
namespace Go.Proofs.YtednhfdopbpagaaDoor
open Go.RowKit

set_option maxHeartbeats 2000000 in
theorem masks_core (fin : Bool) (op : Int) (x : Option Addr) (c : Nat) (l : List UInt8) (P Q : List UInt8) (hP : P.length = 4) (hQ : Q.length = 4) (w : World) (hL : Bs w x c l) (hT : Tb w) :
    Calls Tryd.prog 4 #[.agg #[.bool fin, .int .i64 op, .slice x l.length c], .agg (bs P).toArray, .agg (bs Q).toArray] w fun e w' => e = .returned (.bool true) ∧ Below w.heap.size w w' := by
  have hle := hL.le
  have hmost := hL.most
  unfold maxLen at hmost
  obtain ⟨W, hW⟩ : ∃ W, W = ((w.alloc (.cells #[.bool fin, .int .i64 op, .slice x l.length c] 24)).alloc (.cells (bs P).toArray 35)).alloc (.cells (bs Q).toArray 35) := ⟨_, rfl⟩
  obtain ⟨hB, hF, hCP, hCQ, hsz⟩ := boxed3 w (.cells #[.bool fin, .int .i64 op, .slice x l.length c] 24) (.cells (bs P).toArray 35) (.cells (bs Q).toArray 35)
  rw [← hW] at hB hF hCP hCQ hsz
  have HF := hide hF
  have HBP : Hid (Bs W (some ⟨w.heap.size + 1, 0, none⟩) 4 P) := ⟨(show Cel W _ 35 (bs P) from hCP).row, by omega, by unfold maxLen; omega, fun h => by cases h⟩
  have HBQ : Hid (Bs W (some ⟨w.heap.size + 1 + 1, 0, none⟩) 4 Q) := ⟨(show Cel W _ 35 (bs Q) from hCQ).row, by omega, by unfold maxLen; omega, fun h => by cases h⟩
  have r0 : W.cell? ⟨w.heap.size, 0, none⟩ = some (.bool fin) := by rw [cell_of_row W w.heap.size 0 _ _ _ hF]; rfl
  have r1 : W.cell? ⟨w.heap.size, 1, none⟩ = some (.int .i64 op) := by rw [cell_of_row W w.heap.size 1 _ _ _ hF]; rfl
  have r2 : W.cell? ⟨w.heap.size, 2, none⟩ = some (.slice x l.length c) := by rw [cell_of_row W w.heap.size 2 _ _ _ hF]; rfl
  have HL := hide (hL.below hB (Nat.le_refl _))
  have HT := hide (hT.below hB hT.big)
  have HB := hide hB
  clear hB hL hT hF hCP hCQ
  go_enter Tryd.func4, Tryd.ntmps4
  go_upto_region 1 with fail
  rw [← hW]
  clear hW
  by_cases hbig : 262144 < l.length
  · have hb' : (262144 : Int) < (l.length : Int) := by omega
    clear hbig
    go_wp2_with (go_at_call 5; refine (awake9_any W (unhide HT)).mono ?_; rintro e w2 ⟨rfl, hb2⟩)
    go_ret
    exact ⟨rfl, (unhide HB).trans ((unhide hb2).mono (unhide HB).size)⟩
  · have hb' : ¬ (262144 : Int) < (l.length : Int) := by omega
    clear hbig
    have HE := hide (wrE_four op fin P Q l hP hQ)
    go_upto_region 3 with fail
    go_region_held3 (fun w' => w'.cell? ⟨w.heap.size, 0, none⟩ = some (.bool fin) ∧ w'.cell? ⟨w.heap.size, 1, none⟩ = some (.int .i64 op) ∧ w'.cell? ⟨w.heap.size, 2, none⟩ = some (.slice x l.length c)) (first | exact S2 | exact ⟨r0, r1, r2⟩ | go_keep) ((go_at_call 6; refine (wr4 fin op x c l _ P hP W.drew ((unhide HL).below ((Below.refl _ W).drew) (Nat.le_refl _)) ((unhide HBP).below ((Below.refl _ W).drew) (Nat.le_refl _))).mono ?_; rintro e w2 ⟨a2, c2, R1, rfl, HR1, HO2, hb2⟩; have HB2 : Hid (Below W.heap.size W w2) := ((Below.refl _ W).drew).trans (unhide hb2); have S2 : w2.cell? ⟨w.heap.size, 0, none⟩ = some (.bool fin) ∧ w2.cell? ⟨w.heap.size, 1, none⟩ = some (.int .i64 op) ∧ w2.cell? ⟨w.heap.size, 2, none⟩ = some (.slice x l.length c) := ⟨((unhide HB2).cell (show w.heap.size < W.heap.size by omega)).trans r0, ((unhide HB2).cell (show w.heap.size < W.heap.size by omega)).trans r1, ((unhide HB2).cell (show w.heap.size < W.heap.size by omega)).trans r2⟩; clear hb2))
    have HL2 := hide ((unhide HL).below (unhide HB2) (Nat.le_refl _))
    have HQ2 := hide ((unhide HBQ).below (unhide HB2) (Nat.le_refl _))
    have HT2 := hide ((unhide HT).below (unhide HB2) (unhide HT).big)
    have HA2 := hide ((unhide HB).trans ((unhide HB2).mono (unhide HB).size))
    have hz2 := (unhide HB2).size
    clear r0 r1 r2
    go_upto_region 4 with fail
    go_region_held3 (fun w' => w'.cell? ⟨w.heap.size, 0, none⟩ = some (.bool fin) ∧ w'.cell? ⟨w.heap.size, 1, none⟩ = some (.int .i64 op) ∧ w'.cell? ⟨w.heap.size, 2, none⟩ = some (.slice x l.length c)) (first | exact S3 | exact S2 | go_keep) ((go_at_call 6; refine (wr4 fin op x c l _ Q hQ w2.drew ((unhide HL2).below ((Below.refl _ w2).drew) (Nat.le_refl _)) ((unhide HQ2).below ((Below.refl _ w2).drew) (Nat.le_refl _))).mono ?_; rintro e w3 ⟨a3, c3, R2, rfl, HR2, HO3, hb3⟩; rw [← unhide HE]; have HB3 : Hid (Below w2.heap.size w2 w3) := ((Below.refl _ w2).drew).trans (unhide hb3); have S3 : w3.cell? ⟨w.heap.size, 0, none⟩ = some (.bool fin) ∧ w3.cell? ⟨w.heap.size, 1, none⟩ = some (.int .i64 op) ∧ w3.cell? ⟨w.heap.size, 2, none⟩ = some (.slice x l.length c) := ⟨((unhide HB3).cell (show w.heap.size < w2.heap.size by omega)).trans S2.1, ((unhide HB3).cell (show w.heap.size < w2.heap.size by omega)).trans S2.2.1, ((unhide HB3).cell (show w.heap.size < w2.heap.size by omega)).trans S2.2.2⟩; clear hb3))
    have HT3 := hide ((unhide HT2).below (unhide HB3) (unhide HT2).big)
    have HA3 := hide ((unhide HA2).trans ((unhide HB3).mono (unhide HA2).size))
    have HO23 := hide ((unhide HO2).toBs.below (unhide HB3) (Nat.le_refl _))
    clear S2 S3
    by_cases h0 : wrE op fin P l = 0
    · have HE0 := hide h0
      have HE1 : Hid (wrE op fin Q l = 0) := by show _ = _; rw [← unhide HE]; exact h0
      rw [h0]
      have hN : R1.length = R2.length := by rw [unhide HR1, unhide HR2]; exact wrR_len4 op fin P Q l hP hQ
      have hNN : ((R1.length : Int) == (R2.length : Int)) = true := by rw [hN]; exact beq_self_eq_true _
      clear h0 hN
      go_upto_region 8 with (go_at_call 7; refine (rd_wr4 op fin P l hP (unhide HE0) a2 c2 R1 (unhide HR1) _ (unhide HO23)).mono ?_; rintro e w4 ⟨a4, c4, rfl, HO4, hb4⟩)
      obtain ⟨W4, hW4⟩ : ∃ W4, W4 = w4.alloc (.cells #[.bool fin, .int .i64 op, .slice a4 l.length c4] 24) := ⟨_, rfl⟩
      have hB4 : Below w3.heap.size w3 W4 := by rw [hW4]; exact (unhide hb4).alloc (unhide hb4).size _
      have hB44 : Below w4.heap.size w4 W4 := by rw [hW4]; exact (Below.refl _ _).alloc (Nat.le_refl _) _
      have hF4 : W4.heap[w4.heap.size]? = some (.cells #[.bool fin, .int .i64 op, .slice a4 l.length c4] 24 (0, 0)) := by rw [hW4]; exact heap_alloc_new w4 _
      rw [← hW4]
      have HO34 := hide ((unhide HO3).toBs.below hB4 (Nat.le_refl _))
      have HO44 := hide ((unhide HO4).toBs.below hB44 (Nat.le_refl _))
      have HT4 := hide ((unhide HT3).below hB4 (unhide HT3).big)
      have HA4 := hide ((unhide HA3).trans (hB4.mono (unhide HA3).size))
      have hl4 : w4.heap.size < W4.heap.size := (Array.getElem?_eq_some_iff.1 hF4).1
      have HF4 := hide hF4
      clear hW4 hB4 hB44 hb4 hF4
      go_upto_region 9 with (go_at_call 7; refine (rd_wr4 op fin Q l hQ (unhide HE1) a3 c3 R2 (unhide HR2) _ (unhide HO34)).mono ?_; rintro e w5 ⟨a5, c5, rfl, HO5, hb5⟩)
      obtain ⟨W5, hW5⟩ : ∃ W5, W5 = w5.alloc (.cells #[.bool fin, .int .i64 op, .slice a5 l.length c5] 24) := ⟨_, rfl⟩
      have hB5 : Below W4.heap.size W4 W5 := by rw [hW5]; exact (unhide hb5).alloc (unhide hb5).size _
      have hB55 : Below w5.heap.size w5 W5 := by rw [hW5]; exact (Below.refl _ _).alloc (Nat.le_refl _) _
      have hF5 : W5.heap[w5.heap.size]? = some (.cells #[.bool fin, .int .i64 op, .slice a5 l.length c5] 24 (0, 0)) := by rw [hW5]; exact heap_alloc_new w5 _
      have hF45 : W5.heap[w4.heap.size]? = some (.cells #[.bool fin, .int .i64 op, .slice a4 l.length c4] 24 (0, 0)) := (hB5.block _ hl4).trans (unhide HF4)
      rw [← hW5]
      have HO45 := hide ((unhide HO44).below hB5 (Nat.le_refl _))
      have HO55 := hide ((unhide HO5).toBs.below hB55 (Nat.le_refl _))
      have HT5 := hide ((unhide HT4).below hB5 (unhide HT4).big)
      have HA5 := hide ((unhide HA4).trans (hB5.mono (unhide HA4).size))
      have r0 : W5.cell? ⟨w4.heap.size, 0, none⟩ = some (.bool fin) := by rw [cell_of_row W5 w4.heap.size 0 _ _ _ hF45]; rfl
      have r1 : W5.cell? ⟨w4.heap.size, 1, none⟩ = some (.int .i64 op) := by rw [cell_of_row W5 w4.heap.size 1 _ _ _ hF45]; rfl
      have r2 : W5.cell? ⟨w4.heap.size, 2, none⟩ = some (.slice a4 l.length c4) := by rw [cell_of_row W5 w4.heap.size 2 _ _ _ hF45]; rfl
      have s0 : W5.cell? ⟨w5.heap.size, 0, none⟩ = some (.bool fin) := by rw [cell_of_row W5 w5.heap.size 0 _ _ _ hF5]; rfl
      have s1 : W5.cell? ⟨w5.heap.size, 1, none⟩ = some (.int .i64 op) := by rw [cell_of_row W5 w5.heap.size 1 _ _ _ hF5]; rfl
      have s2 : W5.cell? ⟨w5.heap.size, 2, none⟩ = some (.slice a5 l.length c5) := by rw [cell_of_row W5 w5.heap.size 2 _ _ _ hF5]; rfl
      clear hW5 hB5 hB55 hb5 hF5 hF45 hl4
      go_wp2_with (first
        | (go_at_call 9; refine (same_eq fin op a4 c4 a5 c5 l W5 (unhide HO45) (unhide HO55)).mono ?_; rintro e w6 ⟨rfl, hb6⟩; have HT6 := hide ((unhide HT5).below (unhide hb6) (unhide HT5).big); have HA6 := hide ((unhide HA5).trans ((unhide hb6).mono (unhide HA5).size)))
        | (go_at_call 5; refine (awake9_any w6 (unhide HT6)).mono ?_; rintro e w7 ⟨rfl, hb7⟩))
      go_ret
      exact ⟨rfl, (unhide HA6).trans ((unhide hb7).mono (unhide HA6).size)⟩
    · obtain ⟨E, hE⟩ : ∃ E, wrE op fin P l = E := ⟨_, rfl⟩
      rw [hE] at h0 ⊢
      have e1 : (E != 0) = true := bne_iff_ne.2 h0
      have e2 : (E == E) = true := beq_self_eq_true _
      have e3 : (E != E) = false := by simp
      clear h0 hE
      go_wp2_with (go_at_call 5; refine (awake9_any _ (unhide HT3)).mono ?_; rintro e w4 ⟨rfl, hb4⟩)
      go_ret
      exact ⟨rfl, (unhide HA3).trans ((unhide hb4).mono (unhide HA3).size)⟩
theorem wsockMasks_walk (fin : Bool) (op : Int) (x : Option Addr) (c : Nat) (l : List UInt8) (P Q : List UInt8) (w : World) (hL : Bs w x c l) (hP : P.length = 4) (hQ : Q.length = 4) (hT : Tb w) :
    Calls Tryd.prog 4 #[.agg #[.bool fin, .int .i64 op, .slice x l.length c], .agg (bs P).toArray, .agg (bs Q).toArray] w fun e w' => e = .returned (.bool true) ∧ Below w.heap.size w w' :=
  masks_core fin op x c l P Q hP hQ w hL hT
#print axioms wsockMasks_walk
end Go.Proofs.YtednhfdopbpagaaDoor
