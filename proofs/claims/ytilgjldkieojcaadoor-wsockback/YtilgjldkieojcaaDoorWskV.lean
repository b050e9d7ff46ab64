/-
  WsockBack: THE WALK.
-/
import Derived.Test.YtilgjldkieojcaaDoorWskT
import Derived.Test.YtilgjldkieojcaaDoorCat
import Derived.Deep.RegionHeld3
set_option linter.unusedVariables false
set_option maxRecDepth 1000000
namespace Go.Proofs.YtilgjldkieojcaaDoor
open Go.RowKit

/-- Read of a shorter beginning of what Write wrote. -/
theorem rd_wr_cut (op : Int) (fin : Bool) (P l : List UInt8) (hE : wrE op fin P l = 0) (a : Option Addr) (c : Nat) (J : Nat) (hJ : J < (wrR op fin P l).length) (r : List UInt8) (hr : r = (wrR op fin P l).take J) (N : Nat) (hN : N = r.length) (w : World) (hB : Bs w a c r) :
    Calls Tryd.prog 7 #[.slice a N c, .bool (decide (P.length = 4))] w fun e w' => e = .returned (.tuple #[.agg #[.bool false, .int .i64 0, .slice none 0 0], .int .i64 0, .int .i64 1]) ∧ Hid (Below w.heap.size w w') := by
  obtain ⟨hm, hmay, hl⟩ := wrE_zero hE
  obtain ⟨n, rfl, hn⟩ := mayB_op hmay
  rw [wrR_zero hE, Int.toNat_natCast] at hr hJ
  subst hN
  have hy := rd_cut n fin P l J hn hm hmay hl hJ
  rw [← hr] at hy
  refine (rd_any a c r (decide (P.length = 4)) w hB).mono ?_
  rintro e w' ⟨hb, ⟨_, rfl⟩ | ⟨hy', _⟩⟩
  · rw [hy]
    exact ⟨rfl, hb⟩
  · rw [hy] at hy'
    exact absurd (unhide hy') (by omega)
/-- Read of what Write wrote, where the mask is not as it must be. -/
theorem rd_wr_other (op : Int) (fin : Bool) (P l : List UInt8) (hE : wrE op fin P l = 0) (a : Option Addr) (c : Nat) (r : List UInt8) (hr : r = wrR op fin P l) (w : World) (hB : Bs w a c r) :
    Calls Tryd.prog 7 #[.slice a r.length c, .bool (!decide (P.length = 4))] w fun e w' => e = .returned (.tuple #[.agg #[.bool false, .int .i64 0, .slice none 0 0], .int .i64 0, .int .i64 1002]) ∧ Hid (Below w.heap.size w w') := by
  obtain ⟨hm, hmay, hl⟩ := wrE_zero hE
  obtain ⟨n, rfl, hn⟩ := mayB_op hmay
  rw [wrR_zero hE, Int.toNat_natCast] at hr
  have hy := rd_other n fin P l hn hm hmay hl
  rw [← hr] at hy
  refine (rd_any a c r (!decide (P.length = 4)) w hB).mono ?_
  rintro e w' ⟨hb, ⟨_, rfl⟩ | ⟨hy', _⟩⟩
  · rw [hy]
    exact ⟨rfl, hb⟩
  · rw [hy] at hy'
    exact absurd (unhide hy') (by omega)
theorem wrR_bad {op : Int} {fin : Bool} {P l : List UInt8} (h : wrE op fin P l ≠ 0) : wrR op fin P l = [] := by unfold wrR; rw [if_neg h]
theorem modlen (k : Int) (n : Nat) (h0 : 0 < n) (h1 : n ≤ 1000000000) : ∃ J : Nat, J < n ∧ wrap64 ((IntKind.u64.wrap k).tmod (n : Int)) = (J : Int) := by
  have e : IntKind.u64.wrap k = k % 18446744073709551616 := by simp [IntKind.wrap, IntKind.bits, IntKind.signed]
  have h2 : 0 ≤ k % 18446744073709551616 := Int.emod_nonneg _ (by omega)
  have e2 : (k % 18446744073709551616).tmod (n : Int) = k % 18446744073709551616 % (n : Int) := Int.tmod_eq_emod_of_nonneg h2
  have h3 : 0 ≤ k % 18446744073709551616 % (n : Int) := Int.emod_nonneg _ (by omega)
  have h4 : k % 18446744073709551616 % (n : Int) < (n : Int) := Int.emod_lt_of_pos _ (by omega)
  refine ⟨(k % 18446744073709551616 % (n : Int)).toNat, by omega, ?_⟩
  rw [e, e2, IntWalk.wrap64_in _ (by omega)]
  omega

theorem below_alloc_on {w v u : World} {o : Obj} (h : Below w.heap.size w v) (h2 : Below (v.alloc o).heap.size (v.alloc o) u) : Below w.heap.size w u := by
  have h1 : Below w.heap.size w (v.alloc o) := h.alloc h.size _
  exact h1.trans (h2.mono h1.size)

set_option maxHeartbeats 2000000 in
theorem wsockBack_walk (fin : Bool) (op : Int) (x : Option Addr) (c : Nat) (l : List UInt8) (b : Option Addr) (cb : Nat) (m : List UInt8) (y : Option Addr) (cy : Nat) (z : List UInt8) (k : Int) (w : World) (hL : Bs w x c l) (hM : Bs w b cb m) (hZ : Bs w y cy z) (hT : Tb w) :
    Calls Tryd.prog 3 #[.agg #[.bool fin, .int .i64 op, .slice x l.length c], .slice b m.length cb, .slice y z.length cy, .int .i64 k] w fun e w' => e = .returned (.bool true) ∧ Below w.heap.size w w' := by
  have hle := hL.le
  have hmost := hL.most
  have hmle := hM.le
  have hmmost := hM.most
  have hzle := hZ.le
  have hzmost := hZ.most
  unfold maxLen at hmost hmmost hzmost
  obtain ⟨W, hW⟩ : ∃ W, W = w.alloc (.cells #[.bool fin, .int .i64 op, .slice x l.length c] 24) := ⟨_, rfl⟩
  have hB : Below w.heap.size w W := by rw [hW]; exact (Below.refl _ _).alloc (Nat.le_refl _) _
  have hF : W.heap[w.heap.size]? = some (.cells #[.bool fin, .int .i64 op, .slice x l.length c] 24 (0, 0)) := by rw [hW]; exact heap_alloc_new w _
  have hsz : W.heap.size = w.heap.size + 1 := by rw [hW]; simp
  have r0 : W.cell? ⟨w.heap.size, 0, none⟩ = some (.bool fin) := by rw [cell_of_row W w.heap.size 0 _ _ _ hF]; rfl
  have r1 : W.cell? ⟨w.heap.size, 1, none⟩ = some (.int .i64 op) := by rw [cell_of_row W w.heap.size 1 _ _ _ hF]; rfl
  have r2 : W.cell? ⟨w.heap.size, 2, none⟩ = some (.slice x l.length c) := by rw [cell_of_row W w.heap.size 2 _ _ _ hF]; rfl
  have HF := hide hF
  have HL := hide (hL.below hB (Nat.le_refl _))
  have HM := hide (hM.below hB (Nat.le_refl _))
  have HZ := hide (hZ.below hB (Nat.le_refl _))
  have HT := hide (hT.below hB hT.big)
  have HB := hide hB
  clear hB hL hM hZ hT hF
  go_enter Tryd.func3, Tryd.ntmps3
  go_upto_region 1 with fail
  rw [← hW]
  clear hW
  by_cases hbig : 262144 < l.length
  · have hb' : (262144 : Int) < (l.length : Int) := by omega
    clear hbig
    go_wp2_with (go_at_call 5; refine (awake9_any W (unhide HT)).mono ?_; rintro e w2 ⟨rfl, hb2⟩)
    go_ret
    exact ⟨rfl, (unhide HB).trans ((unhide hb2).mono (unhide HB).size)⟩
  have hb' : ¬ (262144 : Int) < (l.length : Int) := by omega
  by_cases hbigz : 262144 < z.length
  · have hb'' : (262144 : Int) < (z.length : Int) := by omega
    clear hbig hbigz
    go_wp2_with (go_at_call 5; refine (awake9_any W (unhide HT)).mono ?_; rintro e w2 ⟨rfl, hb2⟩)
    go_ret
    exact ⟨rfl, (unhide HB).trans ((unhide hb2).mono (unhide HB).size)⟩
  have hb'' : ¬ (262144 : Int) < (z.length : Int) := by omega
  clear hbig hbigz
  go_upto_region 4 with (go_at_call 6; refine (write_any op fin x c l b cb m W (unhide HL) (unhide HM)).mono ?_; rintro e w2 ⟨a2, c2, R, rfl, HR, HO2, HB2⟩)
  have HF2 := hide (((unhide HB2).block _ (show w.heap.size < W.heap.size by omega)).trans (unhide HF))
  have HL2 := hide ((unhide HL).below (unhide HB2) (Nat.le_refl _))
  have HZ2 := hide ((unhide HZ).below (unhide HB2) (Nat.le_refl _))
  have HT2 := hide ((unhide HT).below (unhide HB2) (unhide HT).big)
  have HA2 := hide ((unhide HB).trans ((unhide HB2).mono (unhide HB).size))
  have hz2 := (unhide HB2).size
  have HOs := hide (unhide HO2).toBs
  clear r0 r1 r2
  by_cases h0 : wrE op fin m l = 0
  · have HE0 := hide h0
    have hmm : m.length ≤ 4 := by
      rcases (wrE_zero h0).1 with h | h
      · rw [h]; simp
      · omega
    have hRl : R.length ≤ 300000 ∧ 0 < R.length := by
      rw [unhide HR, wrR_zero h0, wrB_len]
      split <;> omega
    have hR1 := hRl.1
    have hR2 := hRl.2
    clear hRl
    rw [h0]
    clear h0
    obtain ⟨J, hJ1, hJ2⟩ := modlen k R.length hR2 (by omega)
    have hne : ¬ ((R.length : Int) = 0) := by omega
    have hdm : ((m.length : Int) == 4) = decide (m.length = 4) := by by_cases h : m.length = 4 <;> simp [h] <;> omega
    have hdn : ((m.length : Int) != 4) = !decide (m.length = 4) := by by_cases h : m.length = 4 <;> simp [h] <;> omega
    obtain ⟨W3, hW3⟩ : ∃ W3, W3 = w2.alloc (.cells #[.slice a2 R.length c2, .slice y z.length cy] 22) := ⟨_, rfl⟩
    have hB3 : Below w2.heap.size w2 W3 := by rw [hW3]; exact (Below.refl _ _).alloc (Nat.le_refl _) _
    have v1 : W3.cell? ⟨w2.heap.size, 0, none⟩ = some (.slice a2 R.length c2) := by rw [hW3]; simp
    have v2 : W3.cell? ⟨w2.heap.size, 1, none⟩ = some (.slice y z.length cy) := by rw [hW3]; simp
    have HC3 := hide (concat_two w2.heap.size a2 c2 R y cy z W3 ((unhide HOs).below hB3 (Nat.le_refl _)) ((unhide HZ2).below hB3 (Nat.le_refl _)) v1 v2 (by omega) (by omega))
    have HB3 := hide hB3
    have HW3 := hide hW3
    clear hW3 hB3 v1 v2
    go_upto_region 7 with (first
      | (go_at_call 8; rw [← unhide HW3]; refine (unhide HC3).mono ?_; rintro e w3 ⟨a3, c3, Q, rfl, HQ, HO3, hb3⟩; have HQ3 : Hid (Q = wrR op fin m l ++ z) := by { show _ = _; rw [← unhide HR]; exact unhide HQ }; have HO33 := hide HO3.toBs; have HB33 := hide hb3; clear HO3 hb3)
      | (go_at_call 7; (try rw [hdm]); refine (rd_wr op fin m l z (unhide HE0) a3 c3 Q (unhide HQ3) _ (unhide HO33)).mono ?_; rw [← unhide HR]; rintro e w4 ⟨a4, c4, rfl, HO4, hb4⟩))
    obtain ⟨W4, hW4⟩ : ∃ W4, W4 = w4.alloc (.cells #[.bool fin, .int .i64 op, .slice a4 l.length c4] 24) := ⟨_, rfl⟩
    have hB4 : Below w2.heap.size w2 W4 := by rw [hW4]; have h1 := (unhide HB3).trans ((unhide HB33).mono (unhide HB3).size); have h2 := h1.trans ((unhide hb4).mono h1.size); exact h2.alloc h2.size _
    have hB44 : Below w4.heap.size w4 W4 := by rw [hW4]; exact (Below.refl _ _).alloc (Nat.le_refl _) _
    have hF4 : W4.heap[w4.heap.size]? = some (.cells #[.bool fin, .int .i64 op, .slice a4 l.length c4] 24 (0, 0)) := by rw [hW4]; exact heap_alloc_new w4 _
    have hF24 := (hB4.block _ (show w.heap.size < w2.heap.size by omega)).trans (unhide HF2)
    rw [← hW4]
    have HO44 := hide ((unhide HO4).toBs.below hB44 (Nat.le_refl _))
    have HL4 := hide ((unhide HL2).below hB4 (Nat.le_refl _))
    have HR4 := hide ((unhide HOs).below hB4 (Nat.le_refl _))
    have HT4 := hide ((unhide HT2).below hB4 (unhide HT2).big)
    have HA4 := hide ((unhide HA2).trans (hB4.mono (unhide HA2).size))
    have r0 : W4.cell? ⟨w4.heap.size, 0, none⟩ = some (.bool fin) := by rw [cell_of_row W4 w4.heap.size 0 _ _ _ hF4]; rfl
    have r1 : W4.cell? ⟨w4.heap.size, 1, none⟩ = some (.int .i64 op) := by rw [cell_of_row W4 w4.heap.size 1 _ _ _ hF4]; rfl
    have r2 : W4.cell? ⟨w4.heap.size, 2, none⟩ = some (.slice a4 l.length c4) := by rw [cell_of_row W4 w4.heap.size 2 _ _ _ hF4]; rfl
    have s0 : W4.cell? ⟨w.heap.size, 0, none⟩ = some (.bool fin) := by rw [cell_of_row W4 w.heap.size 0 _ _ _ hF24]; rfl
    have s1 : W4.cell? ⟨w.heap.size, 1, none⟩ = some (.int .i64 op) := by rw [cell_of_row W4 w.heap.size 1 _ _ _ hF24]; rfl
    have s2 : W4.cell? ⟨w.heap.size, 2, none⟩ = some (.slice x l.length c) := by rw [cell_of_row W4 w.heap.size 2 _ _ _ hF24]; rfl
    clear hW4 hB4 hB44 hb4 hF4 hF24
    go_upto_region 9 with (go_at_call 9; refine (same_eq fin op a4 c4 x c l W4 (unhide HO44) (unhide HL4)).mono ?_; rintro e w5 ⟨rfl, hb5⟩; have HR5 := hide ((unhide HR4).below (unhide hb5) (Nat.le_refl _)); have HT5 := hide ((unhide HT4).below (unhide hb5) (unhide HT4).big); have HA5 := hide ((unhide HA4).trans ((unhide hb5).mono (unhide HA4).size)))
    clear r0 r1 r2 s0 s1 s2
    obtain ⟨ah, hh, hhB, -⟩ := cut_head a2 R.length c2 J R (by omega) (unhide HR5).le (fun h => by obtain ⟨b, off, e, _⟩ := (unhide HR5).row h; exact ⟨b, off, e⟩)
    have HH := hide (hhB w5 (unhide HR5))
    have hJR : J < (wrR op fin m l).length := by rw [← unhide HR]; exact hJ1
    have HTk : Hid (R.take J = (wrR op fin m l).take J) := by show _ = _; rw [unhide HR]
    clear hhB
    go_upto_region 10 with (go_at_call 7; (try rw [hdm]); refine (rd_wr_cut op fin m l (unhide HE0) ah c2 J hJR (R.take J) (unhide HTk) J (by rw [List.length_take]; omega) _ (unhide HH)).mono ?_; rintro e w6 ⟨rfl, hb6⟩; have HR6 := hide ((unhide HR5).below (unhide hb6) (Nat.le_refl _)); have HT6 := hide ((unhide HT5).below (unhide hb6) (unhide HT5).big); have HA6 := hide ((unhide HA5).trans ((unhide hb6).mono (unhide HA5).size)))
    go_upto_region 11 with (go_at_call 7; (try rw [hdn]); refine (rd_wr_other op fin m l (unhide HE0) a2 c2 R (unhide HR) _ (unhide HR6)).mono ?_; rintro e w7 ⟨rfl, hb7⟩; have HT7 := hide ((unhide HT6).below (unhide hb7) (unhide HT6).big); have HA7 := hide ((unhide HA6).trans ((unhide hb7).mono (unhide HA6).size)))
    go_wp2_with (go_at_call 5; refine (awake9_any _ ((unhide HT7).below ((Below.refl _ _).alloc (Nat.le_refl _) _) (unhide HT7).big)).mono ?_; rintro e w8 ⟨rfl, hb8⟩)
    go_ret
    exact ⟨rfl, below_alloc_on (unhide HA7) (unhide hb8)⟩
  · obtain ⟨E, hE⟩ : ∃ E, wrE op fin m l = E := ⟨_, rfl⟩
    have hR0 : R.length = 0 := by rw [unhide HR, wrR_bad h0]; rfl
    rw [hE] at h0 ⊢
    rw [hR0]
    have e1 : (E != 0) = true := bne_iff_ne.2 h0
    clear h0 hE hR0
    go_wp2_with (go_at_call 5; refine (awake9_any _ (unhide HT2)).mono ?_; rintro e w4 ⟨rfl, hb4⟩)
    go_ret
    exact ⟨rfl, (unhide HA2).trans ((unhide hb4).mono (unhide HA2).size)⟩
#print axioms wsockBack_walk
end Go.Proofs.YtilgjldkieojcaaDoor
