/-
  wsock: the document's Asks, whatever the request.
-/
import Derived.Test.YtegbcjfceooflaaDoorPkWptsax
import Derived.Test.YtegbcjfceooflaaDoorPkWptsav
import Derived.Test.YtegbcjfceooflaaDoorPkWptsbh
section
set_option linter.unusedVariables false
set_option maxRecDepth 1000000
namespace Go.Proofs.YtegbcjfceooflaaDoor
open Go.RowKit

theorem only_one (nm : List UInt8) (H : List Hd) (h : (vals nm H).length = 1) : only nm H = lastv (vals nm H) := by
  obtain ⟨x, hx⟩ := List.length_eq_one_iff.1 h
  unfold only lastv
  rw [if_pos h, hx]; rfl
theorem only_not (nm : List UInt8) (H : List Hd) (h : ¬ (vals nm H).length = 1) : only nm H = [] := by
  unfold only
  rw [if_neg h]
theorem okA_ref (m : ByteArray) (yn : Nat) (H : List Hd) : okA m yn H = ((m.toList == [71, 69, 84]) && (((yn : Int) == 0) && (decide ((vals wUp H).length = 1) && (decide ((vals wVer H).length = 1) && (decide ((vals wKey H).length = 1) && (upH H && ((sm (lastv (vals wUp H)) == wWs) && ((lastv (vals wVer H) == w13) && krB (lastv (vals wKey H)))))))))) := by
  unfold okA
  by_cases h1 : (vals wUp H).length = 1
  · by_cases h2 : (vals wVer H).length = 1
    · by_cases h3 : (vals wKey H).length = 1
      · rw [only_one _ _ h1, only_one _ _ h2, only_one _ _ h3, decide_eq_true h1, decide_eq_true h2, decide_eq_true h3, kp_kr]
        simp only [Bool.true_and]
        generalize (m.toList == [71, 69, 84]) = a, ((yn : Int) == 0) = b, (sm (lastv (vals wUp H)) == wWs) = c, upH H = d, (lastv (vals wVer H) == w13) = e, krB (lastv (vals wKey H)) = f
        cases a <;> cases b <;> cases c <;> cases d <;> cases e <;> cases f <;> rfl
      · rw [only_not _ _ h3, decide_eq_false h3, show kpB [] = false from by decide]
        simp
    · rw [only_not _ _ h2, decide_eq_false h2, show (([] : List UInt8) == w13) = false from by decide]
      simp
  · rw [only_not _ _ h1, decide_eq_false h1, show (sm [] == wWs) = false from by decide]
    simp
theorem anA_ref (m : ByteArray) (yn : Nat) (H : List Hd) (h : okA m yn H = true) : anA m yn H = lastv (vals wKey H) := by
  unfold anA
  rw [if_pos h]
  rw [okA_ref] at h
  simp only [Bool.and_eq_true, decide_eq_true_eq] at h
  exact only_one _ _ h.2.2.2.2.1
theorem lastv_len (nm : List UInt8) (H : List Hd) (hS : HdS H) : (lastv (vals nm H)).length ≤ 1000000 := by
  unfold lastv
  cases e : (vals nm H).getLast? with
  | none => simp
  | some x =>
    have hm : x ∈ vals nm H := List.mem_of_getLast? e
    unfold vals at hm
    obtain ⟨p, hp, e2⟩ := List.mem_map.1 hm
    have hp2 := (List.mem_filter.1 hp).1
    obtain ⟨t, ht, rfl⟩ := List.getElem_of_mem hp2
    have := (hS t H[t] (List.getElem?_eq_getElem ht)).2
    simp only [Option.getD_some]
    rw [← e2]
    exact this
theorem up_step (H : List Hd) (k : Nat) (d : Hd) (hd : H[k]? = some d) : (valsTo wC H (k + 1)).any hasU = ((valsTo wC H k).any hasU || ((sm d.1 == wC) && hasU d.2)) := by
  rw [vals_step wC H k d hd]
  by_cases h : sm d.1 = wC
  · rw [if_pos h, h, List.any_append]; simp
  · rw [if_neg h, show (sm d.1 == wC) = false by simpa using h]; simp

set_option maxHeartbeats 8000000 in
theorem rasks_any (m q : ByteArray) (p : Option Addr) (cp : Nat) (H : List Hd) (y : Option Addr) (yn yc : Nat) (w : World) (h : HdR w p H) (hS : HdS H) (hl : H.length ≤ 1000000) :
    Calls Tryd.prog 11 #[.agg #[.string m, .string q, .slice p H.length cp, .slice y yn yc]] w fun e w' => e = .returned (.tuple #[.string (str (anA m yn H)), .bool (okA m yn H)]) ∧ Hid (Below w.heap.size w w') := by
  obtain ⟨W, hW⟩ : ∃ W, W = w.alloc (.cells #[.string m, .string q, .slice p H.length cp, .slice y yn yc] 25) := ⟨_, rfl⟩
  have hB : Below w.heap.size w W := by rw [hW]; exact (Below.refl _ _).alloc (Nat.le_refl _) _
  have hF : W.heap[w.heap.size]? = some (.cells #[.string m, .string q, .slice p H.length cp, .slice y yn yc] 25 (0, 0)) := by rw [hW]; exact heap_alloc_new w _
  have hg : w.heap.size < W.heap.size := (Array.getElem?_eq_some_iff.1 hF).1
  have r2 : W.cell? ⟨w.heap.size, 2, none⟩ = some (.slice p H.length cp) := by rw [cell_of_row W w.heap.size 2 _ _ _ hF]; rfl
  have HA : Hid (AkF W W w.heap.size m q p H.length cp y yn yc) := ⟨Below.refl _ _, by rw [cell_of_row W w.heap.size 0 _ _ _ hF]; rfl, r2, by rw [cell_of_row W w.heap.size 3 _ _ _ hF]; rfl⟩
  have HH : Hid (HdR W p H) := h.below hB (Nat.le_refl _)
  have HSS := hide hS
  have HB := hide hB
  have l1 := lastv_len wUp H hS
  have l2 := lastv_len wVer H hS
  have l3 := lastv_len wKey H hS
  have HO0 := hide (okA_ref m yn H)
  have HA0 : Hid (okA m yn H = true → anA m yn H = lastv (vals wKey H)) := anA_ref m yn H
  have HA1 : Hid (okA m yn H = false → anA m yn H = []) := fun h => by unfold anA; rw [h]; rfl
  generalize okA m yn H = ok at HO0 HA0 HA1 ⊢
  generalize anA m yn H = an at HA0 HA1 ⊢
  clear hF h hS hB
  go_enter Tryd.func11, Tryd.ntmps11
  go_upto_region 1 with fail
  rw [← hW]
  clear hW
  go_upto_region 2 with (go_at_call 25; refine (rjust_any wUp p cp H W (unhide HH) (unhide HSS) hl).mono ?_; rintro e w1 ⟨rfl, hb1⟩)
  have HK1 := hide ((unhide HA).go hg (unhide hb1))
  clear r2 HA
  have r2 := (unhide HK1).c2
  go_upto_region 3 with (go_at_call 25; refine (rjust_any wVer p cp H w1 ((unhide HH).below (unhide HK1).below (Nat.le_refl _)) (unhide HSS) hl).mono ?_; rintro e w2 ⟨rfl, hb2⟩)
  have HK2 := hide ((unhide HK1).go hg (unhide hb2))
  clear r2 HK1
  have r2 := (unhide HK2).c2
  go_upto_region 4 with (go_at_call 25; refine (rjust_any wKey p cp H w2 ((unhide HH).below (unhide HK2).below (Nat.le_refl _)) (unhide HSS) hl).mono ?_; rintro e w3 ⟨rfl, hb3⟩)
  have HK3 := hide ((unhide HK2).go hg (unhide hb3))
  clear r2 HK2 hb1 hb2 hb3
  have r2 := (unhide HK3).c2
  obtain ⟨B3, hB3⟩ : ∃ b, (sm (lastv (vals wUp H)) == wWs) = b := ⟨_, rfl⟩
  obtain ⟨B5, hB5⟩ : ∃ b, (lastv (vals wVer H) == w13) = b := ⟨_, rfl⟩
  obtain ⟨B6, hB6⟩ : ∃ b, krB (lastv (vals wKey H)) = b := ⟨_, rfl⟩
  have HKE := hide (fun wx => rkey_any (lastv (vals wKey H)) wx l3)
  obtain ⟨N3, hN3⟩ : ∃ b, B3 = !b := ⟨!B3, by simp⟩
  obtain ⟨N5, hN5⟩ : ∃ b, B5 = !b := ⟨!B5, by simp⟩
  have q3 : ((str (sm (lastv (vals wUp H)))).toList != [119, 101, 98, 115, 111, 99, 107, 101, 116]) = N3 := by rw [toList_str]; show (!(_ == wWs)) = _; rw [hB3, hN3]; simp
  have q5 : ((str (lastv (vals wVer H))).toList != [49, 51]) = N5 := by rw [toList_str]; show (!(_ == w13)) = _; rw [hB5, hN5]; simp
  rw [hB3, hB5, hB6, hN3, hN5] at HO0
  simp only [hB6] at HKE
  clear hB3 hB5 hB6 hN3 hN5 B3 B5
  generalize lastv (vals wUp H) = v1 at l1 q3 ⊢
  generalize lastv (vals wVer H) = v2 at l2 q5 ⊢
  generalize lastv (vals wKey H) = v3 at l3 HKE HA0 ⊢
  generalize decide ((vals wUp H).length = 1) = fa at HO0 ⊢
  generalize decide ((vals wVer H).length = 1) = fb at HO0 ⊢
  generalize decide ((vals wKey H).length = 1) = fc at HO0 ⊢
  go_wp2_with fail
  clear r2
  go_loopw [10, 34] (fun dv i wr => ∃ k : Nat, k ≤ H.length ∧ i = .int .i64 (k : Int) ∧ ∃ d : Bool, dv = .bool d ∧ Hid (d = (valsTo wC H k).any hasU) ∧ Hid (AkF W wr w.heap.size m q p H.length cp y yn yc)) (fun _ i _ => H.length - (intOf i).toNat)
  case atStart => exact ⟨0, Nat.zero_le _, rfl, false, rfl, rfl, HK3⟩
  case round =>
    clear HK3
    obtain ⟨k, hk, rfl, d, rfl, HD, HK3⟩ := hrel
    by_cases hlt : k < H.length
    · obtain ⟨x, hx⟩ : ∃ x, H[k]? = some x := ⟨_, List.getElem?_eq_getElem hlt⟩
      obtain ⟨b, off, hpe, hc⟩ := ((unhide HH).below (unhide HK3).below (Nat.le_refl _)).mem (by intro e; subst e; simp at hx)
      obtain ⟨c0, c1⟩ := hc k x hx
      have hs := unhide HSS k x hx
      have HST := hide (up_step H k x hx)
      have hlt' : (k : Int) < (H.length : Int) := by omega
      obtain ⟨wd, hwd⟩ : ∃ wd, wd = wr.alloc (.cells #[.string (str x.1), .string (str x.2)] 40) := ⟨_, rfl⟩
      have hbd : Below wr.heap.size wr wd := by rw [hwd]; exact (Below.refl _ _).alloc (Nat.le_refl _) _
      have hZ : wd.heap[wr.heap.size]? = some (.cells #[.string (str x.1), .string (str x.2)] 40 (0, 0)) := by rw [hwd]; exact heap_alloc_new wr _
      have z0 : wd.cell? ⟨wr.heap.size, 0, none⟩ = some (.string (str x.1)) := by rw [cell_of_row wd wr.heap.size 0 _ _ _ hZ]; rfl
      have HZ := hide hZ
      have HKd := hide ((unhide HK3).go hg hbd)
      have hwl : wr.heap.size < wd.heap.size := (Array.getElem?_eq_some_iff.1 hZ).1
      clear hc hx hbd hZ HK3
      subst hpe
      go_upto_region 8 with fail
      rw [← hwd]
      clear hwd c0 c1
      cases d with
      | true =>
        have HD2 : Hid (true = (valsTo wC H (k + 1)).any hasU) := by show _ = _; rw [unhide HST, ← unhide HD]; rfl
        go_wp2_with fail
        go_roundw
        case rel => exact ⟨k + 1, by omega, by go_num, true, rfl, HD2, HKd⟩
        case measure => simp [intOf]; omega
      | false =>
        obtain ⟨Q, hQ⟩ : ∃ b, (sm x.1 == wC) = b := ⟨_, rfl⟩
        have hQ2 : ((str (sm x.1)).toList == [99, 111, 110, 110, 101, 99, 116, 105, 111, 110]) = Q := by rw [toList_str]; exact hQ
        rw [hQ] at HST
        clear hQ
        cases Q with
        | false =>
          have HD2 : Hid (false = (valsTo wC H (k + 1)).any hasU) := by show _ = _; rw [unhide HST, ← unhide HD]; rfl
          go_wp2_with (go_at_call 26; refine (rsmall_any x.1 wd hs.1).mono ?_; rintro e w4 ⟨rfl, hb4⟩)
          have HK4 := hide ((unhide HKd).go hg hb4)
          go_roundw
          case rel => exact ⟨k + 1, by omega, by go_num, false, rfl, HD2, HK4⟩
          case measure => simp [intOf]; omega
        | true =>
          have HD2 : Hid (hasU x.2 = (valsTo wC H (k + 1)).any hasU) := by show _ = _; rw [unhide HST, ← unhide HD]; rfl
          go_wp2_with (first
            | (go_at_call 26; refine (rsmall_any x.1 wd hs.1).mono ?_; rintro e w4 ⟨rfl, hb4⟩; have z1 : w4.cell? ⟨wr.heap.size, 1, none⟩ = some (.string (str x.2)) := (by rw [cell_of_row w4 wr.heap.size 1 _ _ _ ((hb4.block _ hwl).trans (unhide HZ))]; rfl))
            | (go_at_call 27; refine (rlisted_any x.2 w4 hs.2).mono ?_; rintro e w5 ⟨rfl, hb5⟩))
          have HK5 := hide (((unhide HKd).go hg hb4).go hg (unhide hb5))
          go_roundw
          case rel => exact ⟨k + 1, by omega, by go_num, hasU x.2, rfl, HD2, HK5⟩
          case measure => simp [intOf]; omega
    · have hlt' : ¬ (k : Int) < (H.length : Int) := by omega
      have HD2 : Hid (d = upH H) := by
        show _ = _
        rw [unhide HD]
        unfold valsTo upH
        rw [List.take_of_length_le (by omega)]
      rw [← unhide HD2] at HO0
      have r0 := (unhide HK3).c0
      have r3 := (unhide HK3).c3
      have HB3 : Hid (Below w.heap.size w wr) := (unhide HB).trans ((unhide HK3).below.mono (unhide HB).size)
      clear hlt HD HD2 HK3
      obtain ⟨B1, hB1⟩ : ∃ b, (m.toList == [71, 69, 84]) = b := ⟨_, rfl⟩
      obtain ⟨N1, hN1⟩ : ∃ b, B1 = !b := ⟨!B1, by simp⟩
      have hn1 : (m.toList != [71, 69, 84]) = N1 := by show (!_) = _; rw [hB1, hN1]; simp
      rw [hB1, hN1] at HO0
      obtain ⟨B2, hB2⟩ : ∃ b, ((yn : Int) == 0) = b := ⟨_, rfl⟩
      obtain ⟨N2, hN2⟩ : ∃ b, B2 = !b := ⟨!B2, by simp⟩
      have hn2 : decide ((0 : Int) < (yn : Int)) = N2 := by
        have : N2 = !((yn : Int) == 0) := by rw [hB2, hN2]; simp
        rw [this]
        by_cases e : yn = 0
        · subst e; rfl
        · rw [decide_eq_true (by omega), show ((yn : Int) == 0) = false by rw [beq_eq_false_iff_ne]; omega]; rfl
      rw [hB2, hN2] at HO0
      clear hB1 hB2 hN1 hN2 B1 B2
      have hfin : ∀ wx, ok = false → Below w.heap.size w wx → Ending.returned (.tuple #[.string ⟨#[]⟩, .bool false]) = Ending.returned (.tuple #[.string (str an), .bool ok]) ∧ Hid (Below w.heap.size w wx) := fun wx ho hb => ⟨by rw [unhide HA1 ho, ho]; rfl, hb⟩
      have HFIN := hide hfin
      clear hfin
      cases N1 with
      | true =>
        have p1 : ¬ m.toList = [71, 69, 84] := by simpa using hn1
        clear hn1
        have HF : Hid (ok = false) := by show _ = _; rw [unhide HO0]; rfl
        go_wp2_with fail
        go_ret2
        exact unhide HFIN _ (unhide HF) (unhide HB3)
      | false =>
      have p1 : m.toList = [71, 69, 84] := by simpa using hn1
      clear hn1
      cases N2 with
      | true =>
        have p2 : ¬ yn = 0 := by simp at hn2; omega
        clear hn2
        have HF : Hid (ok = false) := by show _ = _; rw [unhide HO0]; rfl
        go_wp2_with fail
        go_ret2
        exact unhide HFIN _ (unhide HF) (unhide HB3)
      | false =>
      have p2 : yn = 0 := by simp at hn2; omega
      clear hn2
      cases fa with
      | false =>
        have HF : Hid (ok = false) := by show _ = _; rw [unhide HO0]; rfl
        go_wp2_with fail
        go_ret2
        exact unhide HFIN _ (unhide HF) (unhide HB3)
      | true =>
      cases fb with
      | false =>
        have HF : Hid (ok = false) := by show _ = _; rw [unhide HO0]; rfl
        go_wp2_with fail
        go_ret2
        exact unhide HFIN _ (unhide HF) (unhide HB3)
      | true =>
      cases fc with
      | false =>
        have HF : Hid (ok = false) := by show _ = _; rw [unhide HO0]; rfl
        go_wp2_with fail
        go_ret2
        exact unhide HFIN _ (unhide HF) (unhide HB3)
      | true =>
      cases d with
      | false =>
        have HF : Hid (ok = false) := by show _ = _; rw [unhide HO0]; rfl
        go_wp2_with fail
        go_ret2
        exact unhide HFIN _ (unhide HF) (unhide HB3)
      | true =>
      cases N3 with
      | true =>
        have p3 : ¬ (str (sm v1)).toList = [119, 101, 98, 115, 111, 99, 107, 101, 116] := by simpa using q3
        clear q3
        have HF : Hid (ok = false) := by show _ = _; rw [unhide HO0]; rfl
        go_wp2_with (go_at_call 26; refine (rsmall_any v1 wr l1).mono ?_; rintro e w4 ⟨rfl, hb4⟩)
        go_ret2
        exact unhide HFIN _ (unhide HF) ((unhide HB3).trans (hb4.mono (unhide HB3).size))
      | false =>
      have p3 : (str (sm v1)).toList = [119, 101, 98, 115, 111, 99, 107, 101, 116] := by simpa using q3
      clear q3
      cases N5 with
      | true =>
        have p5 : ¬ (str v2).toList = [49, 51] := by simpa using q5
        clear q5
        have HF : Hid (ok = false) := by show _ = _; rw [unhide HO0]; rfl
        go_wp2_with (go_at_call 26; refine (rsmall_any v1 wr l1).mono ?_; rintro e w4 ⟨rfl, hb4⟩)
        go_ret2
        exact unhide HFIN _ (unhide HF) ((unhide HB3).trans (hb4.mono (unhide HB3).size))
      | false =>
      have p5 : (str v2).toList = [49, 51] := by simpa using q5
      clear q5
      cases B6 with
      | false =>
        have HF : Hid (ok = false) := by show _ = _; rw [unhide HO0]; rfl
        go_wp2_with (first
          | (go_at_call 26; refine (rsmall_any v1 wr l1).mono ?_; rintro e w4 ⟨rfl, hb4⟩)
          | (go_at_call 19; refine (unhide HKE w4).mono ?_; rintro e w5 ⟨rfl, hb5⟩))
        go_ret2
        have h4 := (unhide HB3).trans (hb4.mono (unhide HB3).size)
        exact unhide HFIN _ (unhide HF) (h4.trans ((unhide hb5).mono h4.size))
      | true =>
        have HF : Hid (ok = true) := by show _ = _; rw [unhide HO0]; rfl
        go_wp2_with (first
          | (go_at_call 26; refine (rsmall_any v1 wr l1).mono ?_; rintro e w4 ⟨rfl, hb4⟩)
          | (go_at_call 19; refine (unhide HKE w4).mono ?_; rintro e w5 ⟨rfl, hb5⟩))
        go_ret2
        have h4 := (unhide HB3).trans (hb4.mono (unhide HB3).size)
        exact ⟨by rw [unhide HA0 (unhide HF), unhide HF]; rfl, h4.trans ((unhide hb5).mono h4.size)⟩
#print axioms rasks_any
end Go.Proofs.YtegbcjfceooflaaDoor
end
