/-
  httpd: readHeaders, whatever the lines.
-/
import Derived.Test.YthkadboeokgjnacGreatDoorHhE
set_option linter.unusedVariables false
set_option maxRecDepth 1000000
namespace Go.Proofs.YthkadboeokgjnacGreatDoor
open Go.RowKit

theorem rhM_step (L : List (List UInt8)) (k : Nat) (x : List UInt8) (acc : List Hd) (h : L[k]? = some x) : rhM (L.drop k) acc = if acc.length = 32 then ([], 431) else match fldM x with | some h => rhM (L.drop (k + 1)) (acc ++ [h]) | none => ([], 400) := by
  have hlt := (List.getElem?_eq_some_iff.1 h).1
  have hx : L[k] = x := by rw [List.getElem?_eq_getElem hlt] at h; exact Option.some.inj h
  rw [List.drop_eq_getElem_cons hlt, hx]
  rfl
set_option maxHeartbeats 8000000 in
theorem readHeaders_any (p : Option Addr) (cp : Nat) (L : List (List UInt8)) (w : World) (h : NsO w p L) (hx : ∀ x ∈ L, x.length ≤ 1000000) (hl : L.length ≤ 1000001) (hm : Mx w) :
    Calls Tryz.prog 30 #[.slice p L.length cp] w fun e w' => ∃ a c, e = .returned (.tuple #[.slice a (rhM L []).1.length c, .int .i64 ((rhM L []).2 : Int)]) ∧ Hid (OwnH w' w.heap.size a c (rhM L []).1) ∧ Hid (Below w.heap.size w w') := by
  have HH := hide h
  have HX := hide hx
  have HM := hide hm
  obtain ⟨T, hT⟩ : ∃ T, rhM L [] = T := ⟨_, rfl⟩
  have HT0 : Hid (T = rhM (L.drop 0) []) := by show _ = _; rw [← hT]; rfl
  rw [hT]
  clear h hx hm hT
  go_enter Tryz.func30, Tryz.ntmps30
  go_wp2
  go_loopw [4, 12] (fun v i wr => ∃ k : Nat, k ≤ L.length ∧ i = .int .i64 (k : Int) ∧ ∃ (a : Option Addr) (c : Nat) (acc : List Hd), v = .slice a acc.length c ∧ acc.length ≤ 32 ∧ Hid (T = rhM (L.drop k) acc) ∧ Hid (OwnH wr w.heap.size a c acc) ∧ Hid (Below w.heap.size w wr)) (fun _ i _ => L.length - (intOf i).toNat)
  case atStart => exact ⟨0, Nat.zero_le _, rfl, none, 0, [], rfl, by decide, HT0, OwnH.nil _ _, Below.refl _ _⟩
  case round =>
    clear HT0
    obtain ⟨k, hk, rfl, a, c, acc, rfl, hacc, HT, HO, HB⟩ := hrel
    by_cases hlt : k < L.length
    · have hlt' : (k : Int) < (L.length : Int) := by omega
      obtain ⟨x, hx⟩ : ∃ x, L[k]? = some x := ⟨_, List.getElem?_eq_getElem hlt⟩
      obtain ⟨b, off, hpe, hc⟩ := ((unhide HH).below (unhide HB) (Nat.le_refl _)).mem (by intro e; subst e; simp at hx)
      subst hpe
      have c0 := hc k x hx
      have hxl : x.length ≤ 1000000 := unhide HX x (List.mem_of_getElem? hx)
      have HST := hide (rhM_step L k x acc hx)
      clear hc hx
      by_cases h32 : acc.length = 32
      · have h32' : ((acc.length : Int) == 32) = true := by rw [h32]; rfl
        have HR : Hid (T = ([], 431)) := by show _ = _; rw [unhide HT, unhide HST, if_pos h32]
        clear h32 HT HST
        go_wp2
        go_ret2
        exact ⟨none, 0, by rw [unhide HR]; rfl, by rw [unhide HR]; exact OwnH.nil _ _, HB⟩
      · have h32' : ((acc.length : Int) == 32) = false := by rw [beq_eq_false_iff_ne]; omega
        have HT2 : Hid (T = match fldM x with | some h => rhM (L.drop (k + 1)) (acc ++ [h]) | none => ([], 400)) := by show _ = _; rw [unhide HT, unhide HST, if_neg h32]
        have hMr : Mx wr := (unhide HM).below (unhide HB) (Nat.le_refl _)
        have HC1 := hide (cut58 x wr hxl hMr)
        obtain ⟨cl1, cl2⟩ := cut_len x [58]
        have HF : Hid (fldM x = if (Lib.cut x [58]).2.2 && (tknB (Lib.cut x [58]).1 && vluB (trm (Lib.cut x [58]).2.1)) then some (sm (Lib.cut x [58]).1, trm (Lib.cut x [58]).2.1) else none) := rfl
        generalize Lib.cut x [58] = C at HC1 HF cl1 cl2
        obtain ⟨n1, v1, ok⟩ := C
        simp only at HC1 HF cl1 cl2
        have hn1 : n1.length ≤ 1000000 := by omega
        have hv1 : v1.length ≤ 1000000 := by omega
        have hv2 : (trm v1).length ≤ 1000000 := Nat.le_trans (trm_len v1) hv1
        have hac : acc.length < 32 := by omega
        clear h32 HT HST hMr cl1 cl2
        go_upto_region 9 with (first
          | (go_at_call 44; refine (unhide HC1).mono ?_; rintro e w1 ⟨rfl, HB1⟩)
          | (go_at_call 45; refine (trim_any v1 w1 hv1).mono ?_; rintro e w2 ⟨rfl, hb2⟩))
        have HB2 : Hid (Below wr.heap.size wr w2) := (unhide HB1).trans (hb2.mono (unhide HB1).size)
        have HBW : Hid (Below w.heap.size w w2) := (unhide HB).trans ((unhide HB2).mono (unhide HB).size)
        have HO2 := hide ((unhide HO).below (unhide HB2) (Nat.le_refl _))
        have HK1 := hide (isToken_any n1 w2 hn1)
        have HK2 := hide (isValue_any (trm v1) w2 hv2)
        clear hb2 HB1 HC1 c0
        generalize trm v1 = v2 at *
        generalize htk : tknB n1 = t1 at HK1 HF
        generalize hvl : vluB v2 = t2 at HK2 HF
        clear htk hvl
        cases ok with
        | false =>
          have HR : Hid (T = ([], 400)) := by show _ = _; rw [unhide HT2, unhide HF]; rfl
          clear HT2 HF
          go_wp2
          go_ret2
          exact ⟨none, 0, by rw [unhide HR]; rfl, by rw [unhide HR]; exact OwnH.nil _ _, HBW⟩
        | true =>
        cases t1 with
        | false =>
          have HR : Hid (T = ([], 400)) := by show _ = _; rw [unhide HT2, unhide HF]; rfl
          clear HT2 HF
          go_wp2_with (go_at_call 46; refine (unhide HK1).mono ?_; rintro e w3 ⟨rfl, hw3⟩; obtain rfl := hw3)
          go_ret2
          exact ⟨none, 0, by rw [unhide HR]; rfl, by rw [unhide HR]; exact OwnH.nil _ _, HBW⟩
        | true =>
        cases t2 with
        | false =>
          have HR : Hid (T = ([], 400)) := by show _ = _; rw [unhide HT2, unhide HF]; rfl
          clear HT2 HF
          go_wp2_with (first | (go_at_call 46; refine (unhide HK1).mono ?_; rintro e w3 ⟨rfl, hw3⟩; obtain rfl := hw3) | (go_at_call 47; refine (unhide HK2).mono ?_; rintro e w3 ⟨rfl, hw3⟩; obtain rfl := hw3))
          go_ret2
          exact ⟨none, 0, by rw [unhide HR]; rfl, by rw [unhide HR]; exact OwnH.nil _ _, HBW⟩
        | true =>
          have HR : Hid (T = rhM (L.drop (k + 1)) (acc ++ [(sm n1, v2)])) := by show _ = _; rw [unhide HT2, unhide HF]; rfl
          clear HT2 HF
          go_upto_region 11 with (first | (go_at_call 46; refine (unhide HK1).mono ?_; rintro e w3 ⟨rfl, hw3⟩; obtain rfl := hw3) | (go_at_call 47; refine (unhide HK2).mono ?_; rintro e w3 ⟨rfl, hw3⟩; obtain rfl := hw3))
          go_wp2_with fail
          refine (small_any n1 w3 hn1).mono ?_
          rintro e w4 ⟨rfl, hb4⟩
          have HB4 : Hid (Below w.heap.size w w4) := (unhide HBW).trans (hb4.mono (unhide HBW).size)
          have HO4 := hide ((unhide HO2).below hb4 (Nat.le_refl _))
          obtain ⟨V, hV⟩ : ∃ V, V = w4.alloc (.cells #[.string (str (sm n1)), .string (str v2)] 52) := ⟨_, rfl⟩
          have hrV : V.heap[w4.heap.size]? = some (.cells #[.string (str (sm n1)), .string (str v2)] 52 (0, 0)) := by rw [hV]; exact heap_alloc_new w4 _
          have hbV : Below w4.heap.size w4 V := by rw [hV]; exact (Below.refl _ _).alloc (Nat.le_refl _) _
          have HOV := hide ((unhide HO4).below hbV (Nat.le_refl _))
          have HBV : Hid (Below w.heap.size w V) := (unhide HB4).trans (hbV.mono (unhide HB4).size)
          have HV0 : Hid (V.cell? ⟨w4.heap.size, 0, none⟩ = some (.string (str (sm n1)))) := by show _ = _; rw [cell_of_row V _ 0 _ _ _ hrV]; rfl
          have HV1 : Hid (V.cell? ⟨w4.heap.size, 1, none⟩ = some (.string (str v2))) := by show _ = _; rw [cell_of_row V _ 1 _ _ _ hrV]; rfl
          clear hrV hbV hb4
          go_upto_region 12 with (rw [← hV]; refine wp_apph _ rfl _ _ rfl w.heap.size a c acc rfl (unhide HOV) w4.heap.size 1 (sm n1, v2) rfl (unhide HV0) (unhide HV1) (by omega) (unhide HBV).size ?_; intro a' c' acc' w5 hr5 ho5 hg5; have HO5 := hide ho5; have HG5 := hide hg5; clear ho5 hg5)
          have hal : acc'.length = acc.length + 1 := by rw [unhide hr5]; simp
          have HB5 : Hid (Below w.heap.size w w5) := (unhide HBV).grown (unhide HG5) (unhide HBV).size (fun j hj => ((unhide HOV).lt j hj).1)
          have HAL := hide hal
          clear hal hV
          go_wp2
          go_roundw
          case rel => exact ⟨k + 1, by omega, by go_num, a', c', acc', rfl, by have := unhide HAL; omega, by show _ = _; rw [unhide hr5]; exact unhide HR, HO5, HB5⟩
          case measure => simp [intOf]; omega
    · obtain rfl : k = L.length := by omega
      have hlt' : ¬ (L.length : Int) < (L.length : Int) := by omega
      have HR : Hid (T = (acc, 0)) := by show _ = _; rw [unhide HT, List.drop_length]; rfl
      clear hlt HT
      go_wp2
      go_ret2
      exact ⟨a, c, by rw [unhide HR]; rfl, by rw [unhide HR]; exact HO, HB⟩
#print axioms readHeaders_any
end Go.Proofs.YthkadboeokgjnacGreatDoor
