/-
  wsock: isKey, whatever the text.
-/
import Derived.Test.YtegbcjfceooflaaDoorPkWptsar
import Derived.Test.YtegbcjfceooflaaDoorPkWptsao
import Derived.Deep.DeepCutAuto
section
set_option linter.unusedVariables false
set_option maxRecDepth 1000000
namespace Go.Proofs.YtegbcjfceooflaaDoor
open Go.RowKit

theorem rp_two (l : List UInt8) : (l.map (fun x => if x = 43 then 45 else x)).map (fun x => if x = 47 then 95 else x) = l.map rp := by
  rw [List.map_map]
  refine List.map_inj_left.2 fun x _ => ?_
  show (if (if x = 43 then (45 : UInt8) else x) = 47 then (95 : UInt8) else (if x = 43 then 45 else x)) = rp x
  unfold rp
  by_cases h : x = 43
  · rw [if_pos h, if_pos h]; rfl
  · rw [if_neg h, if_neg h]
theorem cut_str (s : List UInt8) (k : Nat) : (str s).extract 0 k = str (s.take k) := by
  apply ByteArray.ext
  apply Array.ext'
  simp [str, ByteArray.data_extract]
/-- What isKey answers. -/
def kpB (l : List UInt8) : Bool := decide (l.length = 24) && (match unR ((l.take 22).map rp) 0 0 with | some b => decide (b.length = 16) && (b64 b == l) | none => false)

theorem unsp_none (R : List UInt8) (hu : unR R 0 0 = none) (hl : R.length ≤ 1000) (w : World) : Calls Tryd.prog 34 #[.string (str R)] w fun e w' => e = .returned (.tuple #[.slice none 0 0, .bool false]) ∧ Below w.heap.size w w' := by
  refine (unspell_any (str R) w (Nat.le_trans hl (by decide))).mono ?_
  have hun : unR (str R).data.toList 0 0 = none := hu
  rintro e w3 ⟨hb3, ⟨_, h⟩ | ⟨a3, c3, r3, hu3, _⟩⟩
  · exact ⟨h, hb3⟩
  · rw [hun] at hu3; cases hu3
theorem unsp_some (R b : List UInt8) (hu : unR R 0 0 = some b) (hl : R.length ≤ 1000) (w : World) : Calls Tryd.prog 34 #[.string (str R)] w fun e w' => ∃ a cap, e = .returned (.tuple #[.slice a b.length cap, .bool true]) ∧ OwnB w' w.heap.size a cap b ∧ Below w.heap.size w w' := by
  refine (unspell_any (str R) w (Nat.le_trans hl (by decide))).mono ?_
  have hun : unR (str R).data.toList 0 0 = some b := hu
  rintro e w3 ⟨hb3, ⟨h, _⟩ | ⟨a3, c3, r3, hu3, rfl, ho3⟩⟩
  · rw [hun] at h; cases h
  · obtain rfl := Option.some.inj (hun.symm.trans hu3)
    exact ⟨a3, c3, rfl, ho3, hb3⟩
set_option maxHeartbeats 2000000 in
theorem isKey_any (l : List UInt8) (w : World) (hl : l.length ≤ 1000000) (hm : Mx w) :
    Calls Tryd.prog 16 #[.string (str l)] w fun e w' => e = .returned (.bool (kpB l)) ∧ Hid (Below w.heap.size w w') := by
  have hsz : (str l).size = l.length := str_size l
  have HM := hide hm
  clear hm
  by_cases h24 : l.length = 24
  · have hne : ((l.length : Int) != 24) = false := by rw [h24]; rfl
    have hcut := cut_str l 22
    have HL : Hid (l.length = 24) := h24
    obtain ⟨T, hT⟩ : ∃ T, T = l.take 22 := ⟨_, rfl⟩
    have hTl : T.length ≤ 1000 := by rw [hT, List.length_take]; omega
    rw [← hT] at hcut
    obtain ⟨T1, hT1⟩ : ∃ T1, T1 = T.map (fun x => if x = 43 then (45 : UInt8) else x) := ⟨_, rfl⟩
    obtain ⟨R, hR⟩ : ∃ R, R = T.map rp := ⟨_, rfl⟩
    have HRP : Hid (T1.map (fun x => if x = 47 then (95 : UInt8) else x) = R) := by show _ = _; rw [hT1, hR, ← rp_two]
    have HT1 := hide hT1.symm
    have hT1l : T1.length ≤ 1000 := by rw [hT1, List.length_map]; exact hTl
    have hRl : R.length ≤ 1000 := by rw [hR, List.length_map]; exact hTl
    have HK : Hid (kpB l = (match unR R 0 0 with | some b => decide (b.length = 16) && (b64 b == l) | none => false)) := by
      show _ = _
      unfold kpB
      rw [decide_eq_true h24, Bool.true_and, ← hT, ← hR]
    clear hT hT1 hR
    have hlen24 : 22 ≤ l.length := by omega
    have hsz24 : (str l).size = 24 := by rw [hsz, h24]
    clear h24
    cases hu : unR R 0 0 with
    | none =>
      rw [hu] at HK
      have HU := hide (unsp_none R hu hRl)
      clear hu
      go_enter Tryd.func16, Tryd.ntmps16
      go_upto_region 5 with (first
      | (go_at_call 34; refine (unhide HU w2).mono ?_; rintro e w3 ⟨rfl, hb3⟩; have HB3 := hide ((unhide HB2).trans (hb3.mono (unhide HB2).size)); clear hb3)
      | (go_at_call 33; refine (repl_any 47 95 (by decide) T1 w1 (Nat.le_trans hT1l (by decide)) (unhide HM1)).mono ?_; rw [HRP.out]; rintro e w2 ⟨rfl, hb2⟩; have HB2 := hide ((unhide HB1).trans (hb2.mono (unhide HB1).size)); clear hb2)
      | (go_at_call 33; refine (repl_any 43 45 (by decide) T _ (Nat.le_trans hTl (by decide)) (unhide HM)).mono ?_; rw [HT1.out]; rintro e w1 ⟨rfl, hb1⟩; have HM1 := hide ((unhide HM).below hb1 (Nat.le_refl _)); have HB1 := hide hb1; clear hb1))
      go_wp2
      go_ret
      exact ⟨by rw [unhide HK]; rfl, HB3⟩
    | some b =>
      rw [hu] at HK
      have HU := hide (unsp_some R b hu hRl)
      have hbl : b.length ≤ 1000000 := by have := un_length _ _ hu; omega
      clear hu
      by_cases h16 : b.length = 16
      · have hb16 : ((b.length : Int) == 16) = true := by rw [h16]; rfl
        have HK2 : Hid (kpB l = (b64 b == l)) := by
          show _ = _
          rw [unhide HK]
          show (decide (b.length = 16) && (b64 b == l)) = _
          rw [decide_eq_true h16, Bool.true_and]
        clear h16 HK
        have hcmp : ((str (b64 b)).toList == (str l).toList) = (b64 b == l) := by rw [toList_str, toList_str]
        go_enter Tryd.func16, Tryd.ntmps16
        go_wp2_with (first
      | (go_at_call 18; refine (base64_any a3 c3 b w3 (unhide HO3).toBs hbl).mono ?_; rintro e w4 ⟨rfl, hb4⟩; have HB4 := hide ((unhide HB3).trans (hb4.mono (unhide HB3).size)); clear hb4)
      | (go_at_call 34; refine (unhide HU w2).mono ?_; rintro e w3 ⟨a3, c3, rfl, ho3, hb3⟩; have HO3 := hide ho3; have HB3 := hide ((unhide HB2).trans (hb3.mono (unhide HB2).size)); clear hb3 ho3)
      | (go_at_call 33; refine (repl_any 47 95 (by decide) T1 w1 (Nat.le_trans hT1l (by decide)) (unhide HM1)).mono ?_; rw [HRP.out]; rintro e w2 ⟨rfl, hb2⟩; have HB2 := hide ((unhide HB1).trans (hb2.mono (unhide HB1).size)); clear hb2)
      | (go_at_call 33; refine (repl_any 43 45 (by decide) T _ (Nat.le_trans hTl (by decide)) (unhide HM)).mono ?_; rw [HT1.out]; rintro e w1 ⟨rfl, hb1⟩; have HM1 := hide ((unhide HM).below hb1 (Nat.le_refl _)); have HB1 := hide hb1; clear hb1))
        go_ret
        exact ⟨by rw [unhide HK2]; rfl, HB4⟩
      · have hb16 : ((b.length : Int) == 16) = false := by rw [beq_eq_false_iff_ne]; omega
        have HK2 : Hid (kpB l = false) := by
          show _ = _
          rw [unhide HK]
          show (decide (b.length = 16) && (b64 b == l)) = _
          rw [decide_eq_false h16, Bool.false_and]
        clear h16 HK
        go_enter Tryd.func16, Tryd.ntmps16
        go_upto_region 5 with (first
      | (go_at_call 34; refine (unhide HU w2).mono ?_; rintro e w3 ⟨a3, c3, rfl, ho3, hb3⟩; have HO3 := hide ho3; have HB3 := hide ((unhide HB2).trans (hb3.mono (unhide HB2).size)); clear hb3 ho3)
      | (go_at_call 33; refine (repl_any 47 95 (by decide) T1 w1 (Nat.le_trans hT1l (by decide)) (unhide HM1)).mono ?_; rw [HRP.out]; rintro e w2 ⟨rfl, hb2⟩; have HB2 := hide ((unhide HB1).trans (hb2.mono (unhide HB1).size)); clear hb2)
      | (go_at_call 33; refine (repl_any 43 45 (by decide) T _ (Nat.le_trans hTl (by decide)) (unhide HM)).mono ?_; rw [HT1.out]; rintro e w1 ⟨rfl, hb1⟩; have HM1 := hide ((unhide HM).below hb1 (Nat.le_refl _)); have HB1 := hide hb1; clear hb1))
        go_wp2
        go_ret
        exact ⟨by rw [unhide HK2]; rfl, HB3⟩
  · have hne : ((l.length : Int) != 24) = true := by simp; omega
    have HK : Hid (kpB l = false) := by
      show _ = _
      unfold kpB
      rw [decide_eq_false h24]; rfl
    clear h24
    go_enter Tryd.func16, Tryd.ntmps16
    go_wp2
    go_ret
    exact ⟨by rw [unhide HK]; rfl, Below.refl _ _⟩
#print axioms isKey_any
end Go.Proofs.YtegbcjfceooflaaDoor
end
