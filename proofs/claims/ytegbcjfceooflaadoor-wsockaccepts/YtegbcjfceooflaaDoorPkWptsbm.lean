/-
  WsockAccepts: THE WALK.
-/
import Derived.Test.YtegbcjfceooflaaDoorPkWptsbi
import Derived.Test.YtegbcjfceooflaaDoorPkWptsbh
import Derived.Test.YtegbcjfceooflaaDoorPkWptsbk
import Derived.Test.YtegbcjfceooflaaDoorPkWptsbj
import Derived.Test.YtegbcjfceooflaaDoorPkWptsbl
section
set_option linter.unusedVariables false
set_option maxRecDepth 1000000
namespace Go.Proofs.YtegbcjfceooflaaDoor
open Go.RowKit

/-- An answer's block. -/
def AnB (w : World) (g : Nat) (st : Int) (p : Option Addr) (n c : Nat) : Prop := w.heap[g]? = some (.cells #[.int .i64 st, .slice p n c, .slice none 0 0] 32 (0, 0))
theorem AnB.cells {w : World} {g : Nat} {st : Int} {p : Option Addr} {n c : Nat} (h : AnB w g st p n c) : w.cell? ⟨g, 0, none⟩ = some (.int .i64 st) ∧ w.cell? ⟨g, 1, none⟩ = some (.slice p n c) ∧ w.cell? ⟨g, 2, none⟩ = some (.slice none 0 0) :=
  ⟨by rw [cell_of_row w g 0 _ _ _ h]; rfl, by rw [cell_of_row w g 1 _ _ _ h]; rfl, by rw [cell_of_row w g 2 _ _ _ h]; rfl⟩
theorem AnB.lt {w : World} {g : Nat} {st : Int} {p : Option Addr} {n c : Nat} (h : AnB w g st p n c) : g < w.heap.size := (Array.getElem?_eq_some_iff.1 h).1
theorem AnB.below {w w' : World} {g : Nat} {st : Int} {p : Option Addr} {n c : Nat} (h : AnB w g st p n c) (hb : Below w.heap.size w w') : AnB w' g st p n c := (hb.block g h.lt).trans h

set_option maxHeartbeats 8000000 in
theorem wsockAccepts_walk (key : List UInt8) (m q : ByteArray) (p : Option Addr) (cp : Nat) (H : List Hd) (y : Option Addr) (yn yc : Nat) (w : World) (hk : key.length ≤ maxLen) (h : HdR w p H) (hT : Tb w) (hM : Mx w) :
    Calls Tryd.prog 3 #[.string (str key), .agg #[.string m, .string q, .slice p H.length cp, .slice y yn yc]] w fun e w' => e = .returned (.bool true) ∧ Below w.heap.size w w' := by
  unfold maxLen at hk
  have hle := h.le
  unfold maxLen at hle
  have hsz : (str key).size = key.length := str_size key
  obtain ⟨W, hW⟩ : ∃ W, W = w.alloc (.cells #[.string m, .string q, .slice p H.length cp, .slice y yn yc] 25) := ⟨_, rfl⟩
  have hB : Below w.heap.size w W := by rw [hW]; exact (Below.refl _ _).alloc (Nat.le_refl _) _
  have hF : W.heap[w.heap.size]? = some (.cells #[.string m, .string q, .slice p H.length cp, .slice y yn yc] 25 (0, 0)) := by rw [hW]; exact heap_alloc_new w _
  have hg : w.heap.size < W.heap.size := (Array.getElem?_eq_some_iff.1 hF).1
  have r2 : W.cell? ⟨w.heap.size, 2, none⟩ = some (.slice p H.length cp) := by rw [cell_of_row W w.heap.size 2 _ _ _ hF]; rfl
  have HF := hide hF
  have HH := hide (h.below hB (Nat.le_refl _))
  have HT := hide (hT.below hB hT.big)
  have HM := hide (hM.below hB (Nat.le_refl _))
  have HB := hide hB
  clear hB h hT hM hF
  go_enter Tryd.func3, Tryd.ntmps3
  go_upto_region 1 with fail
  rw [← hW]
  clear hW
  by_cases hbig : 262144 < key.length
  · have hb' : (262144 : Int) < (key.length : Int) := by omega
    clear hbig
    go_wp2_with (go_at_call 5; refine (awake9_any W (unhide HT)).mono ?_; rintro e w2 ⟨rfl, hb2⟩)
    go_ret
    exact ⟨rfl, (unhide HB).trans ((unhide hb2).mono (unhide HB).size)⟩
  have hb1 : ¬ (262144 : Int) < (key.length : Int) := by omega
  have hkl : key.length ≤ 1000000 := by omega
  go_wp2_with fail
  refine (size_any p cp H W (unhide HH) (by omega)).mono ?_
  rintro e w1 ⟨n, rfl, hn, HN, HB1⟩
  by_cases hnb : 262144 < n
  · have hb' : (262144 : Int) < (n : Int) := by omega
    clear hbig hnb
    go_wp2_with (go_at_call 5; refine (awake9_any w1 ((unhide HT).below (unhide HB1) (unhide HT).big)).mono ?_; rintro e w2 ⟨rfl, hb2⟩)
    go_ret
    have h1 := (unhide HB).trans ((unhide HB1).mono (unhide HB).size)
    exact ⟨rfl, h1.trans ((unhide hb2).mono h1.size)⟩
  have hb2 : ¬ (262144 : Int) < (n : Int) := by omega
  have hHl : H.length ≤ 1000000 := by have := (unhide HN (by omega)).1; omega
  have HS := hide ((unhide HN (by omega)).2)
  clear hbig hnb HN r2
  go_wp2_with fail
  refine (accept_any key w1 hkl ((unhide HM).below (unhide HB1) (Nat.le_refl _)) ((unhide HT).below (unhide HB1) (unhide HT).big)).mono ?_
  rintro e w2 ⟨rfl, HB2⟩
  have HA2 := hide ((unhide HB1).trans ((unhide HB2).mono (unhide HB1).size))
  go_wp2_with fail
  refine (raccept_any key w2 hkl).mono ?_
  rintro e w3 ⟨rfl, HB3⟩
  have HA3 := hide ((unhide HA2).trans ((unhide HB3).mono (unhide HA2).size))
  go_wp2_with fail
  refine (answer_any key w3 hkl ((unhide HM).below (unhide HA3) (Nat.le_refl _)) ((unhide HT).below (unhide HA3) (unhide HT).big)).mono ?_
  rintro e w4 ⟨p4, c4, rfl, HR4, HB4⟩
  have HA4 := hide ((unhide HA3).trans ((unhide HB4).mono (unhide HA3).size))
  obtain ⟨V4, hV4⟩ : ∃ V, V = w4.alloc (.cells #[.int .i64 (anS key), .slice p4 (anH key).length c4, .slice none 0 0] 32) := ⟨_, rfl⟩
  have HX4 : Hid (AnB V4 w4.heap.size (anS key) p4 (anH key).length c4) := by show AnB _ _ _ _ _ _; rw [hV4]; exact heap_alloc_new w4 _
  have HBV : Hid (Below w4.heap.size w4 V4) := by show Below _ _ _; rw [hV4]; exact (Below.refl _ _).alloc (Nat.le_refl _) _
  go_upto_region 6 with fail
  rw [← hV4]
  clear hV4
  have HA5 := hide ((unhide HA4).trans ((unhide HBV).mono (unhide HA4).size))
  have HR5 := hide ((unhide HR4).below (unhide HBV) (Nat.le_refl _))
  go_wp2_with fail
  refine (ranswer_any key V4 hkl).mono ?_
  rintro e w6 ⟨p6, c6, rfl, HR6, HB6⟩
  obtain ⟨V6, hV6⟩ : ∃ V, V = w6.alloc (.cells #[.int .i64 (anS key), .slice p6 (anH key).length c6, .slice none 0 0] 32) := ⟨_, rfl⟩
  have HX6 : Hid (AnB V6 w6.heap.size (anS key) p6 (anH key).length c6) := by show AnB _ _ _ _ _ _; rw [hV6]; exact heap_alloc_new w6 _
  have HBW : Hid (Below w6.heap.size w6 V6) := by show Below _ _ _; rw [hV6]; exact (Below.refl _ _).alloc (Nat.le_refl _) _
  go_upto_region 7 with fail
  rw [← hV6]
  clear hV6
  have HC6 : Hid (Below V4.heap.size V4 V6) := (unhide HB6).trans ((unhide HBW).mono (unhide HB6).size)
  have HA6 := hide ((unhide HA5).trans ((unhide HC6).mono (unhide HA5).size))
  have HR7 := hide ((unhide HR6).below (unhide HBW) (Nat.le_refl _))
  have hF6 := ((unhide HA6).block _ hg).trans (unhide HF)
  have z0 : V6.cell? ⟨w.heap.size, 0, none⟩ = some (.string m) := by rw [cell_of_row V6 w.heap.size 0 _ _ _ hF6]; rfl
  have z1 : V6.cell? ⟨w.heap.size, 1, none⟩ = some (.string q) := by rw [cell_of_row V6 w.heap.size 1 _ _ _ hF6]; rfl
  have z2 : V6.cell? ⟨w.heap.size, 2, none⟩ = some (.slice p H.length cp) := by rw [cell_of_row V6 w.heap.size 2 _ _ _ hF6]; rfl
  have z3 : V6.cell? ⟨w.heap.size, 3, none⟩ = some (.slice y yn yc) := by rw [cell_of_row V6 w.heap.size 3 _ _ _ hF6]; rfl
  clear hF6
  go_wp2_with fail
  refine (asks_any m q p cp H y yn yc V6 ((unhide HH).below (unhide HA6) (Nat.le_refl _)) (unhide HS) hHl ((unhide HM).below (unhide HA6) (Nat.le_refl _))).mono ?_
  rintro e w7 ⟨rfl, HB7⟩
  have HA7 := hide ((unhide HA6).trans ((unhide HB7).mono (unhide HA6).size))
  have hF7 := ((unhide HA7).block _ hg).trans (unhide HF)
  clear z0 z1 z2 z3
  have z0 : w7.cell? ⟨w.heap.size, 0, none⟩ = some (.string m) := by rw [cell_of_row w7 w.heap.size 0 _ _ _ hF7]; rfl
  have z1 : w7.cell? ⟨w.heap.size, 1, none⟩ = some (.string q) := by rw [cell_of_row w7 w.heap.size 1 _ _ _ hF7]; rfl
  have z2 : w7.cell? ⟨w.heap.size, 2, none⟩ = some (.slice p H.length cp) := by rw [cell_of_row w7 w.heap.size 2 _ _ _ hF7]; rfl
  have z3 : w7.cell? ⟨w.heap.size, 3, none⟩ = some (.slice y yn yc) := by rw [cell_of_row w7 w.heap.size 3 _ _ _ hF7]; rfl
  clear hF7
  go_wp2_with fail
  refine (rasks_any m q p cp H y yn yc w7 ((unhide HH).below (unhide HA7) (Nat.le_refl _)) (unhide HS) hHl).mono ?_
  rintro e w8 ⟨rfl, HB8⟩
  have HA8 := hide ((unhide HA7).trans ((unhide HB8).mono (unhide HA7).size))
  clear z0 z1 z2 z3
  have HC8 : Hid (Below V6.heap.size V6 w8) := (unhide HB7).trans ((unhide HB8).mono (unhide HB7).size)
  have HD8 : Hid (Below V4.heap.size V4 w8) := (unhide HC6).trans ((unhide HC8).mono (unhide HC6).size)
  obtain ⟨a0, a1, a2⟩ := ((unhide HX4).below (unhide HD8)).cells
  obtain ⟨b0, b1, b2⟩ := ((unhide HX6).below (unhide HC8)).cells
  have HP := hide ((unhide HR5).below (unhide HD8) (Nat.le_refl _))
  have HQ := hide ((unhide HR7).below (unhide HC8) (Nat.le_refl _))
  have hal : (anH key).length ≤ 1000000 := by unfold anH; split <;> simp
  generalize acE key = E1
  generalize anA m yn H = AN
  generalize okA m yn H = OKB
  have e1 : (E1 == E1) = true := beq_self_eq_true _
  have e2 : (OKB == OKB) = true := beq_self_eq_true _
  have e3 : ((str AN).toList == (str AN).toList) = true := beq_self_eq_true _
  have e4 : ((str (acS key)).toList == (str (acS key)).toList) = true := beq_self_eq_true _
  go_wp2_with fail
  refine (sama_eq (anS key) p4 p6 c4 c6 (anH key) w8 (unhide HP) (unhide HQ) hal).mono ?_
  rintro e w9 ⟨rfl, HB9⟩
  have HA9 := hide ((unhide HA8).trans ((unhide HB9).mono (unhide HA8).size))
  go_wp2_with fail
  refine (awake9_any w9 ((unhide HT).below (unhide HA9) (unhide HT).big)).mono ?_
  rintro e w10 ⟨rfl, HB10⟩
  go_wp2_with fail
  go_ret
  exact ⟨rfl, (unhide HB).trans (((unhide HA9).trans ((unhide HB10).mono (unhide HA9).size)).mono (unhide HB).size)⟩
#print axioms wsockAccepts_walk
end Go.Proofs.YtegbcjfceooflaaDoor
end
