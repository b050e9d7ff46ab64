/-
  wsock: Asks, whatever the request.
-/
import Derived.Test.YtegbcjfceooflaaDoorPkWptsav
import Derived.Test.YtegbcjfceooflaaDoorPkWptsaw
import Derived.BigRegion
section
set_option linter.unusedVariables false
set_option maxRecDepth 1000000
namespace Go.Proofs.YtegbcjfceooflaaDoor
open Go.RowKit

def wUp : List UInt8 := [117, 112, 103, 114, 97, 100, 101]
def wVer : List UInt8 := [115, 101, 99, 45, 119, 101, 98, 115, 111, 99, 107, 101, 116, 45, 118, 101, 114, 115, 105, 111, 110]
def wKey : List UInt8 := [115, 101, 99, 45, 119, 101, 98, 115, 111, 99, 107, 101, 116, 45, 107, 101, 121]
def wWs : List UInt8 := [119, 101, 98, 115, 111, 99, 107, 101, 116]
def w13 : List UInt8 := [49, 51]
theorem only_len (nm : List UInt8) (H : List Hd) (hS : HdS H) : (only nm H).length ≤ 1000000 := by
  unfold only
  split
  · rename_i h
    have h0 : 0 < (vals nm H).length := by omega
    rw [List.getD_eq_getElem?_getD, List.getElem?_eq_getElem h0]
    have hm : (vals nm H)[0] ∈ vals nm H := List.getElem_mem h0
    unfold vals at hm ⊢
    obtain ⟨p, hp, e⟩ := List.mem_map.1 hm
    have hp2 := (List.mem_filter.1 hp).1
    obtain ⟨t, ht, rfl⟩ := List.getElem_of_mem hp2
    have := (hS t H[t] (List.getElem?_eq_getElem ht)).2
    show (_ : List UInt8).length ≤ _
    simp only [Option.getD_some]
    rw [← e]
    exact this
  · simp
/-- Does a request ask? -/
def okA (m : ByteArray) (yn : Nat) (H : List Hd) : Bool := (m.toList == [71, 69, 84]) && (((yn : Int) == 0) && ((sm (only wUp H) == wWs) && (upH H && ((only wVer H == w13) && kpB (only wKey H)))))
def anA (m : ByteArray) (yn : Nat) (H : List Hd) : List UInt8 := if okA m yn H then only wKey H else []

/-- What stands behind the three fields. -/
structure AkF (W wx : World) (g : Nat) (m q : ByteArray) (p : Option Addr) (n cp : Nat) (y : Option Addr) (yn yc : Nat) : Prop where
  below : Below W.heap.size W wx
  c0 : wx.cell? ⟨g, 0, none⟩ = some (.string m)
  c2 : wx.cell? ⟨g, 2, none⟩ = some (.slice p n cp)
  c3 : wx.cell? ⟨g, 3, none⟩ = some (.slice y yn yc)
theorem AkF.go {W wx wy : World} {g : Nat} {m q : ByteArray} {p : Option Addr} {n cp : Nat} {y : Option Addr} {yn yc : Nat} (h : AkF W wx g m q p n cp y yn yc) (hg : g < W.heap.size) (hb : Below wx.heap.size wx wy) : AkF W wy g m q p n cp y yn yc := by
  have hl : g < wx.heap.size := Nat.lt_of_lt_of_le hg h.below.size
  exact ⟨h.below.trans (hb.mono h.below.size), (hb.cell (p := ⟨g, 0, none⟩) hl).trans h.c0, (hb.cell (p := ⟨g, 2, none⟩) hl).trans h.c2, (hb.cell (p := ⟨g, 3, none⟩) hl).trans h.c3⟩

set_option maxHeartbeats 8000000 in
theorem asks_any (m q : ByteArray) (p : Option Addr) (cp : Nat) (H : List Hd) (y : Option Addr) (yn yc : Nat) (w : World) (h : HdR w p H) (hS : HdS H) (hl : H.length ≤ 1000000) (hm : Mx w) :
    Calls Tryd.prog 10 #[.agg #[.string m, .string q, .slice p H.length cp, .slice y yn yc]] w fun e w' => e = .returned (.tuple #[.string (str (anA m yn H)), .bool (okA m yn H)]) ∧ Hid (Below w.heap.size w w') := by
  obtain ⟨W, hW⟩ : ∃ W, W = w.alloc (.cells #[.string m, .string q, .slice p H.length cp, .slice y yn yc] 25) := ⟨_, rfl⟩
  have hB : Below w.heap.size w W := by rw [hW]; exact (Below.refl _ _).alloc (Nat.le_refl _) _
  have hF : W.heap[w.heap.size]? = some (.cells #[.string m, .string q, .slice p H.length cp, .slice y yn yc] 25 (0, 0)) := by rw [hW]; exact heap_alloc_new w _
  have hg : w.heap.size < W.heap.size := (Array.getElem?_eq_some_iff.1 hF).1
  have r2 : W.cell? ⟨w.heap.size, 2, none⟩ = some (.slice p H.length cp) := by rw [cell_of_row W w.heap.size 2 _ _ _ hF]; rfl
  have HA : Hid (AkF W W w.heap.size m q p H.length cp y yn yc) := ⟨Below.refl _ _, by rw [cell_of_row W w.heap.size 0 _ _ _ hF]; rfl, r2, by rw [cell_of_row W w.heap.size 3 _ _ _ hF]; rfl⟩
  have HH : Hid (HdR W p H) := h.below hB (Nat.le_refl _)
  have HM : Hid (Mx W) := hm.below hB (Nat.le_refl _)
  have HSS := hide hS
  have HB := hide hB
  have l1 := only_len wUp H hS
  have l2 := only_len wVer H hS
  have l3 := only_len wKey H hS
  obtain ⟨ok, HO0⟩ : ∃ ok, Hid (okA m yn H = ok) := ⟨_, rfl⟩
  obtain ⟨an, HA0⟩ : ∃ an, Hid (anA m yn H = an) := ⟨_, rfl⟩
  rw [unhide HO0, unhide HA0]
  clear hF h hS hB hm
  go_enter Tryd.func10, Tryd.ntmps10
  go_upto_region 1 with fail
  rw [← hW]
  clear hW
  go_upto_region 2 with (go_at_call 22; refine (only_any wUp (by decide) (by decide) p cp H W (unhide HH) (unhide HSS) hl).mono ?_; rintro e w1 ⟨⟨t1, rfl⟩, hb1⟩)
  have HA1 := hide ((unhide HA).go hg (unhide hb1))
  clear r2 HA
  have r2 := (unhide HA1).c2
  go_upto_region 3 with (go_at_call 22; refine (only_any wVer (by decide) (by decide) p cp H w1 ((unhide HH).below (unhide HA1).below (Nat.le_refl _)) (unhide HSS) hl).mono ?_; rintro e w2 ⟨⟨t2, rfl⟩, hb2⟩)
  have HA2 := hide ((unhide HA1).go hg (unhide hb2))
  clear r2 HA1
  have r2 := (unhide HA2).c2
  go_upto_region 4 with (go_at_call 22; refine (only_any wKey (by decide) (by decide) p cp H w2 ((unhide HH).below (unhide HA2).below (Nat.le_refl _)) (unhide HSS) hl).mono ?_; rintro e w3 ⟨⟨t3, rfl⟩, hb3⟩)
  have HA3 := hide ((unhide HA2).go hg (unhide hb3))
  clear r2 HA2 hb1 hb2 hb3
  have r2 := (unhide HA3).c2
  have r0 := (unhide HA3).c0
  have r3 := (unhide HA3).c3
  have HB3 : Hid (Below w.heap.size w w3) := (unhide HB).trans ((unhide HA3).below.mono (unhide HB).size)
  have HUP := hide (fun wx (hb : Below W.heap.size W wx) => upgr_any p cp H wx ((unhide HH).below hb (Nat.le_refl _)) (unhide HSS) hl ((unhide HM).below hb (Nat.le_refl _)))
  have HKE := hide (fun wx (hb : Below W.heap.size W wx) => isKey_any (only wKey H) wx l3 ((unhide HM).below hb (Nat.le_refl _)))
  obtain ⟨B1, hB1⟩ : ∃ b, (m.toList == [71, 69, 84]) = b := ⟨_, rfl⟩
  obtain ⟨B2, hB2⟩ : ∃ b, ((yn : Int) == 0) = b := ⟨_, rfl⟩
  obtain ⟨B3, hB3⟩ : ∃ b, (sm (only wUp H) == wWs) = b := ⟨_, rfl⟩
  obtain ⟨B4, hB4⟩ : ∃ b, upH H = b := ⟨_, rfl⟩
  obtain ⟨B5, hB5⟩ : ∃ b, (only wVer H == w13) = b := ⟨_, rfl⟩
  obtain ⟨B6, hB6⟩ : ∃ b, kpB (only wKey H) = b := ⟨_, rfl⟩
  have HOK : Hid (ok = (B1 && (B2 && (B3 && (B4 && (B5 && B6)))))) := by show _ = _; rw [← unhide HO0]; unfold okA; rw [hB1, hB2, hB3, hB4, hB5, hB6]
  have HAN : Hid (an = if ok then only wKey H else []) := by show _ = _; rw [← unhide HO0, ← unhide HA0]; rfl
  clear HO0 HA0
  have q3 : ((str (sm (only wUp H))).toList == [119, 101, 98, 115, 111, 99, 107, 101, 116]) = B3 := by rw [toList_str]; exact hB3
  have q5 : ((str (only wVer H)).toList == [49, 51]) = B5 := by rw [toList_str]; exact hB5
  simp only [hB4] at HUP
  simp only [hB6] at HKE
  clear hB3 hB4 hB5 hB6
  have HA3' := HA3
  clear HA3
  generalize only wUp H = v1 at l1 q3 ⊢
  generalize only wVer H = v2 at l2 q5 ⊢
  generalize only wKey H = v3 at l3 HKE HAN ⊢
  cases B1 with
  | false =>
    have HF : Hid (ok = false) := by show _ = _; rw [unhide HOK]; rfl
    go_wp2_with fail
    go_ret2
    exact ⟨by rw [unhide HAN, unhide HF]; rfl, HB3⟩
  | true =>
  cases B2 with
  | false =>
    have HF : Hid (ok = false) := by show _ = _; rw [unhide HOK]; rfl
    go_wp2_with fail
    go_ret2
    exact ⟨by rw [unhide HAN, unhide HF]; rfl, HB3⟩
  | true =>
  cases B3 with
  | false =>
    have HF : Hid (ok = false) := by show _ = _; rw [unhide HOK]; rfl
    go_wp2_with (go_at_call 23; refine (small_any v1 w3 l1).mono ?_; rintro e w4 ⟨rfl, hb4⟩)
    go_ret2
    exact ⟨by rw [unhide HAN, unhide HF]; rfl, (unhide HB3).trans (hb4.mono (unhide HB3).size)⟩
  | true =>
  cases B4 with
  | false =>
    have HF : Hid (ok = false) := by show _ = _; rw [unhide HOK]; rfl
    go_wp2_with (first
      | (go_at_call 23; refine (small_any v1 w3 l1).mono ?_; rintro e w4 ⟨rfl, hb4⟩; have r2 := ((unhide HA3').go hg hb4).c2)
      | (go_at_call 24; refine (unhide HUP w4 ((unhide HA3').go hg hb4).below).mono ?_; rintro e w5 ⟨rfl, hb5⟩))
    go_ret2
    have h4 := (unhide HB3).trans (hb4.mono (unhide HB3).size)
    exact ⟨by rw [unhide HAN, unhide HF]; rfl, h4.trans ((unhide hb5).mono h4.size)⟩
  | true =>
  cases B5 with
  | false =>
    have HF : Hid (ok = false) := by show _ = _; rw [unhide HOK]; rfl
    go_wp2_with (first
      | (go_at_call 23; refine (small_any v1 w3 l1).mono ?_; rintro e w4 ⟨rfl, hb4⟩; have r2 := ((unhide HA3').go hg hb4).c2)
      | (go_at_call 24; refine (unhide HUP w4 ((unhide HA3').go hg hb4).below).mono ?_; rintro e w5 ⟨rfl, hb5⟩))
    go_ret2
    have h4 := (unhide HB3).trans (hb4.mono (unhide HB3).size)
    exact ⟨by rw [unhide HAN, unhide HF]; rfl, h4.trans ((unhide hb5).mono h4.size)⟩
  | true =>
  cases B6 with
  | false =>
    have HF : Hid (ok = false) := by show _ = _; rw [unhide HOK]; rfl
    go_wp2_with (first
      | (go_at_call 23; refine (small_any v1 w3 l1).mono ?_; rintro e w4 ⟨rfl, hb4⟩; have r2 := ((unhide HA3').go hg hb4).c2)
      | (go_at_call 24; refine (unhide HUP w4 ((unhide HA3').go hg hb4).below).mono ?_; rintro e w5 ⟨rfl, hb5⟩)
      | (go_at_call 16; refine (unhide HKE w5 (((unhide HA3').go hg hb4).go hg (unhide hb5)).below).mono ?_; rintro e w6 ⟨rfl, hb6⟩))
    go_ret2
    have h4 := (unhide HB3).trans (hb4.mono (unhide HB3).size)
    have h5 := h4.trans ((unhide hb5).mono h4.size)
    exact ⟨by rw [unhide HAN, unhide HF]; rfl, h5.trans ((unhide hb6).mono h5.size)⟩
  | true =>
    have HF : Hid (ok = true) := by show _ = _; rw [unhide HOK]; rfl
    go_wp2_with (first
      | (go_at_call 23; refine (small_any v1 w3 l1).mono ?_; rintro e w4 ⟨rfl, hb4⟩; have r2 := ((unhide HA3').go hg hb4).c2)
      | (go_at_call 24; refine (unhide HUP w4 ((unhide HA3').go hg hb4).below).mono ?_; rintro e w5 ⟨rfl, hb5⟩)
      | (go_at_call 16; refine (unhide HKE w5 (((unhide HA3').go hg hb4).go hg (unhide hb5)).below).mono ?_; rintro e w6 ⟨rfl, hb6⟩))
    go_ret2
    have h4 := (unhide HB3).trans (hb4.mono (unhide HB3).size)
    have h5 := h4.trans ((unhide hb5).mono h4.size)
    exact ⟨by rw [unhide HAN, unhide HF]; rfl, h5.trans ((unhide hb6).mono h5.size)⟩
#print axioms asks_any
end Go.Proofs.YtegbcjfceooflaaDoor
end
