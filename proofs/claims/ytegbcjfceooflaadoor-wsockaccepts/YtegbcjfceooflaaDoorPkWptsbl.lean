/-
  wsock: THE WALK of the statements' awake.
-/
import Derived.Test.YtegbcjfceooflaaDoorPkWptsbe
import Derived.Lib.SlBytesConst
section
set_option linter.unusedVariables false
set_option maxRecDepth 1000000
namespace Go.Proofs.YtegbcjfceooflaaDoor
open Go.RowKit

def hel : List UInt8 := [72, 101, 108, 108, 111]
def msk : List UInt8 := [55, 250, 33, 61]
def hef : List UInt8 := [129, 133, 55, 250, 33, 61, 127, 159, 77, 81, 88]
def two : List UInt8 := [129, 5]
theorem hel_e : wrE 1 true msk hel = 0 := by decide +kernel
theorem hel_r : wrR 1 true msk hel = hef := by decide +kernel
theorem two_y : rdY two true = 1002 := by decide +kernel
theorem bs_lit (w : World) (l : List UInt8) (C : Array Value) (h : C = (bs l).toArray) (hl : l.length ≤ 1000) : Bs (w.alloc (.cells C 5)) (some ⟨w.heap.size, 0, none⟩) l.length l := by
  subst h
  exact ⟨(show Cel _ w.heap.size 5 (bs l) from heap_alloc_new w _).row, Nat.le_refl _, by unfold maxLen; omega, fun h => by cases h⟩
theorem bs_lito (w : World) (l : List UInt8) (C : Array Value) (o : Nat × Nat) (h : C = (bs l).toArray) (hl : l.length ≤ 1000) : Bs (w.alloc (.cells C 5 o)) (some ⟨w.heap.size, 0, none⟩) l.length l := by
  subst h
  refine ⟨?_, Nat.le_refl _, by unfold maxLen; omega, fun h => by cases h⟩
  intro _
  refine ⟨w.heap.size, 0, rfl, fun i hi => ?_⟩
  rw [Nat.zero_add, cell_of_row _ _ i _ _ _ (heap_alloc_new w _)]
  simp [bs, hi]
theorem wr_hel (x y : Nat) (w : World) (hx : Bs w (some ⟨x, 0, none⟩) 5 hel) (hy : Bs w (some ⟨y, 0, none⟩) 4 msk) : Calls Tryd.prog 13 #[.agg #[.bool true, .int .i64 1, .slice (some ⟨x, 0, none⟩) 5 5], .slice (some ⟨y, 0, none⟩) 4 4] w fun e w' => ∃ a' c', e = .returned (.tuple #[.slice a' 11 c', .int .i64 0]) ∧ Hid (OwnB w' w.heap.size a' c' hef) ∧ Hid (Below w.heap.size w w') := by
  refine (write_any 1 true (some ⟨x, 0, none⟩) 5 hel (some ⟨y, 0, none⟩) 4 msk w hx hy).mono ?_
  rintro e w' ⟨a', c', r, rfl, hr, ho, hb⟩
  have hr' := unhide hr
  rw [hel_r] at hr'
  subst hr'
  rw [hel_e]
  exact ⟨a', c', rfl, ho, hb⟩
theorem rd_two (x : Nat) (w : World) (hx : Bs w (some ⟨x, 0, none⟩) 2 two) : Calls Tryd.prog 14 #[.slice (some ⟨x, 0, none⟩) 2 2, .bool true] w fun e w' => e = .returned (.tuple #[.agg #[.bool false, .int .i64 0, .slice none 0 0], .int .i64 0, .int .i64 1002]) ∧ Hid (Below w.heap.size w w') := by
  refine (rd_any (some ⟨x, 0, none⟩) 2 two true w hx).mono ?_
  rintro e w' ⟨hb, ⟨hy, rfl⟩ | ⟨hy, _⟩⟩
  · rw [two_y]
    exact ⟨rfl, hb⟩
  · have := unhide hy
    rw [two_y] at this
    omega
theorem wr_here (w1 : World) (o : Nat × Nat) : Calls Tryd.prog 13 #[.agg #[.bool true, .int .i64 1, .slice (some ⟨w1.heap.size, 0, none⟩) 5 5], .slice (some ⟨w1.heap.size + 1, 0, none⟩) 4 4] ((w1.alloc (.cells #[.int .u8 72, .int .u8 101, .int .u8 108, .int .u8 108, .int .u8 111] 5 o)).alloc (.cells #[.int .u8 55, .int .u8 250, .int .u8 33, .int .u8 61] 5)) fun e w' => ∃ a' c', e = .returned (.tuple #[.slice a' 11 c', .int .i64 0]) ∧ Hid (OwnB w' w1.heap.size a' c' hef) ∧ Hid (Below w1.heap.size w1 w') := by
  have hx1 := bs_lito w1 hel _ o rfl (by decide)
  obtain ⟨W1, hW1⟩ : ∃ W1, W1 = w1.alloc (.cells (bs hel).toArray 5 o) := ⟨_, rfl⟩
  rw [← hW1] at hx1
  have hb1 : Below w1.heap.size w1 W1 := by rw [hW1]; exact (Below.refl _ _).alloc (Nat.le_refl _) _
  have hs1 : W1.heap.size = w1.heap.size + 1 := by rw [hW1]; simp
  have hy := bs_lit W1 msk _ rfl (by decide)
  have hb2 : Below w1.heap.size w1 (W1.alloc (.cells (bs msk).toArray 5)) := hb1.alloc hb1.size _
  have hx2 := hx1.below ((Below.refl W1.heap.size W1).alloc (Nat.le_refl _) (.cells (bs msk).toArray 5)) (Nat.le_refl _)
  rw [hs1] at hy
  have hc := wr_hel w1.heap.size (w1.heap.size + 1) _ hx2 hy
  show Calls Tryd.prog _ _ ((w1.alloc (.cells (bs hel).toArray 5 o)).alloc (.cells (bs msk).toArray 5)) _
  rw [← hW1]
  refine hc.mono ?_
  rintro e w' ⟨a', c', rfl, ho, hb⟩
  exact ⟨a', c', rfl, (unhide ho).base hb2.size, hb2.trans ((unhide hb).mono hb2.size)⟩
theorem rd_here (w1 : World) : Calls Tryd.prog 14 #[.slice (some ⟨w1.heap.size, 0, none⟩) 2 2, .bool true] (w1.alloc (.cells #[.int .u8 129, .int .u8 5] 5)) fun e w' => e = .returned (.tuple #[.agg #[.bool false, .int .i64 0, .slice none 0 0], .int .i64 0, .int .i64 1002]) ∧ Hid (Below w1.heap.size w1 w') := by
  have hb1 : Below w1.heap.size w1 (w1.alloc (.cells (bs two).toArray 5)) := (Below.refl _ _).alloc (Nat.le_refl _) _
  refine (rd_two w1.heap.size _ (bs_lit w1 two _ rfl (by decide))).mono ?_
  rintro e w' ⟨rfl, hb⟩
  exact ⟨rfl, hb1.trans ((unhide hb).mono hb1.size)⟩
theorem eq_here (w2 w3 : World) (B : Nat) (a : Option Addr) (c : Nat) (ho : OwnB w2 B a c hef) (hb : Below w2.heap.size w2 w3) (o : Obj) : Calls Tryd.prog 15 #[.slice a 11 c, .slice (some ⟨w3.heap.size + 1, 0, none⟩) 11 11] ((w3.alloc o).alloc (.cells #[.int .u8 129, .int .u8 133, .int .u8 55, .int .u8 250, .int .u8 33, .int .u8 61, .int .u8 127, .int .u8 159, .int .u8 77, .int .u8 81, .int .u8 88] 5)) fun e w' => e = .returned (.bool true) ∧ Hid (Below w3.heap.size w3 w') := by
  have hB3 := ho.toBs.below hb (Nat.le_refl _)
  have hb4 : Below w3.heap.size w3 (w3.alloc o) := (Below.refl _ _).alloc (Nat.le_refl _) _
  have hs4 : (w3.alloc o).heap.size = w3.heap.size + 1 := by simp
  have hb5 : Below w3.heap.size w3 ((w3.alloc o).alloc (.cells (bs hef).toArray 5)) := hb4.alloc hb4.size _
  have hy := bs_lit (w3.alloc o) hef _ rfl (by decide)
  rw [hs4] at hy
  refine (equal_any a 11 c hef (some ⟨w3.heap.size + 1, 0, none⟩) 11 11 hef _ (hB3.below hb5 (Nat.le_refl _)).row hy.row rfl rfl).mono ?_
  rintro e w' ⟨rfl, rfl⟩
  exact ⟨by rw [beq_self_eq_true], hb5⟩
theorem k28_eq : ((str k28).toList == [115, 51, 112, 80, 76, 77, 66, 105, 84, 120, 97, 81, 57, 107, 89, 71, 122, 122, 104, 90, 82, 98, 75, 43, 120, 79, 111, 61]) = true := by rw [toList_str]; decide
set_option maxHeartbeats 2000000 in
theorem awake9_any (w : World) (hT : Tb w) : Calls Tryd.prog 5 #[] w fun e w' => e = .returned (.bool true) ∧ Hid (Below w.heap.size w w') := by
  have HA := hide (accept_one w hT)
  have kc := fun (w : World) (C : Array Value) (n c : Nat) => Lib.run_convert_bytes_const (P := Tryd.prog) w 23 5 C n c Tryd.underlying23 Tryd.underlying5
  have hk := k28_eq
  clear hT
  go_enter Tryd.func5, Tryd.ntmps5
  go_wp2_with (first
    | (go_at_call 6; refine (unhide HA).mono ?_; rintro e w1 ⟨rfl, HB1⟩)
    | (go_at_call 13; refine (wr_here w1 _).mono ?_; rintro e w2 ⟨a2, c2, rfl, HO2, hb2⟩; have HB2 := hide ((unhide HB1).trans ((unhide hb2).mono (unhide HB1).size)); clear hb2)
    | (go_at_call 14; refine (rd_here w2).mono ?_; rintro e w3 ⟨rfl, hb3⟩; have HB3 := hide ((unhide HB2).trans ((unhide hb3).mono (unhide HB2).size)))
    | (go_at_call 15; refine (eq_here w2 w3 _ a2 c2 (unhide HO2) (unhide hb3) _).mono ?_; rintro e w5 ⟨rfl, hb5⟩; have HB5 := hide ((unhide HB3).trans ((unhide hb5).mono (unhide HB3).size)); clear hb5))
  go_ret
  exact ⟨rfl, HB5⟩
#print axioms awake9_any
end Go.Proofs.YtegbcjfceooflaaDoor
end
