/-
  THE WALKS of digest's eachBlock with each of the two functions that it is handed.
-/
import Derived.Test.YtegbcjfceooflaaDoorPkWptsag
import Derived.Test.YtegbcjfceooflaaDoorPkWptsad
import Derived.Deep.MidRow
import Derived.Laws.CopyRow
section
set_option linter.unusedVariables false
namespace Go.Proofs.YtegbcjfceooflaaDoor
open Go.RowKit

theorem Tb.grown {w w' : World} {C : Nat} (h : Tb w) (hg : w.grownBy w' (some C)) (hC : 2 ≤ C) : Tb w' := h.below (cg_to_below hg hC h.big) (Nat.le_refl _)

theorem listS5 (s : S5) : s.list.length = 5 := rfl
theorem sizS5 : (Tryd.prog.info? 71).map (·.size) = some 5 := by kernel_rfl
set_option maxHeartbeats 1000000 in
theorem clo1_core (S : Nat) (s s2 : S5) (m : List UInt8) (w : World) (hm : m.length = 64) (hS : Cel w S 71 (us s.list)) (hT : Tb w)
    (hbeh : ∀ w, Tb w → Calls Tryd.prog 37 #[.agg (us s.list).toArray, .agg (bs m).toArray] w fun e w' => e = .returned (.agg (us s2.list).toArray) ∧ Below w.heap.size w w') :
    Calls Tryd.prog 36 #[.agg (bs m).toArray, .pointer (some ⟨S, 0, none⟩)] w fun e w' => e = .returned (.tuple #[]) ∧ Hid (Cel w' S 71 (us s2.list)) ∧ Hid (w.grownBy w' (some S)) := by
  have HS := hide (hS.alloc (.cells (bs m).toArray 74))
  have HB := hide (Cel.new w 74 (bs m))
  have HM := hide hm
  have HT := hide (hT.below ((Below.refl w.heap.size w).alloc (Nat.le_refl _) (.cells (bs m).toArray 74)) hT.big)
  have HBH := hide hbeh
  clear hS hm hT hbeh
  go_enter Tryd.func36, Tryd.ntmps36
  go_wp2_with (first
    | refine wpL_load rfl 71 _ rfl _ rfl 71 _ _ _ HS.out Tryd.underlying71 (by rw [us_length, listS5]; exact sizS5) ?_
    | refine wpL_load rfl 74 _ rfl _ rfl 74 _ _ _ HB.out Tryd.underlying74 (by rw [bs_length, HM.out]; kernel_rfl) ?_
    | (go_at_call 37; refine (HBH.out _ HT.out).mono ?_; rintro e w2 ⟨rfl, hb2⟩; have HS2 := hide (HS.out.below hb2 HS.out.lt); have HB2 := hide hb2; clear hb2)
    | (refine wpL_store rfl 71 _ _ rfl _ rfl (us s2.list) rfl 71 _ HS2.out (by rw [us_length, us_length, listS5, listS5]) (by rw [us_length, listS5]; exact sizS5) (us_one _) ?_; intro w9 c9 g9))
  go_end0
  exact ⟨rfl, c9, cg_trans (cg_trans (cg_alloc w _ _) (cg_below HB2.out _)) g9⟩
theorem clo1_any (S : Nat) (s : S5) (m : List UInt8) (w : World) (hm : m.length = 64) (hS : Cel w S 71 (us s.list)) (hT : Tb w) :
    Calls Tryd.prog 36 #[.agg (bs m).toArray, .pointer (some ⟨S, 0, none⟩)] w fun e w' => e = .returned (.tuple #[]) ∧ Hid (Cel w' S 71 (us (beh1 s m).list)) ∧ Hid (w.grownBy w' (some S)) :=
  clo1_core S s (beh1 s m) m w hm hS hT (fun w hT => beh1_any s m w hm hT)
end Go.Proofs.YtegbcjfceooflaaDoor
end
