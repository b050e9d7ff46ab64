/-
  THE WALK OF WireChars.
-/
import Derived.Test.YtfnlcgdclamhcaaDoorJoinL
import Derived.Test.YtfnlcgdclamhcaaDoorRchW
import Derived.Test.YtfnlcgdclamhcaaDoorChrW
set_option linter.unusedVariables false
namespace Go.Proofs.YtfnlcgdclamhcaaDoor
open Go.RowKit

theorem lit3 (w : World) : Bs (w.alloc (.cells #[.int .u8 195, .int .u8 169, .int .u8 255] 5)) (some ⟨w.heap.size, 0, none⟩) 3 [195, 169, 255] :=
  ⟨row_cs w [195, 169, 255] [.int .u8 195, .int .u8 169, .int .u8 255] rfl, by simp, by unfold maxLen; omega, fun h => by cases h⟩
theorem chI_3 : chI [195, 169, 255] = 2 := by
  have h1 : d4 [195, 169, 255] = (233, 2) := by simp [d4, Lib.decodeN]
  have h2 : chr [255] = some 0 := chr_bad [255] (by simp) (by simp [d4, Lib.decodeN])
  have h3 : chr [195, 169, 255] = some 2 := by
    rw [chr_go _ (by simp) (by rw [h1]; simp), h1]
    simp [h2]
  rw [chI_some h3]; rfl

set_option maxHeartbeats 1000000 in
theorem wireChars_big (a0 : Option Addr) (cap0 : Nat) (l0 : List UInt8) (w : World) (hT : Tabs w) (h0 : l0.length ≤ maxLen) (hb0 : 262144 < l0.length) :
    Calls Tryd.prog 3 #[.slice a0 l0.length cap0] w fun e w' => e = .returned (.bool true) ∧ Below w.heap.size w w' := by
  unfold maxLen at h0
  have hc := hide (chars_any (some ⟨w.heap.size, 0, none⟩) 1 1 [255] _ (tabs_alloc hT (.cells #[.int .u8 255] 5)) (litB w 255 _) rfl (by simp))
  rw [chI_ff] at hc
  clear hT
  go_enter Tryd.func3, Tryd.ntmps3
  go_wp2_with fail
  refine (unhide hc).mono ?_
  rintro e w1 ⟨rfl, hb1⟩
  have hW : Below w.heap.size w w1 := ((Below.refl _ _).alloc (Nat.le_refl _) _).trans (hb1.mono (by simp))
  clear hb1 hc
  go_wp2
  go_ret
  exact ⟨rfl, hW⟩

set_option maxHeartbeats 2000000 in
theorem wireChars_small (H : FirstSays) (a0 : Option Addr) (cap0 : Nat) (l0 : List UInt8) (w : World) (hT : Tabs w) (p0 : Bs w a0 cap0 l0) (h0 : ¬ 262144 < l0.length) :
    Calls Tryd.prog 3 #[.slice a0 l0.length cap0] w fun e w' => e = .returned (.bool true) ∧ Below w.heap.size w w' := by
  have HT := hide hT
  have HH := hide H
  clear hT H
  obtain ⟨A, eA⟩ : ∃ A, chI l0 = A := ⟨_, rfl⟩
  have EA := hide eA
  clear eA
  go_enter Tryd.func3, Tryd.ntmps3
  go_wp2_with fail
  refine (sclone_any a0 _ cap0 l0 w p0 rfl (by omega)).mono ?_
  rintro e w1 ⟨a1, cap1, r, rfl, hr, ho1, hW1⟩
  have hre := unhide hr
  subst hre
  clear hr
  have K1 := hide (chars_any a1 _ cap1 r w1 (Utf8Tabs_below (unhide HT) hW1) ho1.toBs rfl (by omega))
  rw [unhide EA] at K1
  go_wp2_with fail
  refine (unhide K1).mono ?_
  rintro e w2 ⟨rfl, hb2⟩
  have hW2 := hW1.trans (hb2.mono hW1.size)
  have ho2 := ho1.below hb2 (Nat.le_refl _)
  clear K1 hb2 hW1 ho1
  have K2 := hide (rchars_any (unhide HH) a0 _ cap0 r w2 (p0.below hW2 (Nat.le_refl _)) rfl (by omega))
  rw [unhide EA] at K2
  go_wp2_with fail
  refine (unhide K2).mono ?_
  rintro e w3 ⟨rfl, hb3⟩
  have hW3 := hW2.trans (hb3.mono hW2.size)
  have ho3 := ho2.below hb3 (Nat.le_refl _)
  clear K2 hb3 hW2 ho2
  go_wp2_with fail
  refine (equal_any a1 _ cap1 r a0 _ cap0 r w3 ho3.toBs.row (p0.below hW3 (Nat.le_refl _)).row rfl rfl).mono ?_
  rintro e w4 ⟨rfl, rfl⟩
  have hrr : (r == r) = true := by simp
  have K3 := hide (chars_any (some ⟨w4.heap.size, 0, none⟩) 3 3 [195, 169, 255] _ (tabs_alloc (Utf8Tabs_below (unhide HT) hW3) (.cells #[.int .u8 195, .int .u8 169, .int .u8 255] 5)) (lit3 w4) rfl (by simp))
  rw [chI_3] at K3
  go_wp2_with fail
  refine (unhide K3).mono ?_
  rintro e w5 ⟨rfl, hb5⟩
  have hW5 : Below w.heap.size w w5 := (hW3.alloc hW3.size _).trans (hb5.mono (by have := hW3.size; simp; omega))
  clear K3 hb5 hW3 ho3
  go_wp2
  go_ret
  exact ⟨rfl, hW5⟩
theorem wireChars_of (H : FirstSays) (a0 : Option Addr) (cap0 : Nat) (l0 : List UInt8) (w : World) (p0 : Bs w a0 cap0 l0) (hT : Tabs w) :
    Calls Tryd.prog 3 #[.slice a0 l0.length cap0] w fun e w' => e = .returned (.bool true) ∧ Below w.heap.size w w' := by
  by_cases h : 262144 < l0.length
  · exact wireChars_big a0 cap0 l0 w hT (Nat.le_trans p0.le p0.most) h
  · exact wireChars_small H a0 cap0 l0 w hT p0 h
#print axioms wireChars_of
end Go.Proofs.YtfnlcgdclamhcaaDoor
