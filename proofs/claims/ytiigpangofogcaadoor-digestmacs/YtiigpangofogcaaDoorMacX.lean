/-
  THE WALK of DigestMacs.
-/
import Derived.Test.YtiigpangofogcaaDoorRfM
import Derived.Test.YtiigpangofogcaaDoorSamL
import Derived.Deep.RegionWith
set_option linter.unusedVariables false
namespace Go.Proofs.YtiigpangofogcaaDoor
open Go.RowKit

/-- What stays: the digest's array and the copies of what was given. -/
def Inv7 (w : World) (D : Nat) (d : List UInt8) (t : TypeId) (ak : Option Addr) (ck : Nat) (rk : List UInt8) (ao : Option Addr) (co : Nat) (ro : List UInt8) (W : World) : Prop := Below w.heap.size w W ∧ Cel W D t (bs d) ∧ w.heap.size ≤ D ∧ Bs W ao co ro ∧ Bs W ak ck rk
theorem Inv7.next {w W W' : World} {D : Nat} {d : List UInt8} {t : TypeId} {ak : Option Addr} {ck : Nat} {rk : List UInt8} {ao : Option Addr} {co : Nat} {ro : List UInt8} (h : Inv7 w D d t ak ck rk ao co ro W) (hb : Below W.heap.size W W') : Inv7 w D d t ak ck rk ao co ro W' :=
  ⟨h.1.trans (hb.mono h.1.size), h.2.1.below hb h.2.1.lt, h.2.2.1, h.2.2.2.1.below hb (Nat.le_refl _), h.2.2.2.2.below hb (Nat.le_refl _)⟩

set_option maxRecDepth 1000000 in
set_option maxHeartbeats 4000000 in
theorem digestMacs_walk (a0 : Option Addr) (cap0 : Nat) (l0 : List UInt8) (a1 : Option Addr) (cap1 : Nat) (l1 : List UInt8) (w : World) (w0 : Bs w a0 cap0 l0) (w1 : Bs w a1 cap1 l1) (hT : Tb w) :
    Calls Tryd.prog 3 #[.slice a0 l0.length cap0, .slice a1 l1.length cap1] w fun e w' => e = .returned (.bool true) ∧ Below w.heap.size w w' := by
  have hm0 : l0.length ≤ maxLen := Nat.le_trans w0.le w0.most
  have hm1 : l1.length ≤ maxLen := Nat.le_trans w1.le w1.most
  unfold maxLen at hm0 hm1
  have HT := hide hT
  have H0 := hide w0
  have H1 := hide w1
  clear w0 w1 hT
  by_cases hb1 : 20000 < l1.length
  · go_enter Tryd.func3, Tryd.ntmps3
    go_wp2_with (go_at_call 4; refine (awake_any _ HT.out).mono ?_; rintro e w9 ⟨rfl, hb9⟩)
    go_ret
    exact ⟨rfl, hb9⟩
  have hd1 : decide ((20000 : Int) < (l1.length : Int)) = false := decide_eq_false (by omega)
  by_cases hb0 : 20000 < l0.length
  · go_enter Tryd.func3, Tryd.ntmps3
    go_wp2_with (go_at_call 4; refine (awake_any _ HT.out).mono ?_; rintro e w9 ⟨rfl, hb9⟩)
    go_ret
    exact ⟨rfl, hb9⟩
  have hd0 : decide ((20000 : Int) < (l0.length : Int)) = false := decide_eq_false (by omega)
  go_enter Tryd.func3, Tryd.ntmps3
  go_wp2_with fail
  refine (sclone_big a0 l0.length cap0 l0 w H0.out rfl (by omega)).mono ?_
  rintro e w2 ⟨a2, cap2, r, rfl, hr, ho2, hb2⟩
  have er : l0 = r := hr.out.symm
  subst er
  have HB2 := hide hb2
  have HO2 := hide ho2.toBs
  clear hr hb2 ho2
  go_wp2_with fail
  refine (sclone_big a1 l1.length cap1 l1 w2 (H1.out.below HB2.out (Nat.le_refl _)) rfl (by omega)).mono ?_
  rintro e w3 ⟨a3, cap3, r, rfl, hr, ho3, hb3⟩
  have er : l1 = r := hr.out.symm
  subst er
  have HB3 : Hid (Below w.heap.size w w3) := HB2.out.trans (hb3.mono HB2.out.size)
  have HK3 := hide (HO2.out.below hb3 (Nat.le_refl _))
  have HO3 := hide ho3.toBs
  clear hr hb3 ho3 HB2 HO2
  obtain ⟨d, hd⟩ : ∃ d, mac l0 l1 = d := ⟨_, rfl⟩
  have hdl : d.length = 32 := by rw [← hd]; exact mac_length _ _
  have HDL := hide hdl
  have HD := hide hd
  have HSH : Hid (Calls Tryd.prog 6 #[.slice a2 l0.length cap2, .slice a3 l1.length cap3] w3 fun e w' => e = .returned (.agg (bs d).toArray) ∧ Below w3.heap.size w3 w') := by
    have h := mac_any a2 cap2 l0 a3 cap3 l1 w3 HK3.out HO3.out (HT.out.below HB3.out HT.out.big) (by omega) (by omega)
    rw [hd] at h
    exact h
  have HC1 : Hid (∀ D W, Hid (Inv7 w D d 26 a2 cap2 l0 a3 cap3 l1 W) → Calls Tryd.prog 8 #[.slice a0 l0.length cap0, .slice a1 l1.length cap1] W fun e W' => ∃ a' c' r, e = .returned (.slice a' r.length c') ∧ Hid (r = d) ∧ Hid (Bs W' a' c' r) ∧ Hid (Inv7 w D d 26 a2 cap2 l0 a3 cap3 l1 W')) := by
    intro D W h
    refine (rmac_any a0 cap0 l0 a1 cap1 l1 W (H0.out.below h.out.1 (Nat.le_refl _)) (H1.out.below h.out.1 (Nat.le_refl _)) (by omega) (by omega)).mono ?_
    rintro e W' ⟨a', c', r, rfl, hr, ho, hb⟩
    exact ⟨a', c', r, rfl, (by show _ = _; rw [hr.out]; exact HD.out), ho, h.out.next hb.out⟩
  have HC2 : Hid (∀ D W v1 v2, ((∃ a' c' r, v1 = .slice (some ⟨D, 0, none⟩) 32 32 ∧ v2 = .slice a' r.length c' ∧ Hid (r = d) ∧ Hid (Bs W a' c' r)) ∨ (v1 = .slice a3 l1.length cap3 ∧ v2 = .slice a1 l1.length cap1) ∨ (v1 = .slice a2 l0.length cap2 ∧ v2 = .slice a0 l0.length cap0)) → Hid (Inv7 w D d 26 a2 cap2 l0 a3 cap3 l1 W) → Calls Tryd.prog 7 #[v1, v2] W fun e W' => e = .returned (.bool true) ∧ Hid (Inv7 w D d 26 a2 cap2 l0 a3 cap3 l1 W')) := by
    intro D W v1 v2 hv h
    rcases hv with ⟨a', c', r, rfl, rfl, hr, hB⟩ | ⟨rfl, rfl⟩ | ⟨rfl, rfl⟩
    · have h2 := eqs_big (some ⟨D, 0, none⟩) 32 d a' c' r 32 r.length W h.out.2.1.row hB.out.row HDL.out.symm rfl (by omega) (by rw [hr.out, HDL.out]; omega)
      rw [show (d == r) = true by rw [hr.out]; simp] at h2
      refine h2.mono ?_
      rintro e W' ⟨rfl, hb⟩
      exact ⟨rfl, h.out.next hb⟩
    · have h2 := eqs_big a3 cap3 l1 a1 cap1 l1 l1.length l1.length W h.out.2.2.2.1.row (H1.out.row.below h.out.1 (Nat.le_refl _)) rfl rfl (by omega) (by omega)
      rw [show (l1 == l1) = true by simp] at h2
      refine h2.mono ?_
      rintro e W' ⟨rfl, hb⟩
      exact ⟨rfl, h.out.next hb⟩
    · have h2 := eqs_big a2 cap2 l0 a0 cap0 l0 l0.length l0.length W h.out.2.2.2.2.row (H0.out.row.below h.out.1 (Nat.le_refl _)) rfl rfl (by omega) (by omega)
      rw [show (l0 == l0) = true by simp] at h2
      refine h2.mono ?_
      rintro e W' ⟨rfl, hb⟩
      exact ⟨rfl, h.out.next hb⟩
  have HC4 : Hid (∀ D W, Hid (Inv7 w D d 26 a2 cap2 l0 a3 cap3 l1 W) → Calls Tryd.prog 4 #[] W fun e W' => e = .returned (.bool true) ∧ Hid (Inv7 w D d 26 a2 cap2 l0 a3 cap3 l1 W')) := by
    intro D W h
    refine (awake_any W (HT.out.below h.out.1 HT.out.big)).mono ?_
    rintro e W' ⟨rfl, hb⟩
    exact ⟨rfl, h.out.next hb⟩
  clear hd hdl
  go_wp2_with (first
    | (go_at_call 6; refine HSH.out.mono ?_; rintro e w5 ⟨rfl, hb5⟩; have HB5 := hide (HB3.out.trans (hb5.mono HB3.out.size)); have HO5 := hide (HO3.out.below hb5 (Nat.le_refl _)); have HK5 := hide (HK3.out.below hb5 (Nat.le_refl _)); clear hb5)
    | (refine wpL_store rfl 26 _ _ rfl _ rfl (bs d) rfl 26 (bs (noughts 32)) (Cel.newAt' w5 _ _ _ _ rfl rfl) (by rw [bs_length, bs_length, HDL.out]; rfl) (by rw [bs_length, HDL.out]; kernel_rfl) (bs_one' _) ?_; intro w4 hC4 hg4; have hb4 := hide (cg_to_below (cg_trans (cg_alloc w5 _ (some w5.heap.size)) hg4) (Nat.le_refl _) (Nat.le_refl _)); have HI4 : Hid (Inv7 w w5.heap.size d 26 a2 cap2 l0 a3 cap3 l1 w4.drew) := ⟨(HB5.out.trans (cg_to_below (cg_trans (cg_alloc w5 _ (some w5.heap.size)) hg4) HB5.out.size HB5.out.size)).drew, hC4.drew, HB5.out.size, (HO5.out.below hb4.out (Nat.le_refl _)).below (Below.refl _ _).drew (Nat.le_refl _), (HK5.out.below hb4.out (Nat.le_refl _)).below (Below.refl _ _).drew (Nat.le_refl _)⟩; clear hC4 hg4 hb4))
  clear HSH HB3 HB5 HO3 HO5 HK3 HK5 HD
  go_region_with (first
    | (go_at_call 8; refine (HC1.out w5.heap.size _ (by assumption)).mono ?_; rintro e w6 ⟨a6, c6, r6, rfl, hr6, hs6, hI6⟩)
    | (go_at_call 7; refine (HC2.out w5.heap.size _ _ _ (by first | exact .inl ⟨a6, c6, r6, rfl, rfl, hr6, hs6⟩ | exact .inr (.inl ⟨rfl, rfl⟩) | exact .inr (.inr ⟨rfl, rfl⟩)) (by assumption)).mono ?_; rintro e w7 ⟨rfl, hI7⟩)
    | (go_at_call 4; refine (HC4.out w5.heap.size _ (by assumption)).mono ?_; rintro e w9 ⟨rfl, hI9⟩))
  all_goals
    go_wp2
    go_ret
    exact ⟨rfl, hI9.out.1⟩
#print axioms digestMacs_walk
end Go.Proofs.YtiigpangofogcaaDoor
