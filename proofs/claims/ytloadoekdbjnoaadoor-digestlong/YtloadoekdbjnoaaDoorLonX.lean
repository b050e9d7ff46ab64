/-
  THE WALK of DigestLong.
-/
import Derived.Test.YtloadoekdbjnoaaDoorQxC
import Derived.Test.YtloadoekdbjnoaaDoorSamL
import Derived.Deep.RegionWith
set_option linter.unusedVariables false
namespace Go.Proofs.YtloadoekdbjnoaaDoor
open Go.RowKit

/-- What stays: the digest's array and the copy of what was given. -/
def Inv9 (w : World) (D : Nat) (d : List UInt8) (t : TypeId) (ao : Option Addr) (co : Nat) (ro : List UInt8) (W : World) : Prop := Below w.heap.size w W ∧ Cel W D t (bs d) ∧ w.heap.size ≤ D ∧ Bs W ao co ro
theorem Inv9.next {w W W' : World} {D : Nat} {d : List UInt8} {t : TypeId} {ao : Option Addr} {co : Nat} {ro : List UInt8} (h : Inv9 w D d t ao co ro W) (hb : Below W.heap.size W W') : Inv9 w D d t ao co ro W' :=
  ⟨h.1.trans (hb.mono h.1.size), h.2.1.below hb h.2.1.lt, h.2.2.1, h.2.2.2.below hb (Nat.le_refl _)⟩

set_option maxRecDepth 1000000 in
set_option maxHeartbeats 4000000 in
theorem digestLong_walk (a0 : Option Addr) (cap0 : Nat) (l0 : List UInt8) (w : World) (w0 : Bs w a0 cap0 l0) (hT : Tb w) :
    Calls Tryd.prog 4 #[.slice a0 l0.length cap0] w fun e w' => e = .returned (.bool true) ∧ Below w.heap.size w w' := by
  have hm0 : l0.length ≤ maxLen := Nat.le_trans w0.le w0.most
  unfold maxLen at hm0
  have HT := hide hT
  have H0 := hide w0
  clear w0 hT
  by_cases hb0 : 20000 < l0.length
  · go_enter Tryd.func4, Tryd.ntmps4
    go_wp2_with (go_at_call 9; refine (awake_any _ HT.out).mono ?_; rintro e w9 ⟨rfl, hb9⟩)
    go_ret
    exact ⟨rfl, hb9⟩
  have hd0 : decide ((20000 : Int) < (l0.length : Int)) = false := decide_eq_false (by omega)
  go_enter Tryd.func4, Tryd.ntmps4
  go_wp2_with fail
  refine (sclone_big a0 l0.length cap0 l0 w H0.out rfl (by omega)).mono ?_
  rintro e w2 ⟨a2, cap2, r, rfl, hr, ho2, hb2⟩
  have er : l0 = r := hr.out.symm
  subst er
  have HB2 := hide hb2
  have HO2 := hide ho2.toBs
  clear hr hb2 ho2
  obtain ⟨d, hd⟩ : ∃ d, sha2 l0 = d := ⟨_, rfl⟩
  have hdl : d.length = 32 := by rw [← hd]; exact sha2_length _
  have HDL := hide hdl
  have HD := hide hd
  have HSH : Hid (Calls Tryd.prog 14 #[.slice a2 l0.length cap2] w2 fun e w' => e = .returned (.agg (bs d).toArray) ∧ Below w2.heap.size w2 w') := by
    have h := sha2_any a2 cap2 l0 w2 HO2.out (by omega) (HT.out.below HB2.out HT.out.big)
    rw [hd] at h
    exact h
  have HC1 : Hid (∀ D W, Hid (Inv9 w D d 31 a2 cap2 l0 W) → Calls Tryd.prog 15 #[.slice a0 l0.length cap0] W fun e W' => ∃ a' c' r, e = .returned (.slice a' r.length c') ∧ Hid (r = d) ∧ Hid (Bs W' a' c' r) ∧ Hid (Inv9 w D d 31 a2 cap2 l0 W')) := by
    intro D W h
    refine (rsha2_any a0 cap0 l0 W (H0.out.below h.out.1 (Nat.le_refl _)) (by omega)).mono ?_
    rintro e W' ⟨a', c', r, rfl, hr, ho, hb⟩
    exact ⟨a', c', r, rfl, (by show _ = _; rw [hr.out]; exact HD.out), ho.out.toBs, h.out.next hb.out⟩
  have HC2 : Hid (∀ D W v1 v2, ((∃ a' c' r, v1 = .slice (some ⟨D, 0, none⟩) 32 32 ∧ v2 = .slice a' r.length c' ∧ Hid (r = d) ∧ Hid (Bs W a' c' r)) ∨ (v1 = .slice a2 l0.length cap2 ∧ v2 = .slice a0 l0.length cap0)) → Hid (Inv9 w D d 31 a2 cap2 l0 W) → Calls Tryd.prog 12 #[v1, v2] W fun e W' => e = .returned (.bool true) ∧ Hid (Inv9 w D d 31 a2 cap2 l0 W')) := by
    intro D W v1 v2 hv h
    rcases hv with ⟨a', c', r, rfl, rfl, hr, hB⟩ | ⟨rfl, rfl⟩
    · have h2 := eqs_big (some ⟨D, 0, none⟩) 32 d a' c' r 32 r.length W h.out.2.1.row hB.out.row HDL.out.symm rfl (by omega) (by rw [hr.out, HDL.out]; omega)
      rw [show (d == r) = true by rw [hr.out]; simp] at h2
      refine h2.mono ?_
      rintro e W' ⟨rfl, hb⟩
      exact ⟨rfl, h.out.next hb⟩
    · have h2 := eqs_big a2 cap2 l0 a0 cap0 l0 l0.length l0.length W h.out.2.2.2.row (H0.out.row.below h.out.1 (Nat.le_refl _)) rfl rfl (by omega) (by omega)
      rw [show (l0 == l0) = true by simp] at h2
      refine h2.mono ?_
      rintro e W' ⟨rfl, hb⟩
      exact ⟨rfl, h.out.next hb⟩
  have HC4 : Hid (∀ D W, Hid (Inv9 w D d 31 a2 cap2 l0 W) → Calls Tryd.prog 9 #[] W fun e W' => e = .returned (.bool true) ∧ Hid (Inv9 w D d 31 a2 cap2 l0 W')) := by
    intro D W h
    refine (awake_any W (HT.out.below h.out.1 HT.out.big)).mono ?_
    rintro e W' ⟨rfl, hb⟩
    exact ⟨rfl, h.out.next hb⟩
  clear hd hdl
  go_wp2_with (first
    | (go_at_call 14; refine HSH.out.mono ?_; rintro e w3 ⟨rfl, hb3⟩; have HB3 := hide (HB2.out.trans (hb3.mono HB2.out.size)); have HO3 := hide (HO2.out.below hb3 (Nat.le_refl _)); clear hb3)
    | (refine wpL_store rfl 31 _ _ rfl _ rfl (bs d) rfl 31 (bs (noughts 32)) (Cel.newAt' w3 _ _ _ _ rfl rfl) (by rw [bs_length, bs_length, HDL.out]; rfl) (by rw [bs_length, HDL.out]; kernel_rfl) (bs_one' _) ?_; intro w4 hC4 hg4; have hb4 := hide (cg_to_below (cg_trans (cg_alloc w3 _ (some w3.heap.size)) hg4) (Nat.le_refl _) (Nat.le_refl _)); have HI4 : Hid (Inv9 w w3.heap.size d 31 a2 cap2 l0 w4.drew) := ⟨(HB3.out.trans (cg_to_below (cg_trans (cg_alloc w3 _ (some w3.heap.size)) hg4) HB3.out.size HB3.out.size)).drew, hC4.drew, HB3.out.size, (HO3.out.below hb4.out (Nat.le_refl _)).below (Below.refl _ _).drew (Nat.le_refl _)⟩; clear hC4 hg4 hb4))
  clear HSH HB2 HB3 HO2 HO3 HD
  go_region_with (first
    | (go_at_call 15; refine (HC1.out w3.heap.size _ (by assumption)).mono ?_; rintro e w6 ⟨a6, c6, r6, rfl, hr6, hs6, hI6⟩)
    | (go_at_call 12; refine (HC2.out w3.heap.size _ _ _ (by first | exact .inl ⟨a6, c6, r6, rfl, rfl, hr6, hs6⟩ | exact .inr ⟨rfl, rfl⟩) (by assumption)).mono ?_; rintro e w7 ⟨rfl, hI7⟩)
    | (go_at_call 9; refine (HC4.out w3.heap.size _ (by assumption)).mono ?_; rintro e w9 ⟨rfl, hI9⟩))
  all_goals
    go_wp2
    go_ret
    exact ⟨rfl, hI9.out.1⟩
#print axioms digestLong_walk
end Go.Proofs.YtloadoekdbjnoaaDoor
