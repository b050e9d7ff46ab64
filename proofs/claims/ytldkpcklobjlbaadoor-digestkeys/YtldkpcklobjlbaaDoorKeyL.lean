/-
  THE WALK of DigestKeys.
-/
import Derived.Test.YtldkpcklobjlbaaDoorMacW
import Derived.Test.YtldkpcklobjlbaaDoorCat
import Derived.Deep.RegionWith
set_option linter.unusedVariables false
namespace Go.Proofs.YtldkpcklobjlbaaDoor
open Go.RowKit

theorem kblk_pad (key : List UInt8) (n : Nat) (h : key.length + n ≤ 64) : kblk (key ++ noughts n) = kblk key := by
  unfold kblk
  have e1 : ¬ 64 < (key ++ noughts n).length := by simp [noughts]; omega
  have e2 : ¬ 64 < key.length := by omega
  rw [if_neg e1, if_neg e2]
  have e3 : (noughts 64).drop (key ++ noughts n).length = noughts (64 - (key.length + n)) := by unfold noughts; rw [List.drop_replicate]; simp
  have e4 : (noughts 64).drop key.length = noughts (64 - key.length) := by unfold noughts; exact List.drop_replicate
  rw [e3, e4, List.append_assoc]
  congr 1
  unfold noughts
  rw [List.replicate_append_replicate]
  congr 1
  omega
theorem kblk_long (key : List UInt8) (h : 64 < key.length) : kblk (sha2 key) = kblk key := by
  unfold kblk
  rw [if_pos h, if_neg (by rw [sha2_length]; omega)]
theorem mac_pad (key l : List UInt8) (n : Nat) (h : key.length + n ≤ 64) : mac (key ++ noughts n) l = mac key l := by unfold mac; rw [kblk_pad key n h]
theorem mac_long (key l : List UInt8) (h : 64 < key.length) : mac (sha2 key) l = mac key l := by unfold mac; rw [kblk_long key h]

theorem wrapmod (z : Int) (m : Int) (h0 : 0 < m) (h1 : m ≤ 1000) : ∃ r : Nat, (r : Int) < m ∧ wrap64 ((IntKind.u64.wrap z).tmod m) = (r : Int) := by
  have e : IntKind.u64.wrap z = z % 18446744073709551616 := by simp [IntKind.wrap, IntKind.bits, IntKind.signed]
  have h2 : 0 ≤ z % 18446744073709551616 := Int.emod_nonneg _ (by omega)
  have e2 : (z % 18446744073709551616).tmod m = z % 18446744073709551616 % m := Int.tmod_eq_emod_of_nonneg h2
  have h3 : 0 ≤ z % 18446744073709551616 % m := Int.emod_nonneg _ (by omega)
  have h4 : z % 18446744073709551616 % m < m := Int.emod_lt_of_pos _ h0
  refine ⟨(z % 18446744073709551616 % m).toNat, by omega, ?_⟩
  rw [e, e2, IntWalk.wrap64_in _ (by omega)]
  omega
theorem made_noughts (n : Nat) : (madeCells (Value.int .u8 0).cells (n * 1)).toList = bs (noughts n) := by
  have e : ∀ x : Nat, (Value.int IntKind.u8 0).cells[x % (Value.int IntKind.u8 0).cells.size]! = Value.int .u8 0 := by
    intro x
    have hs : (Value.int IntKind.u8 0).cells.size = 1 := rfl
    rw [hs, Nat.mod_one]
    rfl
  simp only [madeCells, Nat.mul_one, Array.toList_map, Array.toList_range, e, bs, noughts, List.map_replicate]
  rw [List.map_const']
  simp

/-- What stays through a region whose order is open. -/
def Inv7 (w : World) (D : Nat) (d : List UInt8) (W : World) : Prop := Below w.heap.size w W ∧ Cel W D 31 (bs d) ∧ w.heap.size ≤ D
theorem Inv7.next {w W W' : World} {D : Nat} {d : List UInt8} (h : Inv7 w D d W) (hb : Below W.heap.size W W') : Inv7 w D d W' := ⟨h.1.trans (hb.mono h.1.size), h.2.1.below hb h.2.1.lt, h.2.2⟩

set_option maxRecDepth 1000000 in
set_option maxHeartbeats 4000000 in
theorem digestKeys_walk (a0 : Option Addr) (cap0 : Nat) (l0 : List UInt8) (a1 : Option Addr) (cap1 : Nat) (l1 : List UInt8) (z : Int) (w : World) (w0 : Bs w a0 cap0 l0) (w1 : Bs w a1 cap1 l1) (hT : Tb w) :
    Calls Tryd.prog 7 #[.slice a0 l0.length cap0, .slice a1 l1.length cap1, .int .i64 z] w fun e w' => e = .returned (.bool true) ∧ Below w.heap.size w w' := by
  have hm0 : l0.length ≤ maxLen := Nat.le_trans w0.le w0.most
  have hm1 : l1.length ≤ maxLen := Nat.le_trans w1.le w1.most
  unfold maxLen at hm0 hm1
  have HT := hide hT
  have H0 := hide w0
  have H1 := hide w1
  clear w0 w1 hT
  by_cases hb1 : 20000 < l1.length
  · go_enter Tryd.func7, Tryd.ntmps7
    go_wp2_with (go_at_call 9; refine (awake_any _ HT.out).mono ?_; rintro e w9 ⟨rfl, hb9⟩)
    go_ret
    exact ⟨rfl, hb9⟩
  by_cases hb0 : 20000 < l0.length
  · have hd1 : decide ((20000 : Int) < (l1.length : Int)) = false := decide_eq_false (by omega)
    go_enter Tryd.func7, Tryd.ntmps7
    go_wp2_with (go_at_call 9; refine (awake_any _ HT.out).mono ?_; rintro e w9 ⟨rfl, hb9⟩)
    go_ret
    exact ⟨rfl, hb9⟩
  have hd1 : decide ((20000 : Int) < (l1.length : Int)) = false := decide_eq_false (by omega)
  have hd0 : decide ((20000 : Int) < (l0.length : Int)) = false := decide_eq_false (by omega)
  obtain ⟨M, hM⟩ : ∃ M, mac l0 l1 = M := ⟨_, rfl⟩
  have hML : M.length = 32 := by rw [← hM]; exact mac_length _ _
  have heq := fun w => eq_hash w M hML
  have HMC : Hid (∀ w, Bs w a0 cap0 l0 → Bs w a1 cap1 l1 → Tb w → Calls Tryd.prog 16 #[.slice a0 l0.length cap0, .slice a1 l1.length cap1] w fun e w' => e = .returned (.agg (bs M).toArray) ∧ Below w.heap.size w w') := by
    intro w h0 h1 t
    rw [← hM]
    exact mac_any a0 cap0 l0 a1 cap1 l1 w h0 h1 t (by omega) (by omega)
  by_cases h64 : 64 < l0.length
  · obtain ⟨d, hd⟩ : ∃ d, sha2 l0 = d := ⟨_, rfl⟩
    have hdl : d.length = 32 := by rw [← hd]; exact sha2_length _
    have HDL := hide hdl
    have hlong : mac d l1 = M := by rw [← hd, mac_long l0 l1 h64]; exact hM
    have HSH : Hid (∀ w, Bs w a0 cap0 l0 → Tb w → Calls Tryd.prog 14 #[.slice a0 l0.length cap0] w fun e w' => e = .returned (.agg (bs d).toArray) ∧ Below w.heap.size w w') := by
      intro w h t
      rw [← hd]
      exact sha2_any a0 cap0 l0 w h (by omega) t
    have HC1 : Hid (∀ D W v, (v = .slice a0 l0.length cap0 ∨ v = .slice (some ⟨D, 0, none⟩) 32 32) → Hid (Inv7 w D d W) → Calls Tryd.prog 16 #[v, .slice a1 l1.length cap1] W fun e W' => e = .returned (.agg (bs M).toArray) ∧ Hid (Inv7 w D d W')) := by
      intro D W v hv h
      rcases hv with rfl | rfl
      · refine (HMC.out W (H0.out.below h.out.1 (Nat.le_refl _)) (H1.out.below h.out.1 (Nat.le_refl _)) (HT.out.below h.out.1 HT.out.big)).mono ?_
        rintro e W' ⟨rfl, hb⟩
        exact ⟨rfl, h.out.next hb⟩
      · have hm := mac_any (some ⟨D, 0, none⟩) 32 d a1 cap1 l1 W ⟨h.out.2.1.row, by rw [hdl]; exact Nat.le_refl _, by unfold maxLen; decide, fun h => by cases h⟩ (H1.out.below h.out.1 (Nat.le_refl _)) (HT.out.below h.out.1 HT.out.big) (by omega) (by omega)
        rw [hlong, hdl] at hm
        refine hm.mono ?_
        rintro e W' ⟨rfl, hb⟩
        exact ⟨rfl, h.out.next hb⟩
    have HC3 : Hid (∀ D W, Hid (Inv7 w D d W) → Calls Tryd.prog 9 #[] W fun e W' => e = .returned (.bool true) ∧ Hid (Inv7 w D d W')) := by
      intro D W h
      refine (awake_any W (HT.out.below h.out.1 HT.out.big)).mono ?_
      rintro e W' ⟨rfl, hb⟩
      exact ⟨rfl, h.out.next hb⟩
    clear hdl hlong hd hML hM HMC
    go_enter Tryd.func7, Tryd.ntmps7
    go_wp2_with (first
      | (go_at_call 14; refine (HSH.out w H0.out HT.out).mono ?_; rintro e w2 ⟨rfl, hb2⟩; have HB2 := hide hb2; clear hb2)
      | (refine wpL_store rfl 31 _ _ rfl _ rfl (bs d) rfl 31 (bs (noughts 32)) (Cel.newAt' w2 _ _ _ _ rfl rfl) (by rw [bs_length, bs_length, HDL.out]; rfl) (by rw [bs_length, HDL.out]; kernel_rfl) (bs_one' _) ?_; intro w3 hC3 hg3; have HI3 : Hid (Inv7 w w2.heap.size d w3.drew) := ⟨(HB2.out.trans (cg_to_below (cg_trans (cg_alloc w2 _ (some w2.heap.size)) hg3) HB2.out.size HB2.out.size)).drew, hC3.drew, HB2.out.size⟩; clear hC3 hg3))
    go_region_with (first
      | (go_at_call 16; refine (HC1.out w2.heap.size _ _ (by first | exact .inl rfl | exact .inr rfl) ‹_›).mono ?_; rintro e w5 ⟨rfl, hI5⟩)
      | (go_at_call 9; refine (HC3.out w2.heap.size _ ‹_›).mono ?_; rintro e w7 ⟨rfl, hI7⟩))
    all_goals
      go_wp2
      go_ret
      exact ⟨rfl, hI7.out.1⟩
  · have hd64 : decide ((64 : Int) < (l0.length : Int)) = false := decide_eq_false (by omega)
    obtain ⟨n, hn1, hn2⟩ := wrapmod z (65 - (l0.length : Int)) (by omega) (by omega)
    have hpad : mac (l0 ++ noughts n) l1 = M := by rw [mac_pad l0 l1 n (by omega)]; exact hM
    have HPD := hide hpad
    obtain ⟨ib, hib, hz0, hz1, hz2⟩ := info_parts Tryd.infoB
    have HN1 := hide hn1
    clear hpad hML hM
    go_enter Tryd.func7, Tryd.ntmps7
    go_wp2_with (first
      | (refine wpList_make_full _ rfl _ _ _ rfl w.heap.size 5 ib (.int .u8 0) 1 Tryd.underlying22 hib hz0 hz1 .i64 .i64 _ _ n rfl rfl (by first | rfl | exact hn2) (by first | rfl | exact hn2) (by rw [hz2]; omega) (by unfold maxLen; omega) (Nat.le_refl _) ?_; intro w2 ho2 hg2; rw [made_noughts] at ho2; have HO2 := hide (show OwnB w2 w.heap.size (some ⟨w.heap.size, 0, none⟩) n (noughts n) by unfold OwnB; simpa [noughts] using ho2); have HB2 := hide (below_grown (a := none) (Below.refl w.heap.size w) hg2 (Nat.le_refl _) (fun k hk => by simp [blk] at hk)); clear ho2 hg2))
    have hnl : (noughts n).length = n := by simp [noughts]
    have HNL := hide hnl
    have hbs2 : Bs w2 (some ⟨w.heap.size, 0, none⟩) n (noughts n) := HO2.out.toBs
    have HBS2 := hide hbs2
    have HCC : Hid (Calls Tryd.prog 18 #[.slice (some ⟨w2.heap.size, 0, none⟩) 2 2] (w2.alloc (.cells #[.slice a0 l0.length cap0, .slice (some ⟨w.heap.size, 0, none⟩) n n] 22))
        fun e w' => ∃ a' cap' r, e = .returned (.slice a' r.length cap') ∧ Hid (r = l0 ++ noughts n) ∧ Hid (Bs w' a' cap' r) ∧ Hid (Below w.heap.size w w')) := by
      refine (concat_two w2.heap.size a0 cap0 l0 (some ⟨w.heap.size, 0, none⟩) n (noughts n) _ ((H0.out.below HB2.out (Nat.le_refl _)).alloc _) (hbs2.alloc _) (by simp) (by rw [hnl]; simp) (by omega) (by rw [hnl]; omega)).mono ?_
      rintro e w3 ⟨a3, c3, r, rfl, hr, ho3, hb3⟩
      exact ⟨a3, c3, r, rfl, hr, ho3.toBs, (HB2.out.alloc HB2.out.size _).trans (hb3.mono (Nat.le_trans HB2.out.size (by simp)))⟩
    clear hbs2 hnl
    go_wp2_with fail
    refine HCC.out.mono ?_
    rintro e w3 ⟨a3, c3, r, rfl, hr, HO3, HB3⟩
    have HM3 : Hid (Calls Tryd.prog 16 #[.slice a3 r.length c3, .slice a1 l1.length cap1] w3 fun e w' => e = .returned (.agg (bs M).toArray) ∧ Hid (Below w.heap.size w w')) := by
      have hrl : r.length ≤ 100 := (by rw [hr.out, List.length_append, HNL.out]; omega)
      refine (mac_any a3 c3 r a1 cap1 l1 _ HO3.out (H1.out.below HB3.out (Nat.le_refl _)) (HT.out.below HB3.out HT.out.big) (by omega) (by omega)).mono ?_
      rintro e w4 ⟨rfl, hb4⟩
      rw [hr.out, HPD.out]
      exact ⟨rfl, HB3.out.trans (hb4.mono HB3.out.size)⟩
    clear hr HO3 HCC
    go_wp2_with fail
    refine HM3.out.mono ?_
    rintro e w4 ⟨rfl, HB4⟩
    go_wp2_with fail
    refine (HMC.out _ (H0.out.below HB4.out (Nat.le_refl _)) (H1.out.below HB4.out (Nat.le_refl _)) (HT.out.below HB4.out HT.out.big)).mono ?_
    rintro e w5 ⟨rfl, hb5⟩
    have HB5 := hide (HB4.out.trans (hb5.mono HB4.out.size))
    clear hb5
    go_wp2_with fail
    refine (awake_any _ (HT.out.below HB5.out HT.out.big)).mono ?_
    rintro e w6 ⟨rfl, hb6⟩
    have HB6 := hide (HB5.out.trans (hb6.mono HB5.out.size))
    clear hb6
    go_wp2
    go_ret
    exact ⟨rfl, HB6.out⟩
#print axioms digestKeys_walk
end Go.Proofs.YtldkpcklobjlbaaDoor
