/-
  authtok: THE WALK of Make.
-/
import Derived.Test.YtoapkajlgnlecaaDoorAutC
set_option linter.unusedVariables false
set_option maxRecDepth 1000000
namespace Go.Proofs.YtoapkajlgnlecaaDoor
open Go.RowKit

theorem str_app (a b : List UInt8) : str a ++ str b = str (a ++ b) := by
  apply ByteArray.ext
  simp [str]
theorem run_add_str (w : World) (x y : List UInt8) (hx : x.length ≤ 8388608) (hy : y.length ≤ 8388608) : (Op.stringOp .add (str x) (str y)).run Tryd.prog w = .ok (.string (str (x ++ y))) w := by
  rw [run_string_add_sum w _ _ (by rw [str_size, str_size]; omega), str_app]
/-- What stays while the two halves are spelt. -/
def InvT (w : World) (D : Nat) (d : List UInt8) (a : Option Addr) (c : Nat) (r : List UInt8) (W : World) : Prop := Below w.heap.size w W ∧ Cel W D 52 (bs d) ∧ Bs W a c r
theorem InvT.next {w W W' : World} {D : Nat} {d : List UInt8} {a : Option Addr} {c : Nat} {r : List UInt8} (h : InvT w D d a c r W) (hb : Below W.heap.size W W') : InvT w D d a c r W' :=
  ⟨h.1.trans (hb.mono h.1.size), h.2.1.below hb h.2.1.lt, h.2.2.below hb (Nat.le_refl _)⟩
theorem last_get (L : List Sec) (h : L ≠ []) : L[L.length - 1]? = some (lastS L) := by
  unfold lastS
  rw [List.getLast?_eq_getElem?]
  have : L.length - 1 < L.length := by have := List.length_pos_iff.2 h; omega
  rw [List.getElem?_eq_getElem this]
  rfl

set_option maxHeartbeats 8000000 in
theorem make_core (p : Option Addr) (cp : Nat) (L : List Sec) (c g : List UInt8) (u : Int) (w : World) (h : SecR w p L) (hT : Tb w) (hl : L.length ≤ 140737488355328) (hc : c.length ≤ 100000) (hg : g.length ≤ 100000) (hu0 : -9223372036854775808 ≤ u) (hu1 : u ≤ 9223372036854775807) :
    Calls Tryd.prog 7 #[.slice p L.length cp, .agg #[.string (str c), .string (str g), .int .i64 u]] w fun e w' => ∃ (E : Int) (t : List UInt8), e = .returned (.tuple #[.string (str t), .int .i64 E]) ∧ Hid ((E, t) = mkT L ⟨c, g, u⟩) ∧ Hid (Below w.heap.size w w') := by
  have HS := hide h
  have HT := hide hT
  clear h hT
  go_enter Tryd.func7, Tryd.ntmps7
  go_wp2_with fail
  have HC1 := hide (ClC.new w c g u)
  have HB1 : Hid (Below w.heap.size w (w.alloc (.cells #[.string (str c), .string (str g), .int .i64 u] 33))) := (Below.refl _ _).alloc (Nat.le_refl _) _
  generalize w.alloc (.cells #[.string (str c), .string (str g), .int .i64 u] 33) = w1 at *
  refine (check_any p cp L L.length w1 rfl (HS.out.below HB1.out (Nat.le_refl _)) hl).mono ?_
  rintro e w2 ⟨rfl, hb2⟩
  have HC2 := hide (HC1.out.below hb2 (Nat.le_refl _))
  have HB2 : Hid (Below w.heap.size w w2) := HB1.out.trans (hb2.mono HB1.out.size)
  clear hb2 HC1 HB1
  cases hck : ckOk L with
  | false =>
    have HM : Hid (((102 : Int), ([] : List UInt8)) = mkT L ⟨c, g, u⟩) := by show _ = _; unfold mkT; rw [if_pos hck]
    go_wp2
    go_ret2
    exact ⟨102, [], rfl, HM, HB2⟩
  | true =>
  have HCK := hide hck
  clear hck
  obtain ⟨k0, k1, k2⟩ := HC2.out
  cases hnc : nmOk c with
  | false =>
    have HM : Hid (((6 : Int), ([] : List UInt8)) = mkT L ⟨c, g, u⟩) := by
      show _ = _
      have : clOk ⟨c, g, u⟩ = 6 := by simp [clOk, hnc]
      unfold mkT
      rw [if_neg (by rw [HCK.out]; simp), this]
      simp
    have HN := hide hnc
    clear hnc
    go_wp2_with (go_at_call 16; refine (name_any c _ hc).mono ?_; rintro e w9 ⟨rfl, rfl⟩; rw [HN.out])
    go_ret2
    exact ⟨6, [], rfl, HM, HB2⟩
  | true =>
  cases hng : nmOk g with
  | false =>
    have HM : Hid (((6 : Int), ([] : List UInt8)) = mkT L ⟨c, g, u⟩) := by
      show _ = _
      have : clOk ⟨c, g, u⟩ = 6 := by simp [clOk, hng]
      unfold mkT
      rw [if_neg (by rw [HCK.out]; simp), this]
      simp
    have HN := hide hnc
    have HN2 := hide hng
    clear hnc hng
    go_wp2_with fail
    refine (name_any c _ hc).mono ?_
    rintro e w9 ⟨rfl, rfl⟩
    rw [HN.out]
    go_wp2_with fail
    refine (name_any g _ hg).mono ?_
    rintro e w9 ⟨rfl, rfl⟩
    rw [HN2.out]
    go_wp2
    go_ret2
    exact ⟨6, [], rfl, HM, HB2⟩
  | true =>
  have hc24 := (nm_len hnc).1
  have hg24 := (nm_len hng).1
  have HN := hide hnc
  have HN2 := hide hng
  clear hnc hng
  by_cases hu : 0 ≤ u ∧ u ≤ 1099511627776
  · have hcl : clOk ⟨c, g, u⟩ = 0 := by simp [clOk, HN.out, HN2.out, hu]
    obtain ⟨hu2, hu3⟩ := hu
    have d1 : decide (u < 0) = false := decide_eq_false (by omega)
    have d2 : decide (1099511627776 < u) = false := decide_eq_false (by omega)
    have hne : L ≠ [] := by
      have := HCK.out
      simp only [ckOk, Bool.and_eq_true, decide_eq_true_eq] at this
      exact this.1.1
    have hlg := last_get L hne
    obtain ⟨N, hN⟩ : ∃ N, L.length = N + 1 := ⟨L.length - 1, by have := List.length_pos_iff.2 hne; omega⟩
    rw [show L.length - 1 = N by omega] at hlg
    obtain ⟨b, off, x, cx, rfl, c0, c1, hB, hbl⟩ := (HS.out.below HB2.out (Nat.le_refl _)).at hlg
    have HM : Hid (((0 : Int), tok (lastS L) ⟨c, g, u⟩) = mkT L ⟨c, g, u⟩) := by
      show _ = _
      unfold mkT
      rw [if_neg (by rw [HCK.out]; simp), if_neg (by rw [hcl]; simp)]
    have hmem := ckOk_mem HCK.out _ (List.mem_of_getElem? hlg)
    clear hlg hne hcl
    generalize lastS L = s at *
    obtain ⟨id, bt⟩ := s
    simp only at c0 c1 hB hmem
    have HBT := hide hB
    have hN1 : (L.length : Int) - 1 = (N : Int) := by omega
    have hN2 : (N : Int) < (L.length : Int) := by omega
    have hwl := HC2.out.lt
    have HT2 := hide (HT.out.below HB2.out HT.out.big)
    clear hB
    have hid0 : -9223372036854775808 ≤ id := by omega
    have hid1 : id ≤ 9223372036854775807 := by omega
    have hbt : bt.length ≤ 64 := hmem.2.2
    clear hmem hN
    go_wp2_with fail
    refine (name_any c _ hc).mono ?_
    rintro e w9 ⟨rfl, rfl⟩
    rw [HN.out]
    go_wp2_with fail
    refine (name_any g _ hg).mono ?_
    rintro e w9 ⟨rfl, rfl⟩
    rw [HN2.out]
    go_wp2_with fail
    have HZ1 : Hid ((w9.alloc (.cells #[.int .i64 id, .slice x bt.length cx] 38)).cell? ⟨w9.heap.size, 1, none⟩ = some (.slice x bt.length cx)) := by show _ = _; simp
    have HB3 : Hid (Below w.heap.size w (w9.alloc (.cells #[.int .i64 id, .slice x bt.length cx] 38))) := HB2.out.alloc HB2.out.size _
    have HT3 : Hid (Tb (w9.alloc (.cells #[.int .i64 id, .slice x bt.length cx] 38))) := HT2.out.alloc _
    have HBT3 : Hid (Bs (w9.alloc (.cells #[.int .i64 id, .slice x bt.length cx] 38)) x cx bt) := HBT.out.alloc _
    generalize w9.alloc (.cells #[.int .i64 id, .slice x bt.length cx] 38) = w3 at *
    generalize w9.heap.size = Z at *
    refine (payload_any id c g u w3 hid0 hid1 hu0 hu1 hc24 hg24).mono ?_
    rintro e w4 ⟨a4, c4, r4, rfl, HR4, HS4, hb4, hl4⟩
    have z1 : w4.cell? ⟨Z, 1, none⟩ = some (.slice x bt.length cx) := by rw [hb4.out.cell (World.block_lt_of_cell? w3 _ HZ1.out)]; exact HZ1.out
    have HB4 : Hid (Below w.heap.size w w4) := HB3.out.trans (hb4.out.mono HB3.out.size)
    obtain ⟨d, hd⟩ : ∃ d, mac bt r4 = d := ⟨_, rfl⟩
    have hdl : d.length = 32 := by rw [← hd]; exact mac_length _ _
    have HDL := hide hdl
    have HMC : Hid (Calls Tryd.prog 18 #[.slice x bt.length cx, .slice a4 r4.length c4] w4 fun e w' => e = .returned (.agg (bs d).toArray) ∧ Below w4.heap.size w4 w') := by
      have h := mac_any x cx bt a4 c4 r4 w4 (HBT3.out.below hb4.out (Nat.le_refl _)) HS4.out (HT3.out.below hb4.out HT3.out.big) (by omega) (by omega)
      rw [hd] at h
      exact h
    have HM2 : Hid (((0 : Int), spR r4 0 0 ++ 46 :: spR d 0 0) = mkT L ⟨c, g, u⟩) := by
      show _ = _
      rw [← HM.out, ← hd]
      unfold tok
      simp only
      rw [← HR4.out]
    have HC5 : Hid (∀ D W v (T : List UInt8), ((v = .slice a4 r4.length c4 ∧ T = spR r4 0 0) ∨ (v = .slice (some ⟨D, 0, none⟩) 32 32 ∧ T = spR d 0 0)) → Hid (InvT w D d a4 c4 r4 W) → Calls Tryd.prog 19 #[v] W fun e W' => e = .returned (.string (str T)) ∧ Hid (InvT w D d a4 c4 r4 W')) := by
      intro D W v T hv h
      rcases hv with ⟨rfl, rfl⟩ | ⟨rfl, rfl⟩
      · refine (spell_any a4 c4 r4 W h.out.2.2 (by omega)).mono ?_
        rintro e W' ⟨rfl, hb⟩
        exact ⟨rfl, h.out.next hb⟩
      · have h2 := spell_any (some ⟨D, 0, none⟩) 32 d W ⟨h.out.2.1.row, by rw [HDL.out]; exact Nat.le_refl _, by unfold maxLen; decide, fun h => by cases h⟩ (by omega)
        rw [HDL.out] at h2
        refine h2.mono ?_
        rintro e W' ⟨rfl, hb⟩
        exact ⟨rfl, h.out.next hb⟩
    obtain ⟨T1, hT1⟩ : ∃ T, spR r4 0 0 = T := ⟨_, rfl⟩
    obtain ⟨T2, hT2⟩ : ∃ T, spR d 0 0 = T := ⟨_, rfl⟩
    rw [hT1, hT2] at HC5
    rw [hT1, hT2] at HM2
    have hl1 : T1.length ≤ 300 := by rw [← hT1, sp_length]; omega
    have hl2 : T2.length ≤ 300 := by rw [← hT2, sp_length]; omega
    have add1 : ∀ wx, (Op.stringOp .add (str T1) { data := #[46] }).run Tryd.prog wx = .ok (.string (str (T1 ++ [46]))) wx := fun wx => run_add_str wx T1 [46] (by omega) (by simp)
    have add2 := fun wx => run_add_str wx (T1 ++ [46]) T2 (by simp; omega) (by omega)
    have HM3 : Hid (((0 : Int), T1 ++ [46] ++ T2) = mkT L ⟨c, g, u⟩) := by show _ = _; rw [← HM2.out]; simp
    generalize T1 ++ [46] ++ T2 = T4 at *
    generalize T1 ++ [46] = T3 at *
    clear HM2 hT1 hT2
    clear hd hdl HM HZ1 HB3 HT3 HBT3 HR4 hb4 HBT HT2 HC2 HB2 c0 c1
    go_wp2_with (first
      | (go_at_call 18; refine HMC.out.mono ?_; rintro e w5 ⟨rfl, hb5⟩; have HB5 := hide (HB4.out.trans (hb5.mono HB4.out.size)); have HO5 := hide (HS4.out.below hb5 (Nat.le_refl _)); clear hb5)
      | (refine wpL_store rfl 52 _ _ rfl _ rfl (bs d) rfl 52 (bs (noughts 32)) (Cel.newAt' w5 _ _ _ _ rfl rfl) (by rw [bs_length, bs_length, HDL.out]; rfl) (by rw [bs_length, HDL.out]; kernel_rfl) (bs_one' _) ?_; intro w6 hC6 hg6; have hb6 := hide (cg_to_below (cg_trans (cg_alloc w5 _ (some w5.heap.size)) hg6) (Nat.le_refl _) (Nat.le_refl _)); have HI6 : Hid (InvT w w5.heap.size d a4 c4 r4 w6.drew) := ⟨(HB5.out.trans (cg_to_below (cg_trans (cg_alloc w5 _ (some w5.heap.size)) hg6) HB5.out.size HB5.out.size)).drew, hC6.drew, (HO5.out.below hb6.out (Nat.le_refl _)).below (Below.refl _ _).drew (Nat.le_refl _)⟩; clear hC6 hg6 hb6))
    clear HMC HB4 HS4 HB5 HO5
    go_region_with (go_at_call 19; refine (HC5.out w5.heap.size _ _ _ (by first | exact .inl ⟨rfl, rfl⟩ | exact .inr ⟨rfl, rfl⟩) (by assumption)).mono ?_; rintro e w7 ⟨rfl, hI7⟩)
    all_goals
      go_wp2
      go_ret2
      exact ⟨0, T4, rfl, HM3, hI7.out.1⟩
  · have HM : Hid (((1 : Int), ([] : List UInt8)) = mkT L ⟨c, g, u⟩) := by
      show _ = _
      have : clOk ⟨c, g, u⟩ = 1 := by simp [clOk, HN.out, HN2.out, hu]
      unfold mkT
      rw [if_neg (by rw [HCK.out]; simp), this]
      simp
    by_cases hu2 : u < 0
    · have d1 : decide (u < 0) = true := decide_eq_true hu2
      clear hu
      go_wp2_with fail
      refine (name_any c _ hc).mono ?_
      rintro e w9 ⟨rfl, rfl⟩
      rw [HN.out]
      go_wp2_with fail
      refine (name_any g _ hg).mono ?_
      rintro e w9 ⟨rfl, rfl⟩
      rw [HN2.out]
      go_wp2
      go_ret2
      exact ⟨1, [], rfl, HM, HB2⟩
    · have d1 : decide (u < 0) = false := decide_eq_false hu2
      have d2 : decide (1099511627776 < u) = true := decide_eq_true (by omega)
      clear hu
      go_wp2_with fail
      refine (name_any c _ hc).mono ?_
      rintro e w9 ⟨rfl, rfl⟩
      rw [HN.out]
      go_wp2_with fail
      refine (name_any g _ hg).mono ?_
      rintro e w9 ⟨rfl, rfl⟩
      rw [HN2.out]
      go_wp2
      go_ret2
      exact ⟨1, [], rfl, HM, HB2⟩
#print axioms make_core
end Go.Proofs.YtoapkajlgnlecaaDoor
