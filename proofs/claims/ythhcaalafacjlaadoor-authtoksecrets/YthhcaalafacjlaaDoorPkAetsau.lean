/-
  authtok: THE WALKS of payloadOf and Make.; authtok: THE WALK of Make.; authtok: THE WALKS of strings.Cut (at a point) and said.; authtok: THE WALK of said.
-/
import Derived.Test.YthhcaalafacjlaaDoorPkAetsat
import Derived.Test.YthhcaalafacjlaaDoorPkAetsan
import Derived.Deep.RegionWith
section
set_option linter.unusedVariables false
set_option maxRecDepth 1000000
namespace Go.Proofs.YthhcaalafacjlaaDoor
open Go.RowKit

theorem bs_none (w : World) : Bs w none 0 [] := ⟨fun h => absurd rfl h, Nat.le_refl _, by unfold maxLen; omega, fun _ => rfl⟩
theorem form_len (n : Nat) : (form n).length ≤ 10 := by
  unfold form
  split
  · simp
  · rw [List.length_cons, be_length]
    have : nb n ≤ 9 := Nat.le_trans (nb_pos n).2 (by omega)
    omega

/-- A block with a claim's cells. -/
def ClC (w : World) (C : Nat) (c g : List UInt8) (u : Int) : Prop := w.cell? ⟨C, 0, none⟩ = some (.string (str c)) ∧ w.cell? ⟨C, 1, none⟩ = some (.string (str g)) ∧ w.cell? ⟨C, 2, none⟩ = some (.int .i64 u)
theorem ClC.lt {w : World} {C : Nat} {c g : List UInt8} {u : Int} (h : ClC w C c g u) : C < w.heap.size := World.block_lt_of_cell? w _ h.1
theorem ClC.below {w w' : World} {C B : Nat} {c g : List UInt8} {u : Int} (h : ClC w C c g u) (hb : Below B w w') (hB : w.heap.size ≤ B) : ClC w' C c g u := by
  have hl : C < B := Nat.lt_of_lt_of_le h.lt hB
  exact ⟨by rw [hb.cell (show C < B from hl)]; exact h.1, by rw [hb.cell (show C < B from hl)]; exact h.2.1, by rw [hb.cell (show C < B from hl)]; exact h.2.2⟩
theorem ClC.new (w : World) (c g : List UInt8) (u : Int) : ClC (w.alloc (.cells #[.string (str c), .string (str g), .int .i64 u] 24)) w.heap.size c g u := by
  refine ⟨?_, ?_, ?_⟩ <;> simp

set_option maxHeartbeats 2000000 in
theorem payload_any (id : Int) (c g : List UInt8) (u : Int) (w : World) (hi0 : -9223372036854775808 ≤ id) (hi1 : id ≤ 9223372036854775807) (hu0 : -9223372036854775808 ≤ u) (hu1 : u ≤ 9223372036854775807) (hc : c.length ≤ 24) (hg : g.length ≤ 24) :
    Calls Tryd.prog 21 #[.int .i64 id, .agg #[.string (str c), .string (str g), .int .i64 u]] w fun e w' => ∃ a' cap' r, e = .returned (.slice a' r.length cap') ∧ Hid (r = pay id ⟨c, g, u⟩) ∧ Hid (Bs w' a' cap' r) ∧ Hid (Below w.heap.size w w') ∧ r.length ≤ 200 := by
  have hsc : (str c).size = c.length := str_size c
  have hsg : (str g).size = g.length := str_size g
  have HSC := hide hsc
  have HSG := hide hsg
  clear hsc hsg
  go_enter Tryd.func21, Tryd.ntmps21
  go_wp2_with fail
  have HC1 := hide (ClC.new w c g u)
  have HB1 : Hid (Below w.heap.size w (w.alloc (.cells #[.string (str c), .string (str g), .int .i64 u] 24))) := (Below.refl _ _).alloc (Nat.le_refl _) _
  have HZ : Hid (w.heap.size < (w.alloc (.cells #[.string (str c), .string (str g), .int .i64 u] 24)).heap.size) := by show _ < _; simp
  generalize w.alloc (.cells #[.string (str c), .string (str g), .int .i64 u] 24) = w1 at *
  refine (number_any none 0 [] id w1 (bs_none _) (by simp) hi0 hi1).mono ?_
  rintro e w2 ⟨a2, c2, r2, rfl, hr2, ho2, hb2⟩
  have HR2 : Hid (r2 = form id.toNat) := by show _ = _; rw [hr2.out]; rfl
  have hl2 : r2.length ≤ 10 := by rw [HR2.out]; exact form_len _
  have HC2 := hide (HC1.out.below hb2 (Nat.le_refl _))
  have HB2 : Hid (Below w.heap.size w w2) := HB1.out.trans (hb2.mono HB1.out.size)
  have HO2 := hide ho2.toBs
  clear hr2 ho2 hb2 HC1 HB1 HZ
  obtain ⟨k0, k1, k2⟩ := HC2.out
  go_wp2_with fail
  refine (text_any a2 c2 r2 (str c) w2 HO2.out (by omega) (by rw [HSC.out]; omega)).mono ?_
  rintro e w3 ⟨a3, c3, r3, rfl, hr3, ho3, hb3⟩
  have HR3 : Hid (r3 = form id.toNat ++ (form c.length ++ c)) := by show _ = _; rw [hr3.out, HR2.out, HSC.out]; rfl
  have hl3 : r3.length ≤ 44 := by rw [HR3.out]; simp only [List.length_append]; have := form_len id.toNat; have := form_len c.length; omega
  have HC3 := hide (HC2.out.below hb3 (Nat.le_refl _))
  have HB3 : Hid (Below w.heap.size w w3) := HB2.out.trans (hb3.mono HB2.out.size)
  have HO3 := hide ho3.toBs
  clear hr3 ho3 hb3 HC2 HB2 HO2 HR2 k0 k1 k2
  obtain ⟨k0, k1, k2⟩ := HC3.out
  go_wp2_with fail
  refine (text_any a3 c3 r3 (str g) w3 HO3.out (by omega) (by rw [HSG.out]; omega)).mono ?_
  rintro e w4 ⟨a4, c4, r4, rfl, hr4, ho4, hb4⟩
  have HR4 : Hid (r4 = form id.toNat ++ (form c.length ++ c) ++ (form g.length ++ g)) := by show _ = _; rw [hr4.out, HR3.out, HSG.out]; rfl
  have hl4 : r4.length ≤ 88 := by rw [HR4.out]; simp only [List.length_append]; have := form_len id.toNat; have := form_len c.length; have := form_len g.length; omega
  have HC4 := hide (HC3.out.below hb4 (Nat.le_refl _))
  have HB4 : Hid (Below w.heap.size w w4) := HB3.out.trans (hb4.mono HB3.out.size)
  have HO4 := hide ho4.toBs
  clear hr4 ho4 hb4 HC3 HB3 HO3 HR3 k0 k1 k2
  obtain ⟨k0, k1, k2⟩ := HC4.out
  go_wp2_with fail
  refine (number_any a4 c4 r4 u w4 HO4.out (by omega) hu0 hu1).mono ?_
  rintro e w5 ⟨a5, c5, r5, rfl, hr5, ho5, hb5⟩
  have HR5 : Hid (r5 = pay id ⟨c, g, u⟩) := by show _ = _; rw [hr5.out, HR4.out]; rfl
  have hl5 : r5.length ≤ 200 := by rw [hr5.out, List.length_append]; have := form_len u.toNat; omega
  have HB5 : Hid (Below w.heap.size w w5) := HB4.out.trans (hb5.mono HB4.out.size)
  have HO5 := hide ho5.toBs
  clear hr5 ho5 hb5
  go_wp2
  go_ret
  exact ⟨a5, c5, r5, rfl, HR5, HO5, HB5, hl5⟩
#print axioms payload_any
end Go.Proofs.YthhcaalafacjlaaDoor
end
section
set_option linter.unusedVariables false
set_option maxRecDepth 1000000
namespace Go.Proofs.YthhcaalafacjlaaDoor
open Go.RowKit

theorem str_app (a b : List UInt8) : str a ++ str b = str (a ++ b) := by
  apply ByteArray.ext
  simp [str]
theorem run_add_str (w : World) (x y : List UInt8) (hx : x.length ≤ 8388608) (hy : y.length ≤ 8388608) : (Op.stringOp .add (str x) (str y)).run Tryd.prog w = .ok (.string (str (x ++ y))) w := by
  rw [run_string_add_sum w _ _ (by rw [str_size, str_size]; omega), str_app]
/-- What stays while the two halves are spelt. -/
def InvT (w : World) (D : Nat) (d : List UInt8) (a : Option Addr) (c : Nat) (r : List UInt8) (W : World) : Prop := Below w.heap.size w W ∧ Cel W D 49 (bs d) ∧ Bs W a c r
theorem InvT.next {w W W' : World} {D : Nat} {d : List UInt8} {a : Option Addr} {c : Nat} {r : List UInt8} (h : InvT w D d a c r W) (hb : Below W.heap.size W W') : InvT w D d a c r W' :=
  ⟨h.1.trans (hb.mono h.1.size), h.2.1.below hb h.2.1.lt, h.2.2.below hb (Nat.le_refl _)⟩
theorem last_get (L : List Sec) (h : L ≠ []) : L[L.length - 1]? = some (lastS L) := by
  unfold lastS
  rw [List.getLast?_eq_getElem?]
  have : L.length - 1 < L.length := by have := List.length_pos_iff.2 h; omega
  rw [List.getElem?_eq_getElem this]
  rfl

set_option maxHeartbeats 8000000 in
theorem make_core (p : Option Addr) (cp : Nat) (L : List Sec) (c g : List UInt8) (u : Int) (w : World) (h : SecR w p L) (hT : Tb w) (hl : L.length ≤ 140737488355328) (hc : c.length ≤ 100000) (hg : g.length ≤ 100000) (hu0 : -9223372036854775808 ≤ u) (hu1 : u ≤ 9223372036854775807) :
    Calls Tryd.prog 8 #[.slice p L.length cp, .agg #[.string (str c), .string (str g), .int .i64 u]] w fun e w' => ∃ (E : Int) (t : List UInt8), e = .returned (.tuple #[.string (str t), .int .i64 E]) ∧ Hid ((E, t) = mkT L ⟨c, g, u⟩) ∧ Hid (Below w.heap.size w w') := by
  have HS := hide h
  have HT := hide hT
  clear h hT
  go_enter Tryd.func8, Tryd.ntmps8
  go_wp2_with fail
  have HC1 := hide (ClC.new w c g u)
  have HB1 : Hid (Below w.heap.size w (w.alloc (.cells #[.string (str c), .string (str g), .int .i64 u] 24))) := (Below.refl _ _).alloc (Nat.le_refl _) _
  generalize w.alloc (.cells #[.string (str c), .string (str g), .int .i64 u] 24) = w1 at *
  refine (check_any p cp L L.length w1 rfl (HS.out.below HB1.out (Nat.le_refl _)) hl).mono ?_
  rintro e w2 ⟨rfl, hb2⟩
  have HC2 := hide (HC1.out.below hb2 (Nat.le_refl _))
  have HB2 : Hid (Below w.heap.size w w2) := HB1.out.trans (hb2.mono HB1.out.size)
  clear hb2 HC1 HB1
  cases hck : ckOk L with
  | false =>
    have HM : Hid (((102 : Int), ([] : List UInt8)) = mkT L ⟨c, g, u⟩) := by show _ = _; unfold mkT; rw [if_pos hck]
    go_wp2
    go_ret2
    exact ⟨102, [], rfl, HM, HB2⟩
  | true =>
  have HCK := hide hck
  clear hck
  obtain ⟨k0, k1, k2⟩ := HC2.out
  cases hnc : nmOk c with
  | false =>
    have HM : Hid (((6 : Int), ([] : List UInt8)) = mkT L ⟨c, g, u⟩) := by
      show _ = _
      have : clOk ⟨c, g, u⟩ = 6 := by simp [clOk, hnc]
      unfold mkT
      rw [if_neg (by rw [HCK.out]; simp), this]
      simp
    have HN := hide hnc
    clear hnc
    go_wp2_with (go_at_call 12; refine (name_any c _ hc).mono ?_; rintro e w9 ⟨rfl, rfl⟩; rw [HN.out])
    go_ret2
    exact ⟨6, [], rfl, HM, HB2⟩
  | true =>
  cases hng : nmOk g with
  | false =>
    have HM : Hid (((6 : Int), ([] : List UInt8)) = mkT L ⟨c, g, u⟩) := by
      show _ = _
      have : clOk ⟨c, g, u⟩ = 6 := by simp [clOk, hng]
      unfold mkT
      rw [if_neg (by rw [HCK.out]; simp), this]
      simp
    have HN := hide hnc
    have HN2 := hide hng
    clear hnc hng
    go_wp2_with fail
    refine (name_any c _ hc).mono ?_
    rintro e w9 ⟨rfl, rfl⟩
    rw [HN.out]
    go_wp2_with fail
    refine (name_any g _ hg).mono ?_
    rintro e w9 ⟨rfl, rfl⟩
    rw [HN2.out]
    go_wp2
    go_ret2
    exact ⟨6, [], rfl, HM, HB2⟩
  | true =>
  have hc24 := (nm_len hnc).1
  have hg24 := (nm_len hng).1
  have HN := hide hnc
  have HN2 := hide hng
  clear hnc hng
  by_cases hu : 0 ≤ u ∧ u ≤ 1099511627776
  · have hcl : clOk ⟨c, g, u⟩ = 0 := by simp [clOk, HN.out, HN2.out, hu]
    obtain ⟨hu2, hu3⟩ := hu
    have d1 : decide (u < 0) = false := decide_eq_false (by omega)
    have d2 : decide (1099511627776 < u) = false := decide_eq_false (by omega)
    have hne : L ≠ [] := by
      have := HCK.out
      simp only [ckOk, Bool.and_eq_true, decide_eq_true_eq] at this
      exact this.1.1
    have hlg := last_get L hne
    obtain ⟨N, hN⟩ : ∃ N, L.length = N + 1 := ⟨L.length - 1, by have := List.length_pos_iff.2 hne; omega⟩
    rw [show L.length - 1 = N by omega] at hlg
    obtain ⟨b, off, x, cx, rfl, c0, c1, hB, hbl⟩ := (HS.out.below HB2.out (Nat.le_refl _)).at hlg
    have HM : Hid (((0 : Int), tok (lastS L) ⟨c, g, u⟩) = mkT L ⟨c, g, u⟩) := by
      show _ = _
      unfold mkT
      rw [if_neg (by rw [HCK.out]; simp), if_neg (by rw [hcl]; simp)]
    have hmem := ckOk_mem HCK.out _ (List.mem_of_getElem? hlg)
    clear hlg hne hcl
    generalize lastS L = s at *
    obtain ⟨id, bt⟩ := s
    simp only at c0 c1 hB hmem
    have HBT := hide hB
    have hN1 : (L.length : Int) - 1 = (N : Int) := by omega
    have hN2 : (N : Int) < (L.length : Int) := by omega
    have hwl := HC2.out.lt
    have HT2 := hide (HT.out.below HB2.out HT.out.big)
    clear hB
    have hid0 : -9223372036854775808 ≤ id := by omega
    have hid1 : id ≤ 9223372036854775807 := by omega
    have hbt : bt.length ≤ 64 := hmem.2.2
    clear hmem hN
    go_wp2_with fail
    refine (name_any c _ hc).mono ?_
    rintro e w9 ⟨rfl, rfl⟩
    rw [HN.out]
    go_wp2_with fail
    refine (name_any g _ hg).mono ?_
    rintro e w9 ⟨rfl, rfl⟩
    rw [HN2.out]
    go_wp2_with fail
    have HZ1 : Hid ((w9.alloc (.cells #[.int .i64 id, .slice x bt.length cx] 42)).cell? ⟨w9.heap.size, 1, none⟩ = some (.slice x bt.length cx)) := by show _ = _; simp
    have HB3 : Hid (Below w.heap.size w (w9.alloc (.cells #[.int .i64 id, .slice x bt.length cx] 42))) := HB2.out.alloc HB2.out.size _
    have HT3 : Hid (Tb (w9.alloc (.cells #[.int .i64 id, .slice x bt.length cx] 42))) := HT2.out.alloc _
    have HBT3 : Hid (Bs (w9.alloc (.cells #[.int .i64 id, .slice x bt.length cx] 42)) x cx bt) := HBT.out.alloc _
    generalize w9.alloc (.cells #[.int .i64 id, .slice x bt.length cx] 42) = w3 at *
    generalize w9.heap.size = Z at *
    refine (payload_any id c g u w3 hid0 hid1 hu0 hu1 hc24 hg24).mono ?_
    rintro e w4 ⟨a4, c4, r4, rfl, HR4, HS4, hb4, hl4⟩
    have z1 : w4.cell? ⟨Z, 1, none⟩ = some (.slice x bt.length cx) := by rw [hb4.out.cell (World.block_lt_of_cell? w3 _ HZ1.out)]; exact HZ1.out
    have HB4 : Hid (Below w.heap.size w w4) := HB3.out.trans (hb4.out.mono HB3.out.size)
    obtain ⟨d, hd⟩ : ∃ d, mac bt r4 = d := ⟨_, rfl⟩
    have hdl : d.length = 32 := by rw [← hd]; exact mac_length _ _
    have HDL := hide hdl
    have HMC : Hid (Calls Tryd.prog 22 #[.slice x bt.length cx, .slice a4 r4.length c4] w4 fun e w' => e = .returned (.agg (bs d).toArray) ∧ Below w4.heap.size w4 w') := by
      have h := mac_any x cx bt a4 c4 r4 w4 (HBT3.out.below hb4.out (Nat.le_refl _)) HS4.out (HT3.out.below hb4.out HT3.out.big) (by omega) (by omega)
      rw [hd] at h
      exact h
    have HM2 : Hid (((0 : Int), spR r4 0 0 ++ 46 :: spR d 0 0) = mkT L ⟨c, g, u⟩) := by
      show _ = _
      rw [← HM.out, ← hd]
      unfold tok
      simp only
      rw [← HR4.out]
    have HC5 : Hid (∀ D W v (T : List UInt8), ((v = .slice a4 r4.length c4 ∧ T = spR r4 0 0) ∨ (v = .slice (some ⟨D, 0, none⟩) 32 32 ∧ T = spR d 0 0)) → Hid (InvT w D d a4 c4 r4 W) → Calls Tryd.prog 23 #[v] W fun e W' => e = .returned (.string (str T)) ∧ Hid (InvT w D d a4 c4 r4 W')) := by
      intro D W v T hv h
      rcases hv with ⟨rfl, rfl⟩ | ⟨rfl, rfl⟩
      · refine (spell_any a4 c4 r4 W h.out.2.2 (by omega)).mono ?_
        rintro e W' ⟨rfl, hb⟩
        exact ⟨rfl, h.out.next hb⟩
      · have h2 := spell_any (some ⟨D, 0, none⟩) 32 d W ⟨h.out.2.1.row, by rw [HDL.out]; exact Nat.le_refl _, by unfold maxLen; decide, fun h => by cases h⟩ (by omega)
        rw [HDL.out] at h2
        refine h2.mono ?_
        rintro e W' ⟨rfl, hb⟩
        exact ⟨rfl, h.out.next hb⟩
    obtain ⟨T1, hT1⟩ : ∃ T, spR r4 0 0 = T := ⟨_, rfl⟩
    obtain ⟨T2, hT2⟩ : ∃ T, spR d 0 0 = T := ⟨_, rfl⟩
    rw [hT1, hT2] at HC5
    rw [hT1, hT2] at HM2
    have hl1 : T1.length ≤ 300 := by rw [← hT1, sp_length]; omega
    have hl2 : T2.length ≤ 300 := by rw [← hT2, sp_length]; omega
    have add1 : ∀ wx, (Op.stringOp .add (str T1) { data := #[46] }).run Tryd.prog wx = .ok (.string (str (T1 ++ [46]))) wx := fun wx => run_add_str wx T1 [46] (by omega) (by simp)
    have add2 := fun wx => run_add_str wx (T1 ++ [46]) T2 (by simp; omega) (by omega)
    have HM3 : Hid (((0 : Int), T1 ++ [46] ++ T2) = mkT L ⟨c, g, u⟩) := by show _ = _; rw [← HM2.out]; simp
    generalize T1 ++ [46] ++ T2 = T4 at *
    generalize T1 ++ [46] = T3 at *
    clear HM2 hT1 hT2
    clear hd hdl HM HZ1 HB3 HT3 HBT3 HR4 hb4 HBT HT2 HC2 HB2 c0 c1
    go_wp2_with (first
      | (go_at_call 22; refine HMC.out.mono ?_; rintro e w5 ⟨rfl, hb5⟩; have HB5 := hide (HB4.out.trans (hb5.mono HB4.out.size)); have HO5 := hide (HS4.out.below hb5 (Nat.le_refl _)); clear hb5)
      | (refine wpL_store rfl 49 _ _ rfl _ rfl (bs d) rfl 49 (bs (noughts 32)) (Cel.newAt' w5 _ _ _ _ rfl rfl) (by rw [bs_length, bs_length, HDL.out]; rfl) (by rw [bs_length, HDL.out]; kernel_rfl) (bs_one' _) ?_; intro w6 hC6 hg6; have hb6 := hide (cg_to_below (cg_trans (cg_alloc w5 _ (some w5.heap.size)) hg6) (Nat.le_refl _) (Nat.le_refl _)); have HI6 : Hid (InvT w w5.heap.size d a4 c4 r4 w6.drew) := ⟨(HB5.out.trans (cg_to_below (cg_trans (cg_alloc w5 _ (some w5.heap.size)) hg6) HB5.out.size HB5.out.size)).drew, hC6.drew, (HO5.out.below hb6.out (Nat.le_refl _)).below (Below.refl _ _).drew (Nat.le_refl _)⟩; clear hC6 hg6 hb6))
    clear HMC HB4 HS4 HB5 HO5
    go_region_with (go_at_call 23; refine (HC5.out w5.heap.size _ _ _ (by first | exact .inl ⟨rfl, rfl⟩ | exact .inr ⟨rfl, rfl⟩) (by assumption)).mono ?_; rintro e w7 ⟨rfl, hI7⟩)
    all_goals
      go_wp2
      go_ret2
      exact ⟨0, T4, rfl, HM3, hI7.out.1⟩
  · have HM : Hid (((1 : Int), ([] : List UInt8)) = mkT L ⟨c, g, u⟩) := by
      show _ = _
      have : clOk ⟨c, g, u⟩ = 1 := by simp [clOk, HN.out, HN2.out, hu]
      unfold mkT
      rw [if_neg (by rw [HCK.out]; simp), this]
      simp
    by_cases hu2 : u < 0
    · have d1 : decide (u < 0) = true := decide_eq_true hu2
      clear hu
      go_wp2_with fail
      refine (name_any c _ hc).mono ?_
      rintro e w9 ⟨rfl, rfl⟩
      rw [HN.out]
      go_wp2_with fail
      refine (name_any g _ hg).mono ?_
      rintro e w9 ⟨rfl, rfl⟩
      rw [HN2.out]
      go_wp2
      go_ret2
      exact ⟨1, [], rfl, HM, HB2⟩
    · have d1 : decide (u < 0) = false := decide_eq_false hu2
      have d2 : decide (1099511627776 < u) = true := decide_eq_true (by omega)
      clear hu
      go_wp2_with fail
      refine (name_any c _ hc).mono ?_
      rintro e w9 ⟨rfl, rfl⟩
      rw [HN.out]
      go_wp2_with fail
      refine (name_any g _ hg).mono ?_
      rintro e w9 ⟨rfl, rfl⟩
      rw [HN2.out]
      go_wp2
      go_ret2
      exact ⟨1, [], rfl, HM, HB2⟩
#print axioms make_core
end Go.Proofs.YthhcaalafacjlaaDoor
end
section
set_option linter.unusedVariables false
set_option maxRecDepth 1000000
namespace Go.Proofs.YthhcaalafacjlaaDoor
open Go.RowKit

theorem idx_cut : ∀ s : List UInt8, (46 ∈ s ∧ Lib.indexByte s 46 = ((cutP s).length : Int) ∧ (cutP s).length < s.length ∧ cutP s = s.take (cutP s).length) ∨ (Lib.indexByte s 46 = -1 ∧ cutP s = s ∧ 46 ∉ s)
  | [] => .inr ⟨rfl, rfl, by simp⟩
  | b :: l => by
    by_cases hb : b = 46
    · subst hb
      left
      simp [Lib.indexByte, cutP]
    · have hne : (b == 46) = false := by simp [hb]
      have hcut : cutP (b :: l) = b :: cutP l := by
        unfold cutP
        rw [List.takeWhile_cons]
        simp [hb]
      rcases idx_cut l with ⟨h0, h1, h2, h3⟩ | ⟨h1, h2, h3⟩
      · left
        refine ⟨List.mem_cons_of_mem _ h0, ?_, ?_, ?_⟩
        · rw [hcut]
          simp only [Lib.indexByte, hne, h1]
          have : (((cutP l).length : Int) == -1) = false := by simp
          simp [this]
        · rw [hcut]; simpa using h2
        · rw [hcut]
          simp only [List.length_cons, List.take_succ_cons]
          rw [← h3]
      · right
        refine ⟨?_, by rw [hcut, h2], by simp [h3, Ne.symm hb]⟩
        simp [Lib.indexByte, hne, h1]

theorem str_inj {a b : List UInt8} (h : str a = str b) : a = b := by
  have := congrArg (fun x : ByteArray => x.data.toList) h
  simpa [str] using this
theorem str_take (s : List UInt8) (k : Nat) : (str s).extract 0 k = str (s.take k) := by
  have := ByteArray.extract_mk s 0 k
  rw [Nat.sub_zero, List.drop_zero] at this
  exact this

set_option maxHeartbeats 2000000 in
theorem sindex_any (s : List UInt8) (w : World) (hs : s.length ≤ 100000) :
    Calls Tryd.prog 83 #[.string (str s), .string ⟨#[46]⟩] w fun e w' => e = .returned (.int .i64 (Lib.indexByte s 46)) ∧ w' = w := by
  have hsz : (str s).size = s.length := str_size s
  have hz1 : (⟨#[46]⟩ : ByteArray).size = 1 := rfl
  by_cases h : s = [46]
  · subst h
    have hq : ([46] == (str [46]).toList) = true := by rw [toList_str]; rfl
    go_enter Tryd.func83, Tryd.ntmps83
    go_wp2
    go_ret
    exact ⟨rfl, rfl⟩
  · have hq : ([46] == (str s).toList) = false := by
      rw [toList_str, beq_eq_false_iff_ne]
      exact fun e => h e.symm
    have HC := hide (slIdx_any (str s) 46 w)
    obtain ⟨r, hr⟩ : ∃ r, Lib.indexByte s 46 = r := ⟨_, rfl⟩
    rw [hr]
    have HR := hide hr
    clear hr h
    go_enter Tryd.func83, Tryd.ntmps83
    go_wp2_with (go_at_call 62; refine HC.out.mono ?_; rintro e w2 ⟨rfl, rfl⟩; rw [show (str s).data.toList = s from rfl, HR.out])
    go_ret
    exact ⟨rfl, rfl⟩

set_option maxHeartbeats 2000000 in
theorem scut_any (s : List UInt8) (w : World) (hs : s.length ≤ 100000) :
    Calls Tryd.prog 63 #[.string (str s), .string ⟨#[46]⟩] w fun e w' => ∃ t b, e = .returned (.tuple #[.string (str (cutP s)), .string t, .bool b]) ∧ Hid (Below w.heap.size w w') := by
  have hsz : (str s).size = s.length := str_size s
  have hz1 : (⟨#[46]⟩ : ByteArray).size = 1 := rfl
  rcases idx_cut s with ⟨_, h1, h2, h3⟩ | ⟨h1, h2, _⟩
  · obtain ⟨K, hK⟩ : ∃ K, (cutP s).length = K := ⟨_, rfl⟩
    rw [hK] at h1 h2 h3
    have HE : Hid ((str s).extract 0 K = str (cutP s)) := by show _ = _; rw [str_take, ← h3]
    have HI := hide h1
    clear h1 h3 hK
    go_enter Tryd.func63, Tryd.ntmps63
    go_wp2_with (go_at_call 83; refine (sindex_any s w hs).mono ?_; rintro e w2 ⟨rfl, rfl⟩; rw [HI.out])
    go_quiet (fail)
    go_wp2
    go_ret3
    exact ⟨_, _, by rw [← HE.out]; rfl, below_drewN (Below.refl _ _) nq⟩
  · have HI := hide h1
    have HE := hide h2
    clear h1 h2
    go_enter Tryd.func63, Tryd.ntmps63
    go_wp2_with (go_at_call 83; refine (sindex_any s w hs).mono ?_; rintro e w2 ⟨rfl, rfl⟩; rw [HI.out])
    go_ret3
    exact ⟨_, _, by rw [HE.out]; rfl, Below.refl _ _⟩
set_option maxHeartbeats 2000000 in
theorem cut_any (s : List UInt8) (w : World) (hs : s.length ≤ 100000) :
    Calls Tryd.prog 46 #[.string (str s), .string ⟨#[46]⟩] w fun e w' => ∃ t b, e = .returned (.tuple #[.string (str (cutP s)), .string t, .bool b]) ∧ Hid (Below w.heap.size w w') := by
  go_enter Tryd.func46, Tryd.ntmps46
  go_wp2_with (go_at_call 63; refine (scut_any s w hs).mono ?_; rintro e w2 ⟨t, b, rfl, hb⟩)
  go_ret3
  exact ⟨t, b, rfl, hb⟩
#print axioms cut_any
end Go.Proofs.YthhcaalafacjlaaDoor
end
section
set_option linter.unusedVariables false
set_option maxRecDepth 1000000
namespace Go.Proofs.YthhcaalafacjlaaDoor
open Go.RowKit

theorem below_curs {B : Nat} {w0 w w' : World} {C : Nat} (h : Below B w0 w) (hg : w.grownBy w' (some C)) (hB : B ≤ w.heap.size) (hC : B ≤ C) : Below B w0 w' :=
  h.grown hg hB (fun k hk => by rw [← Option.some.inj hk]; exact hC)
theorem tx_len (l : List UInt8) : (tx l 24).1.length ≤ 24 := by
  unfold tx
  split
  · simp
  · split
    · simp
    · split
      · simp
      · rw [List.length_take]; omega
theorem say_parts (p : List UInt8) (N1 S1 E1 E2 S2 E3 S3 N4 S4 E4 : Nat) (t2 t3 : List UInt8) (e1 : (N1, S1, E1) = rd (p.drop 0)) (e2 : (t2, E2, S2) = tx (p.drop (0 + S1)) 24) (e3 : (t3, E3, S3) = tx (p.drop (0 + S1 + S2)) 24) (e4 : (N4, S4, E4) = rd (p.drop (0 + S1 + S2 + S3))) :
    sayP p = ((N1 : Int), ⟨t2, t3, (N4 : Int)⟩) := by
  rw [List.drop_zero] at e1
  rw [Nat.zero_add] at e2 e3 e4
  rw [← List.drop_drop] at e3
  rw [← List.drop_drop, ← List.drop_drop] at e4
  unfold sayP tx1 tx2
  rw [← e1]
  simp only
  rw [← e2]
  simp only
  rw [← e3]
  simp only
  rw [← e4]

/-- A claim's block of the call's own. -/
def Clz (w : World) (R : Nat) : Prop := w.heap[R]? = some (.cells #[.string ⟨#[]⟩, .string ⟨#[]⟩, .int .i64 0] 24 (0, 0))
theorem Clz.lt {w : World} {R : Nat} (h : Clz w R) : R < w.heap.size := (Array.getElem?_eq_some_iff.1 h).1
theorem Clz.below {w w' : World} {R B : Nat} (h : Clz w R) (hb : Below B w w') (hB : w.heap.size ≤ B) : Clz w' R := by
  unfold Clz
  rw [hb.block R (Nat.lt_of_lt_of_le h.lt hB)]
  exact h
theorem Clz.grown {w w' : World} {R C : Nat} (h : Clz w R) (hg : w.grownBy w' (some C)) (hne : R ≠ C) : Clz w' R := by
  unfold Clz
  rw [hg.block R h.lt (fun e => hne (Option.some.inj e))]
  exact h


set_option maxHeartbeats 8000000 in
theorem said_any (s : List UInt8) (w : World) (hs : s.length ≤ 100000) :
    Calls Tryd.prog 30 #[.string (str s)] w fun e w' => ∃ (id : Nat) (c g : List UInt8) (u : Nat), e = .returned (.tuple #[.int .i64 (id : Int), .agg #[.string (str c), .string (str g), .int .i64 (u : Int)]]) ∧ Hid (say s = ((id : Int), ⟨c, g, (u : Int)⟩)) ∧ Hid (Below w.heap.size w w') ∧ c.length ≤ 24 ∧ g.length ≤ 24 ∧ id ≤ 9223372036854775807 ∧ u ≤ 9223372036854775807 := by
  go_enter Tryd.func30, Tryd.ntmps30
  go_wp2_with fail
  have HR1 : Hid (Clz (w.alloc (.cells #[.string ⟨#[]⟩, .string ⟨#[]⟩, .int .i64 0] 24)) w.heap.size) := heap_alloc_new w _
  have HB1 : Hid (Below w.heap.size w (w.alloc (.cells #[.string ⟨#[]⟩, .string ⟨#[]⟩, .int .i64 0] 24))) := (Below.refl _ _).alloc (Nat.le_refl _) _
  generalize w.alloc (.cells #[.string ⟨#[]⟩, .string ⟨#[]⟩, .int .i64 0] 24) = w1 at *
  refine (cut_any s w1 hs).mono ?_
  rintro e w2 ⟨tc, bc, rfl, hb2⟩
  have HR2 := hide (HR1.out.below hb2.out (Nat.le_refl _))
  have HB2 : Hid (Below w.heap.size w w2) := HB1.out.trans (hb2.out.mono HB1.out.size)
  clear hb2 HR1 HB1
  have hcl : (cutP s).length ≤ 100000 := by unfold cutP; exact Nat.le_trans (List.takeWhile_sublist _).length_le hs
  have HU : Hid (Calls Tryd.prog 47 #[.string (str (cutP s))] w2 fun e w' => ∃ a cap p b, e = .returned (.tuple #[.slice a p.length cap, .bool b]) ∧ Hid (p = (unR (cutP s) 0 0).getD []) ∧ Hid (Bs w' a cap p) ∧ Hid (Below w2.heap.size w2 w') ∧ p.length ≤ 100000) := by
    refine (unspell_any (str (cutP s)) w2 hcl).mono ?_
    rintro e w3 ⟨hb, h⟩
    rcases h with ⟨h1, rfl⟩ | ⟨a, cap, r, h1, rfl, ho⟩
    · exact ⟨none, 0, [], false, rfl, (by show _ = _; rw [show unR (cutP s) 0 0 = none from h1]; rfl), bs_none _, hb, by simp⟩
    · refine ⟨a, cap, r, true, rfl, (by show _ = _; rw [show unR (cutP s) 0 0 = some r from h1]; rfl), ho.toBs, hb, ?_⟩
      have := un_length _ _ (show unR (cutP s) 0 0 = some r from h1)
      omega
  go_wp2_with fail
  refine HU.out.mono ?_
  rintro e w3 ⟨a3, c3, p, b3, rfl, HP, HS3, hb3, hpl⟩
  have HR3 := hide (HR2.out.below hb3.out (Nat.le_refl _))
  have HB3 : Hid (Below w.heap.size w w3) := HB2.out.trans (hb3.out.mono HB2.out.size)
  clear hb3 HR2 HB2 HU
  go_wp2_with fail
  refine (from_any a3 p.length c3 p w3 HS3.out rfl (by omega)).mono ?_
  rintro e w4 ⟨C, a4, c4, rfl, hC4, hCl, hCb, hb4⟩
  have HR4 := hide (HR3.out.below hb4 (Nat.le_refl _))
  have HB4 : Hid (Below w.heap.size w w4) := HB3.out.trans (hb4.mono HB3.out.size)
  have HNE : Hid (w.heap.size ≠ C) := by have := HR3.out.lt; show _ ≠ _; omega
  have HWC : Hid (w.heap.size ≤ C) := by have := HR3.out.lt; show _ ≤ _; omega
  have HC4 := hide hC4
  clear hb4 HR3 HB3 hC4 hCl hCb HS3
  go_wp2_with fail
  refine (cnumber_any C a4 c4 p 0 w4 HC4.out).mono ?_
  rintro e w5 ⟨N1, S1, E1, rfl, E1', hC5, hg5⟩
  have HR5 := hide (HR4.out.grown hg5 HNE.out)
  have HB5 := hide (below_curs HB4.out hg5 HB4.out.size HWC.out)
  have HC5 := hide hC5
  clear HR4 HB4 HC4 hC5 hg5
  go_wp2_with fail
  refine (ctext_any C a4 c4 p (0 + S1) 24 w5 HC5.out (by omega) (by omega)).mono ?_
  rintro e w6 ⟨t2, E2, S2, rfl, E2', hC6, hg6⟩
  have HR6 := hide (HR5.out.grown hg6 HNE.out)
  have HB6 := hide (below_curs HB5.out hg6 HB5.out.size HWC.out)
  have HC6 := hide hC6
  clear HR5 HB5 HC5 hC6 hg6
  go_wp2_with fail
  refine (ctext_any C a4 c4 p (0 + S1 + S2) 24 w6 HC6.out (by omega) (by omega)).mono ?_
  rintro e w7 ⟨t3, E3, S3, rfl, E3', hC7, hg7⟩
  have HR7 := hide (HR6.out.grown hg7 HNE.out)
  have HB7 := hide (below_curs HB6.out hg7 HB6.out.size HWC.out)
  have HC7 := hide hC7
  clear HR6 HB6 HC6 hC7 hg7
  go_wp2_with fail
  refine (cnumber_any C a4 c4 p (0 + S1 + S2 + S3) w7 HC7.out).mono ?_
  rintro e w8 ⟨N4, S4, E4, rfl, E4', hC8, hg8⟩
  have HR8 := hide (HR7.out.grown hg8 HNE.out)
  have HB8 := hide (below_curs HB7.out hg8 HB7.out.size HWC.out)
  clear HR7 HB7 HC7 hC8 hg8
  have HSAY : Hid (say s = ((N1 : Int), ⟨t2, t3, (N4 : Int)⟩)) := by
    show _ = _
    unfold say
    rw [← HP.out]
    exact say_parts p N1 S1 E1 E2 S2 E3 S3 N4 S4 E4 t2 t3 E1'.out E2'.out E3'.out E4'.out
  have hl2 : t2.length ≤ 24 := by have := tx_len (p.drop (0 + S1)); rw [← E2'.out] at this; exact this
  have hl3 : t3.length ≤ 24 := by have := tx_len (p.drop (0 + S1 + S2)); rw [← E3'.out] at this; exact this
  have hn1 : N1 ≤ 9223372036854775807 := by have := (rd_le (p.drop 0)).2.1; rw [← E1'.out] at this; exact this
  have hn4 : N4 ≤ 9223372036854775807 := by have := (rd_le (p.drop (0 + S1 + S2 + S3))).2.1; rw [← E4'.out] at this; exact this
  clear E1' E2' E3' E4' HP
  have b0 : w8.cell? ⟨w.heap.size, 0, none⟩ = some (.string ⟨#[]⟩) := by rw [cell_of_row w8 w.heap.size 0 _ _ _ HR8.out]; rfl
  have b1 : w8.cell? ⟨w.heap.size, 1, none⟩ = some (.string ⟨#[]⟩) := by rw [cell_of_row w8 w.heap.size 1 _ _ _ HR8.out]; rfl
  have b2 : w8.cell? ⟨w.heap.size, 2, none⟩ = some (.int .i64 0) := by rw [cell_of_row w8 w.heap.size 2 _ _ _ HR8.out]; rfl
  have f0 : w8.frozen? ⟨w.heap.size, 0, none⟩ = false := frozen_of_row w8 w.heap.size 0 _ _ HR8.out
  have f1 : w8.frozen? ⟨w.heap.size, 1, none⟩ = false := frozen_of_row w8 w.heap.size 1 _ _ HR8.out
  have f2 : w8.frozen? ⟨w.heap.size, 2, none⟩ = false := frozen_of_row w8 w.heap.size 2 _ _ HR8.out
  have HB9 : Hid (Below w.heap.size w (((w8.setCell ⟨w.heap.size, 0, none⟩ (.string (str t2))).setCell ⟨w.heap.size, 1, none⟩ (.string (str t3))).setCell ⟨w.heap.size, 2, none⟩ (.int .i64 (N4 : Int)))) := by
    have st : ∀ (v : World) (p : Addr) (x : Value), Below w.heap.size w v → w.heap.size ≤ p.block → Below w.heap.size w (v.setCell p x) := fun v p x h hp => h.grown (grownBy_set v p x) h.size (fun k hk => by rw [← Option.some.inj hk]; exact hp)
    exact st _ _ _ (st _ _ _ (st _ _ _ HB8.out (Nat.le_refl _)) (Nat.le_refl _)) (Nat.le_refl _)
  go_wp2
  refine bodyPost_ret (v := .tuple #[.int .i64 (N1 : Int), .agg #[.string (str t2), .string (str t3), .int .i64 (N4 : Int)]]) (by simp [results, Tryd.results30, go_sem, b0, b1, b2]) rfl ⟨N1, t2, t3, N4, rfl, HSAY, HB9, hl2, hl3, hn1, hn4⟩
#print axioms said_any
end Go.Proofs.YthhcaalafacjlaaDoor
end
