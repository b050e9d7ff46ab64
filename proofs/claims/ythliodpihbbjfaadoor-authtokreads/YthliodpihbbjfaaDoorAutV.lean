/-
  authtok: THE WALKS of the document's own claim, token and Make.
-/
import Derived.Test.YthliodpihbbjfaaDoorAutU
set_option linter.unusedVariables false
set_option maxRecDepth 1000000
namespace Go.Proofs.YthliodpihbbjfaaDoor
open Go.RowKit

set_option maxHeartbeats 4000000 in
theorem rclaim_any (c g : List UInt8) (u : Int) (w : World) (hc : c.length ≤ 100000) (hg : g.length ≤ 100000) :
    Calls Tryd.prog 30 #[.agg #[.string (str c), .string (str g), .int .i64 u]] w fun e w' => ∃ E : Int, e = .returned (.int .i64 E) ∧ Hid (E = clOk ⟨c, g, u⟩) ∧ Hid (Below w.heap.size w w') := by
  go_enter Tryd.func30, Tryd.ntmps30
  go_wp2_with fail
  have HC1 := hide (ClC.new w c g u)
  have HB1 : Hid (Below w.heap.size w (w.alloc (.cells #[.string (str c), .string (str g), .int .i64 u] 24))) := (Below.refl _ _).alloc (Nat.le_refl _) _
  generalize w.alloc (.cells #[.string (str c), .string (str g), .int .i64 u] 24) = w1 at *
  obtain ⟨k0, k1, k2⟩ := HC1.out
  refine (rname_any c w1 hc).mono ?_
  rintro e w2 ⟨rfl, rfl⟩
  cases hnc : nmOk c with
  | false =>
    have HM : Hid ((6 : Int) = clOk ⟨c, g, u⟩) := by show _ = _; simp [clOk, hnc]
    clear hnc
    go_wp2
    go_ret
    exact ⟨6, rfl, HM, HB1⟩
  | true =>
  have HN := hide hnc
  clear hnc
  go_wp2_with fail
  refine (rname_any g _ hg).mono ?_
  rintro e w3 ⟨rfl, rfl⟩
  cases hng : nmOk g with
  | false =>
    have HM : Hid ((6 : Int) = clOk ⟨c, g, u⟩) := by show _ = _; simp [clOk, hng]
    clear hng
    go_wp2
    go_ret
    exact ⟨6, rfl, HM, HB1⟩
  | true =>
  have HN2 := hide hng
  clear hng
  by_cases h1 : u < 0
  · have d1 : decide (u < 0) = true := decide_eq_true h1
    have HM : Hid ((1 : Int) = clOk ⟨c, g, u⟩) := by show _ = _; simp [clOk, HN.out, HN2.out]; omega
    go_wp2
    go_ret
    exact ⟨1, rfl, HM, HB1⟩
  have d1 : decide (u < 0) = false := decide_eq_false h1
  by_cases h2 : 1099511627776 < u
  · have d2 : decide (1099511627776 < u) = true := decide_eq_true h2
    have HM : Hid ((1 : Int) = clOk ⟨c, g, u⟩) := by show _ = _; simp [clOk, HN.out, HN2.out]; omega
    go_wp2
    go_ret
    exact ⟨1, rfl, HM, HB1⟩
  have d2 : decide (1099511627776 < u) = false := decide_eq_false h2
  have HM : Hid ((0 : Int) = clOk ⟨c, g, u⟩) := by
    show _ = _
    simp only [clOk, HN.out, HN2.out, Bool.and_self, if_true]
    rw [if_pos (by constructor <;> omega)]
  go_wp2
  go_ret
  exact ⟨0, rfl, HM, HB1⟩

/-- What stays while the document's token is spelt. -/
def InvU (w : World) (Z : Nat) (x : Option Addr) (cx : Nat) (bt : List UInt8) (a : Option Addr) (c : Nat) (r : List UInt8) (W : World) : Prop := Below w.heap.size w W ∧ W.cell? ⟨Z, 1, none⟩ = some (.slice x bt.length cx) ∧ Bs W x cx bt ∧ Bs W a c r
theorem InvU.next {w W W' : World} {Z : Nat} {x : Option Addr} {cx : Nat} {bt : List UInt8} {a : Option Addr} {c : Nat} {r : List UInt8} (h : InvU w Z x cx bt a c r W) (hb : Below W.heap.size W W') : InvU w Z x cx bt a c r W' :=
  ⟨h.1.trans (hb.mono h.1.size), (hb.cell (World.block_lt_of_cell? W _ h.2.1)).trans h.2.1, h.2.2.1.below hb (Nat.le_refl _), h.2.2.2.below hb (Nat.le_refl _)⟩

set_option maxHeartbeats 8000000 in
theorem rtoken_any (id : Int) (x : Option Addr) (cx : Nat) (bt : List UInt8) (c g : List UInt8) (u : Int) (w : World) (hB : Bs w x cx bt) (hbt : bt.length ≤ 64) (hi0 : -9223372036854775808 ≤ id) (hi1 : id ≤ 9223372036854775807) (hu0 : -9223372036854775808 ≤ u) (hu1 : u ≤ 9223372036854775807) (hc : c.length ≤ 24) (hg : g.length ≤ 24) :
    Calls Tryd.prog 31 #[.agg #[.int .i64 id, .slice x bt.length cx], .agg #[.string (str c), .string (str g), .int .i64 u]] w fun e w' => ∃ T, e = .returned (.string (str T)) ∧ Hid (T = tok (id, bt) ⟨c, g, u⟩) ∧ Hid (Below w.heap.size w w') := by
  have hsc : (str c).size = c.length := str_size c
  have hsg : (str g).size = g.length := str_size g
  have HSC := hide hsc
  have HSG := hide hsg
  have HB := hide hB
  clear hsc hsg hB
  go_enter Tryd.func31, Tryd.ntmps31
  go_wp2_with fail
  have HZ1 : Hid (((w.alloc (.cells #[.int .i64 id, .slice x bt.length cx] 52)).alloc (.cells #[.string (str c), .string (str g), .int .i64 u] 24)).cell? ⟨w.heap.size, 1, none⟩ = some (.slice x bt.length cx)) := by show _ = _; simp
  have HC1 : Hid (ClC ((w.alloc (.cells #[.int .i64 id, .slice x bt.length cx] 52)).alloc (.cells #[.string (str c), .string (str g), .int .i64 u] 24)) (w.heap.size + 1) c g u) := by
    have := ClC.new (w.alloc (.cells #[.int .i64 id, .slice x bt.length cx] 52)) c g u
    rw [show (w.alloc (.cells #[.int .i64 id, .slice x bt.length cx] 52)).heap.size = w.heap.size + 1 by simp] at this
    exact this
  have HB1 : Hid (Below w.heap.size w ((w.alloc (.cells #[.int .i64 id, .slice x bt.length cx] 52)).alloc (.cells #[.string (str c), .string (str g), .int .i64 u] 24))) := ((Below.refl _ _).alloc (Nat.le_refl _) _).alloc (by simp) _
  generalize (w.alloc (.cells #[.int .i64 id, .slice x bt.length cx] 52)).alloc (.cells #[.string (str c), .string (str g), .int .i64 u] 24) = w1 at *
  generalize w.heap.size + 1 = Z2 at *
  refine (rnumber_any none 0 [] id w1 (bs_none _) (by simp) hi0 hi1).mono ?_
  rintro e w2 ⟨a2, c2, r2, rfl, hr2, ho2, hb2⟩
  have HR2 : Hid (r2 = form id.toNat) := by show _ = _; rw [hr2.out]; rfl
  have hl2 : r2.length ≤ 10 := by rw [HR2.out]; exact form_len _
  have HC2 := hide (HC1.out.below hb2 (Nat.le_refl _))
  have HB2 : Hid (Below w.heap.size w w2) := HB1.out.trans (hb2.mono HB1.out.size)
  have HZ2 : Hid (w2.cell? ⟨w.heap.size, 1, none⟩ = some (.slice x bt.length cx)) := (hb2.cell (World.block_lt_of_cell? w1 _ HZ1.out)).trans HZ1.out
  have HO2 := hide ho2.toBs
  clear hr2 ho2 hb2 HC1 HB1 HZ1
  obtain ⟨k0, k1, k2⟩ := HC2.out
  go_wp2_with fail
  refine (rtext_any a2 c2 r2 (str c) w2 HO2.out (by omega) (by rw [HSC.out]; omega)).mono ?_
  rintro e w3 ⟨a3, c3, r3, rfl, hr3, ho3, hb3⟩
  have HR3 : Hid (r3 = form id.toNat ++ (form c.length ++ c)) := by show _ = _; rw [hr3.out, HR2.out, HSC.out]; rfl
  have hl3 : r3.length ≤ 44 := by rw [HR3.out]; simp only [List.length_append]; have := form_len id.toNat; have := form_len c.length; omega
  have HC3 := hide (HC2.out.below hb3 (Nat.le_refl _))
  have HB3 : Hid (Below w.heap.size w w3) := HB2.out.trans (hb3.mono HB2.out.size)
  have HZ3 : Hid (w3.cell? ⟨w.heap.size, 1, none⟩ = some (.slice x bt.length cx)) := (hb3.cell (World.block_lt_of_cell? w2 _ HZ2.out)).trans HZ2.out
  have HO3 := hide ho3.toBs
  clear hr3 ho3 hb3 HC2 HB2 HO2 HR2 HZ2 k0 k1 k2
  obtain ⟨k0, k1, k2⟩ := HC3.out
  go_wp2_with fail
  refine (rtext_any a3 c3 r3 (str g) w3 HO3.out (by omega) (by rw [HSG.out]; omega)).mono ?_
  rintro e w4 ⟨a4, c4, r4, rfl, hr4, ho4, hb4⟩
  have HR4 : Hid (r4 = form id.toNat ++ (form c.length ++ c) ++ (form g.length ++ g)) := by show _ = _; rw [hr4.out, HR3.out, HSG.out]; rfl
  have hl4 : r4.length ≤ 88 := by rw [HR4.out]; simp only [List.length_append]; have := form_len id.toNat; have := form_len c.length; have := form_len g.length; omega
  have HC4 := hide (HC3.out.below hb4 (Nat.le_refl _))
  have HB4 : Hid (Below w.heap.size w w4) := HB3.out.trans (hb4.mono HB3.out.size)
  have HZ4 : Hid (w4.cell? ⟨w.heap.size, 1, none⟩ = some (.slice x bt.length cx)) := (hb4.cell (World.block_lt_of_cell? w3 _ HZ3.out)).trans HZ3.out
  have HO4 := hide ho4.toBs
  clear hr4 ho4 hb4 HC3 HB3 HO3 HR3 HZ3 k0 k1 k2
  obtain ⟨k0, k1, k2⟩ := HC4.out
  go_wp2_with fail
  refine (rnumber_any a4 c4 r4 u w4 HO4.out (by omega) hu0 hu1).mono ?_
  rintro e w5 ⟨a5, c5, r5, rfl, hr5, ho5, hb5⟩
  have HR5 : Hid (r5 = pay id ⟨c, g, u⟩) := by show _ = _; rw [hr5.out, HR4.out]; rfl
  have hl5 : r5.length ≤ 200 := by rw [hr5.out, List.length_append]; have := form_len u.toNat; omega
  have HB5 : Hid (Below w.heap.size w w5) := HB4.out.trans (hb5.mono HB4.out.size)
  have HI5 : Hid (InvU w w.heap.size x cx bt a5 c5 r5 w5) := ⟨HB5.out, (hb5.cell (World.block_lt_of_cell? w4 _ HZ4.out)).trans HZ4.out, HB.out.below HB5.out (Nat.le_refl _), ho5.toBs⟩
  clear hr5 ho5 hb5 HC4 HB4 HO4 HR4 HZ4 k0 k1 k2 HB5
  obtain ⟨d, hd⟩ : ∃ d, mac bt r5 = d := ⟨_, rfl⟩
  have HDL : Hid (d.length = 32) := by show _ = _; rw [← hd]; exact mac_length _ _
  obtain ⟨T1, hT1⟩ : ∃ T, spR r5 0 0 = T := ⟨_, rfl⟩
  obtain ⟨T2, hT2⟩ : ∃ T, spR d 0 0 = T := ⟨_, rfl⟩
  have hl1 : T1.length ≤ 300 := by rw [← hT1, sp_length]; omega
  have hl2' : T2.length ≤ 300 := by rw [← hT2, sp_length, HDL.out]; omega
  have HTK : Hid (T1 ++ [46] ++ T2 = tok (id, bt) ⟨c, g, u⟩) := by
    show _ = _
    rw [← hT1, ← hT2, ← hd]
    unfold tok
    simp only
    rw [← HR5.out]
    simp
  have HMC : Hid (∀ W, Hid (InvU w w.heap.size x cx bt a5 c5 r5 W) → Calls Tryd.prog 55 #[.slice x bt.length cx, .slice a5 r5.length c5] W fun e W' => ∃ a' c' r, e = .returned (.slice a' r.length c') ∧ Hid (r = d) ∧ Hid (Bs W' a' c' r) ∧ Hid (InvU w w.heap.size x cx bt a5 c5 r5 W') ∧ Hid (Below W.heap.size W W')) := by
    intro W h
    refine (rmac_any x cx bt a5 c5 r5 W h.out.2.2.1 h.out.2.2.2 (by omega) (by omega)).mono ?_
    rintro e W' ⟨a', c', r, rfl, hr, hs, hb⟩
    exact ⟨a', c', r, rfl, (by show _ = _; rw [hr.out]; exact hd), hs, h.out.next hb.out, hb⟩
  have HSP : Hid (∀ W v (T : List UInt8), ((v = .slice a5 r5.length c5 ∧ T = T1) ∨ (∃ a' c' r, v = .slice a' r.length c' ∧ Hid (r = d) ∧ Hid (Bs W a' c' r) ∧ T = T2)) → Hid (InvU w w.heap.size x cx bt a5 c5 r5 W) → Calls Tryd.prog 54 #[v] W fun e W' => e = .returned (.string (str T)) ∧ Hid (InvU w w.heap.size x cx bt a5 c5 r5 W') ∧ Hid (Below W.heap.size W W')) := by
    intro W v T hv h
    rcases hv with ⟨rfl, rfl⟩ | ⟨a', c', r, rfl, hr, hs, rfl⟩
    · have h2 := rspell_any a5 c5 r5 W h.out.2.2.2 (by omega)
      rw [hT1] at h2
      refine h2.mono ?_
      rintro e W' ⟨rfl, hb⟩
      exact ⟨rfl, h.out.next hb, hb⟩
    · have h2 := rspell_any a' c' r W hs.out (by rw [hr.out, HDL.out]; omega)
      rw [hr.out, hT2] at h2
      refine (hr.out ▸ h2 : Calls Tryd.prog 54 #[.slice a' r.length c'] W _).mono ?_
      rintro e W' ⟨rfl, hb⟩
      exact ⟨rfl, h.out.next hb, hb⟩
  have add1 : ∀ wx, (Op.stringOp .add (str T1) { data := #[46] }).run Tryd.prog wx = .ok (.string (str (T1 ++ [46]))) wx := fun wx => run_add_str wx T1 [46] (by omega) (by simp)
  have add2 := fun wx => run_add_str wx (T1 ++ [46]) T2 (by simp; omega) (by omega)
  generalize T1 ++ [46] ++ T2 = T4 at *
  generalize T1 ++ [46] = T3 at *
  clear hd hT1 hT2 HR5
  have HI6 : Hid (InvU w w.heap.size x cx bt a5 c5 r5 w5.drew) := HI5.out.next (Below.refl _ _).drew
  have z1 := HI5.out.2.1
  clear HI5
  go_wp2
  go_region_with (first
    | (go_at_call 55; refine (HMC.out _ (by assumption)).mono ?_; rintro e w6 ⟨a6, c6, r6, rfl, hr6, hs6, hI6, hb6⟩; have z16 := hI6.out.2.1)
    | (go_at_call 54; refine (HSP.out _ _ _ (by first | exact .inl ⟨rfl, rfl⟩ | exact .inr ⟨a6, c6, r6, rfl, hr6, hs6, rfl⟩ | exact .inr ⟨a6, c6, r6, rfl, hr6, hs6.out.below hb7.out (Nat.le_refl _), rfl⟩) (by assumption)).mono ?_; rintro e w7 ⟨rfl, hI7, hb7⟩; have z17 := hI7.out.2.1))
  all_goals
    go_wp2
    go_ret
    exact ⟨T4, rfl, HTK, hI7.out.1⟩
#print axioms rtoken_any
end Go.Proofs.YthliodpihbbjfaaDoor
