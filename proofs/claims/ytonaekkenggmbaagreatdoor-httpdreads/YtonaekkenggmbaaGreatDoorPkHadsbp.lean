/-
  httpd: THE WALK of HttpdWrites.
-/
import Derived.Test.YtonaekkenggmbaaGreatDoorPkHadsbj
import Derived.Test.YtonaekkenggmbaaGreatDoorPkHadsal
import Derived.Test.YtonaekkenggmbaaGreatDoorPkHadsaq
import Derived.Test.YtonaekkenggmbaaGreatDoorPkHadsbb
import Derived.Deep.RegionLaw
import Derived.Deep.Cut
import Derived.Deep.CutRange
import Derived.Deep.DeepCutAuto
section
set_option linter.unusedVariables false
set_option maxRecDepth 1000000
namespace Go.Proofs.YtonaekkenggmbaaGreatDoor
open Go.RowKit

set_option maxHeartbeats 4000000 in
theorem samA_eq (st : Int) (H : List Hd) (B : List UInt8) (hp hq bp bq : Option Addr) (hc hd bc bd : Nat) (w : World) (h1 : HdR w hp H) (h2 : HdR w hq H) (b1 : Bs w bp bc B) (b2 : Bs w bq bd B) (hl : H.length ≤ 1000000) :
    Calls Tryz.prog 34 #[.agg #[.int .i64 st, .slice hp H.length hc, .slice bp B.length bc], .agg #[.int .i64 st, .slice hq H.length hd, .slice bq B.length bd]] w fun e w' => e = .returned (.bool true) ∧ Hid (Below w.heap.size w w') := by
  have H1 := hide h1
  have H2 := hide h2
  have B1 := hide b1
  have B2 := hide b2
  clear h1 h2 b1 b2
  obtain ⟨o1, ho1⟩ : ∃ o, o = Obj.cells #[.int .i64 st, .slice hp H.length hc, .slice bp B.length bc] 58 := ⟨_, rfl⟩
  obtain ⟨o2, ho2⟩ : ∃ o, o = Obj.cells #[.int .i64 st, .slice hq H.length hd, .slice bq B.length bd] 58 := ⟨_, rfl⟩
  have hb : Below w.heap.size w ((w.alloc o1).alloc o2) := ((Below.refl _ _).alloc (Nat.le_refl _) _).alloc (by simp) _
  have k1 := run_str _ _ _ bc B (unhide B1 |>.below hb (Nat.le_refl _)).row rfl
  have k2 := run_str _ _ _ bd B (unhide B2 |>.below hb (Nat.le_refl _)).row rfl
  have HS := hide (samh_eq hp hq hc hd H _ ((unhide H1).below hb (Nat.le_refl _)) ((unhide H2).below hb (Nat.le_refl _)) hl)
  have HB := hide hb
  have hst : (st == st) = true := by simp
  clear hb
  rw [ho1, ho2] at k1 k2 HS HB
  clear ho1 ho2
  have HBS := hide (unhide HB).size
  go_enter Tryz.func34, Tryz.ntmps34
  go_wp2_with fail
  refine (unhide HS).mono ?_
  rintro e w' ⟨rfl, HB2⟩
  go_wp2_with fail
  go_ret
  exact ⟨rfl, hide ((unhide HB).trans ((unhide HB2).mono (unhide HBS)))⟩
/-- Two answers in memory: G the copy, b the one that came. -/
structure Ta8 (W : World) (G b : Nat) (st : Int) (H : List Hd) (B : List UInt8) (hp2 bp2 hp bp : Option Addr) (hc2 bc2 hc bc : Nat) : Prop where
  rG : W.heap[G]? = some (.cells #[.int .i64 st, .slice hp2 H.length hc2, .slice bp2 B.length bc2] 58 (0, 0))
  rb : W.heap[b]? = some (.cells #[.int .i64 st, .slice hp H.length hc, .slice bp B.length bc] 58 (0, 0))
  h2 : HdR W hp2 H
  b2 : Bs W bp2 bc2 B
  h1 : HdR W hp H
  b1 : Bs W bp bc B
theorem Ta8.below {W W' : World} {G b : Nat} {st : Int} {H : List Hd} {B : List UInt8} {hp2 bp2 hp bp : Option Addr} {hc2 bc2 hc bc : Nat} (h : Ta8 W G b st H B hp2 bp2 hp bp hc2 bc2 hc bc) (hb : Below W.heap.size W W') : Ta8 W' G b st H B hp2 bp2 hp bp hc2 bc2 hc bc :=
  ⟨(hb.block G (Array.getElem?_eq_some_iff.1 h.rG).1).trans h.rG, (hb.block b (Array.getElem?_eq_some_iff.1 h.rb).1).trans h.rb, h.h2.below hb (Nat.le_refl _), h.b2.below hb (Nat.le_refl _), h.h1.below hb (Nat.le_refl _), h.b1.below hb (Nat.le_refl _)⟩
theorem Ta8.cells {W : World} {G b : Nat} {st : Int} {H : List Hd} {B : List UInt8} {hp2 bp2 hp bp : Option Addr} {hc2 bc2 hc bc : Nat} (h : Ta8 W G b st H B hp2 bp2 hp bp hc2 bc2 hc bc) : W.cell? ⟨G, 0, none⟩ = some (.int .i64 st) ∧ W.cell? ⟨G, 1, none⟩ = some (.slice hp2 H.length hc2) ∧ W.cell? ⟨G, 2, none⟩ = some (.slice bp2 B.length bc2) ∧ W.cell? ⟨b, 0, none⟩ = some (.int .i64 st) ∧ W.cell? ⟨b, 1, none⟩ = some (.slice hp H.length hc) ∧ W.cell? ⟨b, 2, none⟩ = some (.slice bp B.length bc) :=
  ⟨cell_of_row _ _ _ _ _ _ h.rG, cell_of_row _ _ _ _ _ _ h.rG, cell_of_row _ _ _ _ _ _ h.rG, cell_of_row _ _ _ _ _ _ h.rb, cell_of_row _ _ _ _ _ _ h.rb, cell_of_row _ _ _ _ _ _ h.rb⟩
theorem ta_step {w W W' : World} {G b : Nat} {st : Int} {H : List Hd} {B : List UInt8} {hp2 bp2 hp bp : Option Addr} {hc2 bc2 hc bc : Nat} (h : Ta8 W G b st H B hp2 bp2 hp bp hc2 bc2 hc bc ∧ Below w.heap.size w W) (hb : Below W.heap.size W W') : Ta8 W' G b st H B hp2 bp2 hp bp hc2 bc2 hc bc ∧ Below w.heap.size w W' := ⟨h.1.below hb, h.2.trans (hb.mono h.2.size)⟩
theorem below_seta {B : Nat} {W v : World} (h : Below B W v) (hB : B ≤ v.heap.size) (p : Addr) (u : Value) (hp : B ≤ p.block) : Below B W (v.setCell p u) := h.grown (grownBy_setCell v p u) hB (fun k hk => by simp at hk; omega)
theorem ta_set {w w3 : World} {G b : Nat} {st : Int} {H : List Hd} {B : List UInt8} {hp2 bp2 hp bp : Option Addr} {hc2 bc2 hc bc : Nat} {x y : Value} (hb : Below w.heap.size w w3) (hbG : w.heap.size ≤ b ∧ b < G)
    (rG : w3.heap[G]? = some (.cells #[.int .i64 st, x, y] 58 (0, 0))) (rb : w3.heap[b]? = some (.cells #[.int .i64 st, .slice hp H.length hc, .slice bp B.length bc] 58 (0, 0)))
    (h2 : HdR w3 hp2 H) (n2 : ∀ k, blk hp2 = some k → G < k) (b2 : Bs w3 bp2 bc2 B) (m2 : ∀ k, blk bp2 = some k → G < k) (h1 : HdR w hp H) (b1 : Bs w bp bc B) :
    Ta8 ((w3.setCell ⟨G, 1, none⟩ (.slice hp2 H.length hc2)).setCell ⟨G, 2, none⟩ (.slice bp2 B.length bc2)) G b st H B hp2 bp2 hp bp hc2 bc2 hc bc ∧ Below w.heap.size w ((w3.setCell ⟨G, 1, none⟩ (.slice hp2 H.length hc2)).setCell ⟨G, 2, none⟩ (.slice bp2 B.length bc2)) := by
  have hs : ∀ k, k ≠ G → ((w3.setCell ⟨G, 1, none⟩ (.slice hp2 H.length hc2)).setCell ⟨G, 2, none⟩ (.slice bp2 B.length bc2)).heap[k]? = w3.heap[k]? := fun k hk => by
    rw [Below.heap_setCell _ ⟨G, 2, none⟩ _ k hk, Below.heap_setCell _ ⟨G, 1, none⟩ _ k hk]
  have hB2 : Below w.heap.size w ((w3.setCell ⟨G, 1, none⟩ (.slice hp2 H.length hc2)).setCell ⟨G, 2, none⟩ (.slice bp2 B.length bc2)) :=
    below_seta (below_seta hb hb.size ⟨G, 1, none⟩ _ (by show _ ≤ G; omega)) (below_seta hb hb.size ⟨G, 1, none⟩ _ (by show _ ≤ G; omega)).size ⟨G, 2, none⟩ _ (by show _ ≤ G; omega)
  refine ⟨⟨?_, (hs b (by omega)).trans rb, h2.same (fun k hk _ => hs k (by have := n2 k hk; omega)), bs_samej b2 (fun k hk => hs k (by have := m2 k hk; omega)), h1.below hB2 (Nat.le_refl _), b1.below hB2 (Nat.le_refl _)⟩, hB2⟩
  rw [heap_setCell_same _ _ 2 _ _ _ (heap_setCell_same _ _ 1 _ _ _ rG)]
  rfl
set_option maxHeartbeats 8000000 in
theorem writes_any (st : Int) (h0 : -9223372036854775808 ≤ st) (h9 : st ≤ 9223372036854775807) (hp : Option Addr) (hc : Nat) (H : List Hd) (bp : Option Addr) (bc : Nat) (B : List UInt8) (w : World) (hE : EnvH w) (hP : P10 w) (h1 : HdR w hp H) (b1 : Bs w bp bc B) (hBz : B.length ≤ 140737488351232) :
    Calls Tryz.prog 5 #[.agg #[.int .i64 st, .slice hp H.length hc, .slice bp B.length bc]] w fun e w' => e = .returned (.bool true) ∧ Hid (Below w.heap.size w w') := by
  obtain ⟨U, hU⟩ : ∃ U, U = w.alloc (.cells #[.int .i64 st, .slice hp H.length hc, .slice bp B.length bc] 58) := ⟨_, rfl⟩
  have hbU : Below w.heap.size w U := by rw [hU]; exact (Below.refl _ _).alloc (Nat.le_refl _) _
  have hrU : U.heap[w.heap.size]? = some (.cells #[.int .i64 st, .slice hp H.length hc, .slice bp B.length bc] 58 (0, 0)) := by rw [hU]; exact heap_alloc_new w _
  have hsU : w.heap.size < U.heap.size := (Array.getElem?_eq_some_iff.1 hrU).1
  have hHl : H.length ≤ 9223372036854775807 := by have := h1.le; unfold maxLen at this; omega
  have HSQ : Hid (∀ q, HdR (U.drewN q) hp H) := fun q => (h1.below hbU (Nat.le_refl _)).below (bdr (Below.refl _ _) q) (Nat.le_refl _)
  have HWU : Hid (∀ q, Below w.heap.size w (U.drewN q)) := fun q => bdr hbU q
  have HRU : Hid (∀ q, (U.drewN q).heap[w.heap.size]? = some (.cells #[.int .i64 st, .slice hp H.length hc, .slice bp B.length bc] 58 (0, 0))) := fun q => ((bdr (Below.refl U.heap.size U) q).block _ hsU).trans hrU
  have HLU : Hid (∀ q, w.heap.size < (U.drewN q).heap.size) := fun q => Nat.lt_of_lt_of_le hsU (bdr (Below.refl U.heap.size U) q).size
  have r1 : U.cell? ⟨w.heap.size, 1, none⟩ = some (.slice hp H.length hc) := cell_of_row _ _ _ _ _ _ hrU
  have r2 : U.cell? ⟨w.heap.size, 2, none⟩ = some (.slice bp B.length bc) := cell_of_row _ _ _ _ _ _ hrU
  have HE := hide hE
  have HP := hide hP
  have HH := hide h1
  have HBB := hide b1
  have hbl := Nat.le_trans b1.le b1.most
  unfold maxLen at hbl
  clear hE hP h1 b1 hbU hrU hsU
  obtain ⟨mb, hmb⟩ : ∃ x : Nat, x = min B.length 262144 := ⟨_, rfl⟩
  have mB : min (B.length : Int) 262144 = (mb : Int) := by rw [hmb]; omega
  obtain ⟨n, hn⟩ : ∃ n, n = szM H := ⟨_, rfl⟩
  have HSZ : Hid (∀ q, Calls Tryz.prog 21 #[.slice hp H.length hc] (U.drewN q) fun e w' => e = .returned (.int .i64 (n : Int)) ∧ ∃ q', w' = (U.drewN q).drewN q') := fun q => by rw [hn]; exact size8_q hp hc H _ (unhide HSQ q) hHl
  have HN0 : Hid (n ≤ 1000000 ∧ (n ≤ 262144 → n = hsz H)) := by rw [hn]; exact szM_ok H
  have hn6 := (unhide HN0).1
  have hb6 : mb ≤ 262144 := by omega
  clear hmb hn
  have w1' : IntKind.i64.wrap ((n : Int) + (mb : Int)) = ((n + mb : Nat) : Int) := by rw [IntKind.wrap_i64]; omega
  obtain ⟨t3, ht3⟩ : ∃ t, t = n + mb := ⟨_, rfl⟩
  rw [← ht3] at w1'
  have HT3 : Hid (t3 = n + mb) := ht3
  clear ht3
  by_cases hbig : 262144 < t3
  · have hbd : decide ((262144 : Int) < (t3 : Int)) = true := decide_eq_true (by omega)
    go_enter Tryz.func5, Tryz.ntmps5
    go_upto_region 1 with fail
    rw [← hU]
    clear hU
    go_quiet ((go_at_call 21; exact Calls.quiet_of (unhide HSZ _)))
    go_wp2_with fail
    refine (awake8_any _ ((unhide HE).below (unhide HWU nq))).mono ?_
    rintro e V2 ⟨rfl, HB2⟩
    go_wp2_with fail
    go_ret
    exact ⟨rfl, hide ((unhide HWU nq).trans ((unhide HB2).mono (unhide HWU nq).size))⟩
  · have hbg : ¬ (262144 : Int) < (t3 : Int) := by omega
    have hbd : decide ((262144 : Int) < (t3 : Int)) = false := decide_eq_false hbg
    have HBD : Hid (hsz H ≤ 262144) := by
      have e := unhide HT3
      have := (unhide HN0).2 (by omega)
      show _ ≤ _
      omega
    clear hbig hbg
    have HST : Hid (HdS H ∧ H.length ≤ 32768) := by
      refine ⟨fun t d hd => ?_, ?_⟩
      · have := hsz_mem H d (List.mem_of_getElem? hd)
        have := unhide HBD
        omega
      · have := hsz_len H
        have := unhide HBD
        omega
    go_enter Tryz.func5, Tryz.ntmps5
    go_upto_region 1 with fail
    rw [← hU]
    clear hU
    go_quiet ((go_at_call 21; exact Calls.quiet_of (unhide HSZ _)))
    have hWY := unhide HWU nq
    have hRY := unhide HRU nq
    have hLY := unhide HLU nq
    clear HSQ HWU HRU HLU HSZ r1 r2 mB w1' HN0 HT3 hb6 hn6
    generalize U.drewN nq = Y at *
    obtain ⟨G, hG⟩ : ∃ G, G = Y.heap.size := ⟨_, rfl⟩
    have y0 : Y.cell? ⟨w.heap.size, 0, none⟩ = some (.int .i64 st) := cell_of_row _ _ _ _ _ _ hRY
    have y1 : Y.cell? ⟨w.heap.size, 1, none⟩ = some (.slice hp H.length hc) := cell_of_row _ _ _ _ _ _ hRY
    have y2 : Y.cell? ⟨w.heap.size, 2, none⟩ = some (.slice bp B.length bc) := cell_of_row _ _ _ _ _ _ hRY
    obtain ⟨o, ho⟩ : ∃ o, o = Obj.cells #[.int .i64 st, .slice hp H.length hc, .slice bp B.length bc] 58 := ⟨_, rfl⟩
    have hbA : Below Y.heap.size Y (Y.alloc o) := (Below.refl _ _).alloc (Nat.le_refl _) _
    have hWA : Below w.heap.size w (Y.alloc o) := hWY.trans (hbA.mono hWY.size)
    have hRA : (Y.alloc o).heap[w.heap.size]? = _ := (hbA.block _ hLY).trans hRY
    have hGA : (Y.alloc o).heap[Y.heap.size]? = some (.cells #[.int .i64 st, .slice hp H.length hc, .slice bp B.length bc] 58 (0, 0)) := by rw [ho]; exact heap_alloc_new Y _
    obtain ⟨Z, hZ⟩ : ∃ Z, Z = Y.alloc o := ⟨_, rfl⟩
    rw [← hZ] at hbA hWA hRA hGA
    rw [ho] at hZ
    clear ho o
    have z1 : Z.cell? ⟨w.heap.size, 1, none⟩ = some (.slice hp H.length hc) := cell_of_row _ _ _ _ _ _ hRA
    have z2 : Z.cell? ⟨w.heap.size, 2, none⟩ = some (.slice bp B.length bc) := cell_of_row _ _ _ _ _ _ hRA
    have HZD : Hid (Below w.heap.size w Z.drew ∧ Z.drew.heap[w.heap.size]? = some (.cells #[.int .i64 st, .slice hp H.length hc, .slice bp B.length bc] 58 (0, 0)) ∧ Z.drew.heap[G]? = some (.cells #[.int .i64 st, .slice hp H.length hc, .slice bp B.length bc] 58 (0, 0)) ∧ G < Z.drew.heap.size) := ⟨bdr hWA 1, hRA, by rw [hG]; exact hGA, by rw [hG]; exact (Array.getElem?_eq_some_iff.1 hGA).1⟩
    have HBG : Hid (w.heap.size ≤ w.heap.size ∧ w.heap.size < G) := by rw [hG]; exact ⟨Nat.le_refl _, hLY⟩
    have HCH : Hid (∀ wx, Below w.heap.size w wx → Calls Tryz.prog 22 #[.slice hp H.length hc] wx fun e w' => ∃ a c, e = .returned (.slice a H.length c) ∧ Hid (HdR w' a H ∧ ∀ k, blk a = some k → wx.heap.size ≤ k) ∧ Hid (Below wx.heap.size wx w')) := fun wx hx =>
      (cloneH_any hp hc H wx ((unhide HH).below hx (Nat.le_refl _)) (by have := (unhide HST).2; omega)).mono fun e w' ⟨a, c, r, h, hr, ho, hb⟩ => by
        obtain rfl : r = H := unhide hr
        exact ⟨a, c, h, ⟨(unhide ho).hdR, fun k hk => ((unhide ho).lt k hk).1⟩, hb⟩
    have HCB : Hid (∀ wx, Below w.heap.size w wx → Calls Tryz.prog 12 #[.slice bp B.length bc] wx fun e w' => ∃ a c, e = .returned (.slice a B.length c) ∧ Hid (Bs w' a c B ∧ ∀ k, blk a = some k → wx.heap.size ≤ k) ∧ Hid (Below wx.heap.size wx w')) := fun wx hx =>
      (sclone_all8 bp B.length bc B wx ((unhide HBB).below hx (Nat.le_refl _)) rfl (by omega)).mono fun e w' ⟨a, c, r, h, hr, ho, hb⟩ => by
        obtain rfl : r = B := unhide hr
        exact ⟨a, c, h, ⟨ho.toBs, fun k hk => (ho.lt k hk).1⟩, hb⟩
    clear hbA hWA hRA hGA hWY hRY hLY
    go_upto_region 4 with fail
    rw [← hZ]
    clear hZ y0 y1 y2
    rw [← hG]
    clear hG
    go_cut [] (fun wx => ∃ hp2 hc2 bp2 bc2, Hid (Ta8 wx G w.heap.size st H B hp2 bp2 hp bp hc2 bc2 hc bc ∧ Below w.heap.size w wx))
    case first =>
      have HCS : Hid (∀ (v : World) (i : Nat) (u : Value) (o : Nat), (v.setCell ⟨G, i, none⟩ u).cell? ⟨w.heap.size, o, none⟩ = v.cell? ⟨w.heap.size, o, none⟩) := fun v i u o => by
        refine World.cell?_setCell_other _ _ _ _ (fun e => ?_)
        have := congrArg Addr.block e
        have := (unhide HBG).2
        simp at *
        try omega
      go_region_held3 (fun w' => w'.cell? ⟨w.heap.size, 1, none⟩ = some (.slice hp H.length hc) ∧ w'.cell? ⟨w.heap.size, 2, none⟩ = some (.slice bp B.length bc)) (first | exact S3 | exact S2 | exact ⟨z1, z2⟩ | exact ⟨(unhide HCS _ _ _ _).trans S3.1, (unhide HCS _ _ _ _).trans S3.2⟩ | exact ⟨(unhide HCS _ _ _ _).trans ((unhide HCS _ _ _ _).trans S3.1), (unhide HCS _ _ _ _).trans ((unhide HCS _ _ _ _).trans S3.2)⟩ | go_keep) ((first
        | (have hh := HB2; clear hh; go_at_call 22; refine (unhide HCH _ (unhide HW2)).mono ?_; rintro e w3 ⟨hp2, hc2, rfl, HA, HB3⟩; have HW3 : Hid (Below w.heap.size w w3) := (unhide HW2).trans ((unhide HB3).mono (unhide HW2).size); have HR3 : Hid (w3.heap[w.heap.size]? = some (.cells #[.int .i64 st, .slice hp H.length hc, .slice bp B.length bc] 58 (0, 0)) ∧ w3.heap[G]? = some (.cells #[.int .i64 st, .slice hp H.length hc, .slice bp B.length bc] 58 (0, 0)) ∧ G < w3.heap.size) := ⟨((unhide HB3).block w.heap.size (by have := (unhide HR2).2.2; have := (unhide HBG).2; omega)).trans (unhide HR2).1, ((unhide HB3).block G (unhide HR2).2.2).trans (unhide HR2).2.1, Nat.lt_of_lt_of_le (unhide HR2).2.2 (unhide HB3).size⟩; have S3 : w3.cell? ⟨w.heap.size, 1, none⟩ = some (.slice hp H.length hc) ∧ w3.cell? ⟨w.heap.size, 2, none⟩ = some (.slice bp B.length bc) := ⟨cell_of_row _ _ _ _ _ _ (unhide HR3).1, cell_of_row _ _ _ _ _ _ (unhide HR3).1⟩; have HX : Hid (HdR w3 hp2 H ∧ (∀ k, blk hp2 = some k → G < k) ∧ Bs w3 bp2 bc2 B ∧ (∀ k, blk bp2 = some k → G < k)) := ⟨(unhide HA).1, fun k hk => by have := (unhide HA).2 k hk; have := (unhide HR2).2.2; omega, (unhide HC).1.below (unhide HB3) (Nat.le_refl _), fun k hk => by have := (unhide HC).2 k hk; have := (unhide HZD).2.2.2; omega⟩; have k1 : w3.cell? ⟨G, 1, none⟩ = some (.slice hp H.length hc) := cell_of_row _ _ _ _ _ _ (unhide HR3).2.1; have k2 : w3.cell? ⟨G, 2, none⟩ = some (.slice bp B.length bc) := cell_of_row _ _ _ _ _ _ (unhide HR3).2.1; have f1 : w3.frozen? ⟨G, 1, none⟩ = false := frozen_of_row w3 G 1 _ _ (unhide HR3).2.1; have f2 : w3.frozen? ⟨G, 2, none⟩ = false := frozen_of_row w3 G 2 _ _ (unhide HR3).2.1)
        | (have hh := HB2; clear hh; go_at_call 12; refine (unhide HCB _ (unhide HW2)).mono ?_; rintro e w3 ⟨bp2, bc2, rfl, HC, HB3⟩; have HW3 : Hid (Below w.heap.size w w3) := (unhide HW2).trans ((unhide HB3).mono (unhide HW2).size); have HR3 : Hid (w3.heap[w.heap.size]? = some (.cells #[.int .i64 st, .slice hp H.length hc, .slice bp B.length bc] 58 (0, 0)) ∧ w3.heap[G]? = some (.cells #[.int .i64 st, .slice hp H.length hc, .slice bp B.length bc] 58 (0, 0)) ∧ G < w3.heap.size) := ⟨((unhide HB3).block w.heap.size (by have := (unhide HR2).2.2; have := (unhide HBG).2; omega)).trans (unhide HR2).1, ((unhide HB3).block G (unhide HR2).2.2).trans (unhide HR2).2.1, Nat.lt_of_lt_of_le (unhide HR2).2.2 (unhide HB3).size⟩; have S3 : w3.cell? ⟨w.heap.size, 1, none⟩ = some (.slice hp H.length hc) ∧ w3.cell? ⟨w.heap.size, 2, none⟩ = some (.slice bp B.length bc) := ⟨cell_of_row _ _ _ _ _ _ (unhide HR3).1, cell_of_row _ _ _ _ _ _ (unhide HR3).1⟩; have HX : Hid (HdR w3 hp2 H ∧ (∀ k, blk hp2 = some k → G < k) ∧ Bs w3 bp2 bc2 B ∧ (∀ k, blk bp2 = some k → G < k)) := ⟨(unhide HA).1.below (unhide HB3) (Nat.le_refl _), fun k hk => by have := (unhide HA).2 k hk; have := (unhide HZD).2.2.2; omega, (unhide HC).1, fun k hk => by have := (unhide HC).2 k hk; have := (unhide HR2).2.2; omega⟩; have k1 : w3.cell? ⟨G, 1, none⟩ = some (.slice hp H.length hc) := cell_of_row _ _ _ _ _ _ (unhide HR3).2.1; have k2 : w3.cell? ⟨G, 2, none⟩ = some (.slice bp B.length bc) := cell_of_row _ _ _ _ _ _ (unhide HR3).2.1; have f1 : w3.frozen? ⟨G, 1, none⟩ = false := frozen_of_row w3 G 1 _ _ (unhide HR3).2.1; have f2 : w3.frozen? ⟨G, 2, none⟩ = false := frozen_of_row w3 G 2 _ _ (unhide HR3).2.1)
        | (go_at_call 22; refine (unhide HCH _ (unhide HZD).1).mono ?_; rintro e w2 ⟨hp2, hc2, rfl, HA, HB2⟩; have HW2 : Hid (Below w.heap.size w w2) := (unhide HZD).1.trans ((unhide HB2).mono (unhide HZD).1.size); have HR2 : Hid (w2.heap[w.heap.size]? = some (.cells #[.int .i64 st, .slice hp H.length hc, .slice bp B.length bc] 58 (0, 0)) ∧ w2.heap[G]? = some (.cells #[.int .i64 st, .slice hp H.length hc, .slice bp B.length bc] 58 (0, 0)) ∧ G < w2.heap.size) := ⟨((unhide HB2).block w.heap.size (by have := (unhide HZD).2.2.2; have := (unhide HBG).2; omega)).trans (unhide HZD).2.1, ((unhide HB2).block G (unhide HZD).2.2.2).trans (unhide HZD).2.2.1, Nat.lt_of_lt_of_le (unhide HZD).2.2.2 (unhide HB2).size⟩; have S2 : w2.cell? ⟨w.heap.size, 1, none⟩ = some (.slice hp H.length hc) ∧ w2.cell? ⟨w.heap.size, 2, none⟩ = some (.slice bp B.length bc) := ⟨cell_of_row _ _ _ _ _ _ (unhide HR2).1, cell_of_row _ _ _ _ _ _ (unhide HR2).1⟩)
        | (go_at_call 12; refine (unhide HCB _ (unhide HZD).1).mono ?_; rintro e w2 ⟨bp2, bc2, rfl, HC, HB2⟩; have HW2 : Hid (Below w.heap.size w w2) := (unhide HZD).1.trans ((unhide HB2).mono (unhide HZD).1.size); have HR2 : Hid (w2.heap[w.heap.size]? = some (.cells #[.int .i64 st, .slice hp H.length hc, .slice bp B.length bc] 58 (0, 0)) ∧ w2.heap[G]? = some (.cells #[.int .i64 st, .slice hp H.length hc, .slice bp B.length bc] 58 (0, 0)) ∧ G < w2.heap.size) := ⟨((unhide HB2).block w.heap.size (by have := (unhide HZD).2.2.2; have := (unhide HBG).2; omega)).trans (unhide HZD).2.1, ((unhide HB2).block G (unhide HZD).2.2.2).trans (unhide HZD).2.2.1, Nat.lt_of_lt_of_le (unhide HZD).2.2.2 (unhide HB2).size⟩; have S2 : w2.cell? ⟨w.heap.size, 1, none⟩ = some (.slice hp H.length hc) ∧ w2.cell? ⟨w.heap.size, 2, none⟩ = some (.slice bp B.length bc) := ⟨cell_of_row _ _ _ _ _ _ (unhide HR2).1, cell_of_row _ _ _ _ _ _ (unhide HR2).1⟩)
        | fail))
      all_goals
        go_wp2_with fail
        go_meet
        case rel =>
          obtain ⟨x1, x2, x3, x4⟩ := unhide HX
          exact ⟨hp2, hc2, bp2, bc2, ta_set (unhide HW3) (unhide HBG) (unhide HR3).2.1 (unhide HR3).1 x1 x2 x3 x4 (unhide HH) (unhide HBB)⟩
    case rest =>
      obtain ⟨hp2, hc2, bp2, bc2, HTW⟩ := hcut
      clear z1 z2 HZD HCH HCB HH HBB HBG
      have hHl2 := (unhide HST).2
      obtain ⟨q0, q1, q2, p0, p1, p2⟩ := (unhide HTW).1.cells
      have HP1 := hide (write8 st h0 h9 H B hp2 bp2 hc2 bc2 wc ((unhide HP).below (unhide HTW).2) (unhide HTW).1.h2 (unhide HTW).1.b2 (unhide HBD))
      go_wp2_with fail
      refine (unhide HP1).mono ?_
      rintro e w7 ⟨a1, c1, r1, z1, rfl, HZ1, HR1, HB7⟩
      have HT7 : Hid (Ta8 w7 G w.heap.size st H B hp2 bp2 hp bp hc2 bc2 hc bc ∧ Below w.heap.size w w7) := ta_step (unhide HTW) (unhide HB7)
      clear q0 q1 q2 p0 p1 p2 HP1 HTW HB7
      obtain ⟨q0, q1, q2, p0, p1, p2⟩ := (unhide HT7).1.cells
      have HP2 := hide (rwrite8 st H B hp bp hc bc w7 (unhide HT7).1.h1 (unhide HT7).1.b1 (unhide HBD))
      go_wp2_with fail
      refine (unhide HP2).mono ?_
      rintro e w8 ⟨a2, c2, r2, z2, rfl, HZ2, HR2, HB8⟩
      have HT8 : Hid (Ta8 w8 G w.heap.size st H B hp2 bp2 hp bp hc2 bc2 hc bc ∧ Below w.heap.size w w8) := ta_step (unhide HT7) (unhide HB8)
      have HR1' := hide ((unhide HR1).below (unhide HB8) (Nat.le_refl _))
      clear q0 q1 q2 p0 p1 p2 HP2 HT7 HB8 HR1
      obtain ⟨rfl, rfl⟩ : r2 = r1 ∧ z2 = z1 := ⟨(unhide HZ2).2.trans (unhide HZ1).2.symm, (unhide HZ2).1.trans (unhide HZ1).1.symm⟩
      have HEQ : Hid (Calls Tryz.prog 27 #[.slice a1 r2.length c1, .slice a2 r2.length c2] w8 fun e w' => e = .returned (.bool true) ∧ w' = w8) :=
        (equal_any a1 r2.length c1 r2 a2 r2.length c2 r2 w8 (unhide HR1').row (unhide HR2).row rfl rfl).mono fun e w' h => ⟨by rw [h.1]; simp, h.2⟩
      obtain ⟨q0, q1, q2, p0, p1, p2⟩ := (unhide HT8).1.cells
      have n3 : ((z2 : Int) == (z2 : Int)) = true := by simp
      have HSQ := hide (samA_eq st H B hp2 hp bp2 bp hc2 hc bc2 bc w8 (unhide HT8).1.h2 (unhide HT8).1.h1 (unhide HT8).1.b2 (unhide HT8).1.b1 (by omega))
      clear HZ1 HZ2 HR1' HR2
      go_wp2_with fail
      refine (unhide HEQ).mono ?_
      rintro e w8 ⟨rfl, rfl⟩
      clear HEQ
      go_wp2_with fail
      refine (unhide HSQ).mono ?_
      rintro e w12 ⟨rfl, HB12⟩
      have HT12 := hide (ta_step (unhide HT8) (unhide HB12))
      clear HSQ q0 q1 q2 p0 p1 p2
      go_wp2_with fail
      refine (awake8_any _ ((unhide HE).below (unhide HT12).2)).mono ?_
      rintro e w13 ⟨rfl, HB13⟩
      go_wp2_with fail
      go_ret
      exact ⟨rfl, hide ((unhide HT12).2.trans ((unhide HB13).mono (unhide HT12).2.size))⟩
#print axioms writes_any
theorem httpdWrites_walk (st : Int) (hp : Option Addr) (hc : Nat) (H : List Hd) (bp : Option Addr) (bc : Nat) (B : List UInt8) (w : World) (h1 : HdR w hp H) (b1 : Bs w bp bc B) (z1 : B.length ≤ 140737488351232) (hst : -9223372036854775808 ≤ st ∧ st ≤ 9223372036854775807) (hE : EnvH w ∧ P10 w) :
    Calls Tryz.prog 5 #[.agg #[.int .i64 st, .slice hp H.length hc, .slice bp B.length bc]] w fun e w' => e = .returned (.bool true) ∧ Below w.heap.size w w' :=
  (writes_any st hst.1 hst.2 hp hc H bp bc B w hE.1 hE.2 h1 b1 z1).mono fun e w' h => ⟨h.1, unhide h.2⟩
end Go.Proofs.YtonaekkenggmbaaGreatDoor
end
