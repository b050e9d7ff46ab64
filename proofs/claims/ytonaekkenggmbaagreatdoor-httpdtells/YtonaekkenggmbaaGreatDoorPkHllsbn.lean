/-
  httpd: THE WALK of HttpdTells.
-/
import Derived.Test.YtonaekkenggmbaaGreatDoorPkHllsbl
import Derived.Test.YtonaekkenggmbaaGreatDoorPkHllsao
import Derived.Test.YtonaekkenggmbaaGreatDoorPkHllsbm
import Derived.Test.YtonaekkenggmbaaGreatDoorPkHllsbg
import Derived.Test.YtonaekkenggmbaaGreatDoorPkHllsbe
import Derived.Test.YtonaekkenggmbaaGreatDoorPkHllsax
import Derived.Deep.RegionLaw
import Derived.Deep.Cut
import Derived.Deep.CutRange
import Derived.Deep.DeepCutAuto
section
set_option linter.unusedVariables false
set_option maxRecDepth 1000000
namespace Go.Proofs.YtonaekkenggmbaaGreatDoor
open Go.RowKit

theorem HdR.same8 {w w' : World} {p : Option Addr} {H : List Hd} (h : HdR w p H) (hs : ∀ k, blk p = some k → w'.heap[k]? = w.heap[k]?) : HdR w' p H := by
  refine ⟨fun hne => ?_, h.le⟩
  obtain ⟨b, off, rfl, hc⟩ := h.mem hne
  refine ⟨b, off, rfl, fun t d hd => ?_⟩
  have e := hs b rfl
  obtain ⟨c0, c1⟩ := hc t d hd
  have k : ∀ i, w'.cell? ⟨b, i, none⟩ = w.cell? ⟨b, i, none⟩ := fun i => by simp only [World.cell?, e]
  exact ⟨(k _).trans c0, (k _).trans c1⟩
/-- Two requests in memory: G the copy, b the one that came. -/
structure Tw8 (W : World) (G b : Nat) (m p : List UInt8) (H : List Hd) (B : List UInt8) (hp2 bp2 hp bp : Option Addr) (hc2 bc2 hc bc : Nat) : Prop where
  rG : W.heap[G]? = some (.cells #[.string (str m), .string (str p), .slice hp2 H.length hc2, .slice bp2 B.length bc2] 39 (0, 0))
  rb : W.heap[b]? = some (.cells #[.string (str m), .string (str p), .slice hp H.length hc, .slice bp B.length bc] 39 (0, 0))
  h2 : HdR W hp2 H
  b2 : Bs W bp2 bc2 B
  h1 : HdR W hp H
  b1 : Bs W bp bc B
theorem Tw8.below {W W' : World} {G b : Nat} {m p : List UInt8} {H : List Hd} {B : List UInt8} {hp2 bp2 hp bp : Option Addr} {hc2 bc2 hc bc : Nat} (h : Tw8 W G b m p H B hp2 bp2 hp bp hc2 bc2 hc bc) (hb : Below W.heap.size W W') : Tw8 W' G b m p H B hp2 bp2 hp bp hc2 bc2 hc bc :=
  ⟨(hb.block G (Array.getElem?_eq_some_iff.1 h.rG).1).trans h.rG, (hb.block b (Array.getElem?_eq_some_iff.1 h.rb).1).trans h.rb, h.h2.below hb (Nat.le_refl _), h.b2.below hb (Nat.le_refl _), h.h1.below hb (Nat.le_refl _), h.b1.below hb (Nat.le_refl _)⟩
theorem Tw8.cells {W : World} {G b : Nat} {m p : List UInt8} {H : List Hd} {B : List UInt8} {hp2 bp2 hp bp : Option Addr} {hc2 bc2 hc bc : Nat} (h : Tw8 W G b m p H B hp2 bp2 hp bp hc2 bc2 hc bc) : W.cell? ⟨G, 0, none⟩ = some (.string (str m)) ∧ W.cell? ⟨G, 1, none⟩ = some (.string (str p)) ∧ W.cell? ⟨G, 2, none⟩ = some (.slice hp2 H.length hc2) ∧ W.cell? ⟨G, 3, none⟩ = some (.slice bp2 B.length bc2) ∧ W.cell? ⟨b, 0, none⟩ = some (.string (str m)) ∧ W.cell? ⟨b, 1, none⟩ = some (.string (str p)) ∧ W.cell? ⟨b, 2, none⟩ = some (.slice hp H.length hc) ∧ W.cell? ⟨b, 3, none⟩ = some (.slice bp B.length bc) :=
  ⟨cell_of_row _ _ _ _ _ _ h.rG, cell_of_row _ _ _ _ _ _ h.rG, cell_of_row _ _ _ _ _ _ h.rG, cell_of_row _ _ _ _ _ _ h.rG, cell_of_row _ _ _ _ _ _ h.rb, cell_of_row _ _ _ _ _ _ h.rb, cell_of_row _ _ _ _ _ _ h.rb, cell_of_row _ _ _ _ _ _ h.rb⟩
theorem tw_step {w W W' : World} {G b : Nat} {m p : List UInt8} {H : List Hd} {B : List UInt8} {hp2 bp2 hp bp : Option Addr} {hc2 bc2 hc bc : Nat} (h : Tw8 W G b m p H B hp2 bp2 hp bp hc2 bc2 hc bc ∧ Below w.heap.size w W) (hb : Below W.heap.size W W') : Tw8 W' G b m p H B hp2 bp2 hp bp hc2 bc2 hc bc ∧ Below w.heap.size w W' := ⟨h.1.below hb, h.2.trans (hb.mono h.2.size)⟩
theorem below_sett {B : Nat} {W v : World} (h : Below B W v) (hB : B ≤ v.heap.size) (p : Addr) (u : Value) (hp : B ≤ p.block) : Below B W (v.setCell p u) := h.grown (grownBy_setCell v p u) hB (fun k hk => by simp at hk; omega)
/-- The copy's two lists are laid into it. -/
theorem tw_set {w w3 : World} {G b : Nat} {m p : List UInt8} {H : List Hd} {B : List UInt8} {hp2 bp2 hp bp : Option Addr} {hc2 bc2 hc bc : Nat} {x y : Value} (hb : Below w.heap.size w w3) (hbG : w.heap.size ≤ b ∧ b < G)
    (rG : w3.heap[G]? = some (.cells #[.string (str m), .string (str p), x, y] 39 (0, 0)))
    (rb : w3.heap[b]? = some (.cells #[.string (str m), .string (str p), .slice hp H.length hc, .slice bp B.length bc] 39 (0, 0)))
    (h2 : HdR w3 hp2 H) (n2 : ∀ k, blk hp2 = some k → G < k) (b2 : Bs w3 bp2 bc2 B) (m2 : ∀ k, blk bp2 = some k → G < k) (h1 : HdR w hp H) (b1 : Bs w bp bc B) :
    Tw8 ((w3.setCell ⟨G, 2, none⟩ (.slice hp2 H.length hc2)).setCell ⟨G, 3, none⟩ (.slice bp2 B.length bc2)) G b m p H B hp2 bp2 hp bp hc2 bc2 hc bc ∧ Below w.heap.size w ((w3.setCell ⟨G, 2, none⟩ (.slice hp2 H.length hc2)).setCell ⟨G, 3, none⟩ (.slice bp2 B.length bc2)) := by
  have hs : ∀ k, k ≠ G → ((w3.setCell ⟨G, 2, none⟩ (.slice hp2 H.length hc2)).setCell ⟨G, 3, none⟩ (.slice bp2 B.length bc2)).heap[k]? = w3.heap[k]? := fun k hk => by
    rw [Below.heap_setCell _ ⟨G, 3, none⟩ _ k hk, Below.heap_setCell _ ⟨G, 2, none⟩ _ k hk]
  have hB2 : Below w.heap.size w ((w3.setCell ⟨G, 2, none⟩ (.slice hp2 H.length hc2)).setCell ⟨G, 3, none⟩ (.slice bp2 B.length bc2)) :=
    below_sett (below_sett hb hb.size ⟨G, 2, none⟩ _ (by show _ ≤ G; omega)) (below_sett hb hb.size ⟨G, 2, none⟩ _ (by show _ ≤ G; omega)).size ⟨G, 3, none⟩ _ (by show _ ≤ G; omega)
  refine ⟨⟨?_, (hs b (by omega)).trans rb, h2.same8 (fun k hk => hs k (by have := n2 k hk; omega)), bs_samej b2 (fun k hk => hs k (by have := m2 k hk; omega)), h1.below hB2 (Nat.le_refl _), b1.below hB2 (Nat.le_refl _)⟩, hB2⟩
  rw [heap_setCell_same _ _ 3 _ _ _ (heap_setCell_same _ _ 2 _ _ _ rG)]
  rfl
set_option maxHeartbeats 8000000 in
theorem tells_any (st : Int) (m p : List UInt8) (hp : Option Addr) (hc : Nat) (H : List Hd) (bp : Option Addr) (bc : Nat) (B : List UInt8) (nm : List UInt8) (w : World) (hE : EnvH w) (h1 : HdR w hp H) (b1 : Bs w bp bc B) (hmz : m.length ≤ 140737488351232) (hpz : p.length ≤ 140737488351232) (hBz : B.length ≤ 140737488351232) (hnz : nm.length ≤ 140737488351232) :
    Calls Tryz.prog 4 #[.int .i64 st, .agg #[.string (str m), .string (str p), .slice hp H.length hc, .slice bp B.length bc], .string (str nm)] w fun e w' => e = .returned (.bool true) ∧ Hid (Below w.heap.size w w') := by
  obtain ⟨U, hU⟩ : ∃ U, U = w.alloc (.cells #[.string (str m), .string (str p), .slice hp H.length hc, .slice bp B.length bc] 39) := ⟨_, rfl⟩
  have hbU : Below w.heap.size w U := by rw [hU]; exact (Below.refl _ _).alloc (Nat.le_refl _) _
  have hrU : U.heap[w.heap.size]? = some (.cells #[.string (str m), .string (str p), .slice hp H.length hc, .slice bp B.length bc] 39 (0, 0)) := by rw [hU]; exact heap_alloc_new w _
  have hsU : w.heap.size < U.heap.size := (Array.getElem?_eq_some_iff.1 hrU).1
  have hHl : H.length ≤ 9223372036854775807 := by have := h1.le; unfold maxLen at this; omega
  have HSQ : Hid (∀ q, HdR (U.drewN q) hp H) := fun q => (h1.below hbU (Nat.le_refl _)).below (below_drewN (Below.refl _ _) q) (Nat.le_refl _)
  have HWU : Hid (∀ q, Below w.heap.size w (U.drewN q)) := fun q => below_drewN hbU q
  have HRU : Hid (∀ q, (U.drewN q).heap[w.heap.size]? = some (.cells #[.string (str m), .string (str p), .slice hp H.length hc, .slice bp B.length bc] 39 (0, 0))) := fun q => ((below_drewN (Below.refl U.heap.size U) q).block _ hsU).trans hrU
  have HLU : Hid (∀ q, w.heap.size < (U.drewN q).heap.size) := fun q => Nat.lt_of_lt_of_le hsU (below_drewN (Below.refl U.heap.size U) q).size
  have r0 : U.cell? ⟨w.heap.size, 0, none⟩ = some (.string (str m)) := cell_of_row _ _ _ _ _ _ hrU
  have r1 : U.cell? ⟨w.heap.size, 1, none⟩ = some (.string (str p)) := cell_of_row _ _ _ _ _ _ hrU
  have r2 : U.cell? ⟨w.heap.size, 2, none⟩ = some (.slice hp H.length hc) := cell_of_row _ _ _ _ _ _ hrU
  have r3 : U.cell? ⟨w.heap.size, 3, none⟩ = some (.slice bp B.length bc) := cell_of_row _ _ _ _ _ _ hrU
  have s1 : (str m).size = m.length := str_size m
  have s2 : (str p).size = p.length := str_size p
  have HE := hide hE
  have HH := hide h1
  have HBB := hide b1
  have hbl := Nat.le_trans b1.le b1.most
  unfold maxLen at hbl
  clear hE h1 b1 hbU hrU hsU
  obtain ⟨mb, hmb⟩ : ∃ x : Nat, x = min B.length 262144 := ⟨_, rfl⟩
  obtain ⟨mp, hmp⟩ : ∃ x : Nat, x = min p.length 262144 := ⟨_, rfl⟩
  obtain ⟨mm, hmm⟩ : ∃ x : Nat, x = min m.length 262144 := ⟨_, rfl⟩
  have mB : min (B.length : Int) 262144 = (mb : Int) := by rw [hmb]; omega
  have mP : min (p.length : Int) 262144 = (mp : Int) := by rw [hmp]; omega
  have mM : min (m.length : Int) 262144 = (mm : Int) := by rw [hmm]; omega
  obtain ⟨n, hn⟩ : ∃ n, n = szM H := ⟨_, rfl⟩
  have HSZ : Hid (∀ q, Calls Tryz.prog 21 #[.slice hp H.length hc] (U.drewN q) fun e w' => e = .returned (.int .i64 (n : Int)) ∧ ∃ q', w' = (U.drewN q).drewN q') := fun q => by rw [hn]; exact size8_q hp hc H _ (unhide HSQ q) hHl
  have HNN := hide hn
  have HM1 := hide (And.intro hmb (And.intro hmp hmm))
  have HN0 : Hid (n ≤ 1000000 ∧ (n ≤ 262144 → n = hsz H)) := by rw [hn]; exact szM_ok H
  have hn6 := (unhide HN0).1
  have hb6 : mb ≤ 262144 := by omega
  have hp6 : mp ≤ 262144 := by omega
  have hm6 : mm ≤ 262144 := by omega
  clear hmb hmp hmm hn
  have w1' : IntKind.i64.wrap ((n : Int) + (mb : Int)) = ((n + mb : Nat) : Int) := by rw [IntKind.wrap_i64]; omega
  have w2' : IntKind.i64.wrap (((n + mb : Nat) : Int) + (mp : Int)) = ((n + mb + mp : Nat) : Int) := by rw [IntKind.wrap_i64]; omega
  have w3' : IntKind.i64.wrap (((n + mb + mp : Nat) : Int) + (mm : Int)) = ((n + mb + mp + mm : Nat) : Int) := by rw [IntKind.wrap_i64]; omega
  obtain ⟨t1, ht1⟩ : ∃ t, t = n + mb := ⟨_, rfl⟩
  obtain ⟨t2, ht2⟩ : ∃ t, t = t1 + mp := ⟨_, rfl⟩
  obtain ⟨t3, ht3⟩ : ∃ t, t = t2 + mm := ⟨_, rfl⟩
  rw [← ht1] at w1' w2' w3'
  rw [← ht2] at w2' w3'
  rw [← ht3] at w3'
  have HT3 : Hid (t3 = n + mb + mp + mm) := by show _ = _; rw [ht3, ht2, ht1]
  clear ht1 ht2 ht3
  by_cases hbig : 262144 < t3
  · have hbd : decide ((262144 : Int) < (t3 : Int)) = true := decide_eq_true (by omega)
    go_enter Tryz.func4, Tryz.ntmps4
    go_upto_region 1 with fail
    rw [← hU]
    clear hU
    go_quiet ((go_at_call 21; exact Calls.quiet_of (unhide HSZ _)))
    go_wp2_with fail
    refine (awake8_any _ ((unhide HE).below (unhide HWU nq))).mono ?_
    rintro e V2 ⟨rfl, HB2⟩
    go_wp2_with fail
    go_ret
    exact ⟨rfl, hide ((unhide HWU nq).trans ((unhide HB2).mono (unhide HWU nq).size))⟩
  · have hbg : ¬ (262144 : Int) < (t3 : Int) := by omega
    have hbd : decide ((262144 : Int) < (t3 : Int)) = false := decide_eq_false hbg
    have HBD : Hid (m.length + p.length + hsz H + B.length ≤ 140737488351232 ∧ hsz H ≤ 262144) := by
      have e := unhide HT3
      obtain ⟨e1, e2, e3⟩ := unhide HM1
      have := (unhide HN0).2 (by omega)
      show _ ∧ _
      omega
    clear hbig hbg
    have HST : Hid (HdS H ∧ H.length ≤ 32768) := by
      refine ⟨fun t d hd => ?_, ?_⟩
      · have := hsz_mem H d (List.mem_of_getElem? hd)
        have := (unhide HBD).2
        omega
      · have := hsz_len H
        have := (unhide HBD).2
        omega
    go_enter Tryz.func4, Tryz.ntmps4
    go_upto_region 1 with fail
    rw [← hU]
    clear hU
    go_quiet ((go_at_call 21; exact Calls.quiet_of (unhide HSZ _)))
    have hWY := unhide HWU nq
    have hRY := unhide HRU nq
    have hLY := unhide HLU nq
    clear HSQ HWU HRU HLU HSZ r0 r1 r2 r3 s1 s2 mB mP mM w1' w2' w3' HN0 HNN HM1 HT3 hb6 hp6 hm6 hn6
    generalize U.drewN nq = Y at *

    obtain ⟨G, hG⟩ : ∃ G, G = Y.heap.size := ⟨_, rfl⟩
    have y0 : Y.cell? ⟨w.heap.size, 0, none⟩ = some (.string (str m)) := cell_of_row _ _ _ _ _ _ hRY
    have y1 : Y.cell? ⟨w.heap.size, 1, none⟩ = some (.string (str p)) := cell_of_row _ _ _ _ _ _ hRY
    have y2 : Y.cell? ⟨w.heap.size, 2, none⟩ = some (.slice hp H.length hc) := cell_of_row _ _ _ _ _ _ hRY
    have y3 : Y.cell? ⟨w.heap.size, 3, none⟩ = some (.slice bp B.length bc) := cell_of_row _ _ _ _ _ _ hRY
    obtain ⟨o, ho⟩ : ∃ o, o = Obj.cells #[.string (str m), .string (str p), .slice hp H.length hc, .slice bp B.length bc] 39 := ⟨_, rfl⟩
    have hbA : Below Y.heap.size Y (Y.alloc o) := (Below.refl _ _).alloc (Nat.le_refl _) _
    have hWA : Below w.heap.size w (Y.alloc o) := hWY.trans (hbA.mono hWY.size)
    have hRA : (Y.alloc o).heap[w.heap.size]? = _ := (hbA.block _ hLY).trans hRY
    have hGA : (Y.alloc o).heap[Y.heap.size]? = some (.cells #[.string (str m), .string (str p), .slice hp H.length hc, .slice bp B.length bc] 39 (0, 0)) := by rw [ho]; exact heap_alloc_new Y _
    obtain ⟨Z, hZ⟩ : ∃ Z, Z = Y.alloc o := ⟨_, rfl⟩
    rw [← hZ] at hbA hWA hRA hGA
    rw [ho] at hZ
    clear ho o
    have z2 : Z.cell? ⟨w.heap.size, 2, none⟩ = some (.slice hp H.length hc) := cell_of_row _ _ _ _ _ _ hRA
    have z3 : Z.cell? ⟨w.heap.size, 3, none⟩ = some (.slice bp B.length bc) := cell_of_row _ _ _ _ _ _ hRA
    have HZD : Hid (Below w.heap.size w Z.drew ∧ Z.drew.heap[w.heap.size]? = some (.cells #[.string (str m), .string (str p), .slice hp H.length hc, .slice bp B.length bc] 39 (0, 0)) ∧ Z.drew.heap[G]? = some (.cells #[.string (str m), .string (str p), .slice hp H.length hc, .slice bp B.length bc] 39 (0, 0)) ∧ G < Z.drew.heap.size) := ⟨below_drewN hWA 1, hRA, by rw [hG]; exact hGA, by rw [hG]; exact (Array.getElem?_eq_some_iff.1 hGA).1⟩
    have HBG : Hid (w.heap.size ≤ w.heap.size ∧ w.heap.size < G) := by rw [hG]; exact ⟨Nat.le_refl _, hLY⟩
    have HCH : Hid (∀ wx, Below w.heap.size w wx → Calls Tryz.prog 22 #[.slice hp H.length hc] wx fun e w' => ∃ a c, e = .returned (.slice a H.length c) ∧ Hid (HdR w' a H ∧ ∀ k, blk a = some k → wx.heap.size ≤ k) ∧ Hid (Below wx.heap.size wx w')) := fun wx hx =>
      (cloneH_any hp hc H wx ((unhide HH).below hx (Nat.le_refl _)) (by have := (unhide HST).2; omega)).mono fun e w' ⟨a, c, r, h, hr, ho, hb⟩ => by
        obtain rfl : r = H := unhide hr
        exact ⟨a, c, h, ⟨(unhide ho).hdR, fun k hk => ((unhide ho).lt k hk).1⟩, hb⟩
    have HCB : Hid (∀ wx, Below w.heap.size w wx → Calls Tryz.prog 12 #[.slice bp B.length bc] wx fun e w' => ∃ a c, e = .returned (.slice a B.length c) ∧ Hid (Bs w' a c B ∧ ∀ k, blk a = some k → wx.heap.size ≤ k) ∧ Hid (Below wx.heap.size wx w')) := fun wx hx =>
      (sclone_all8 bp B.length bc B wx ((unhide HBB).below hx (Nat.le_refl _)) rfl (by omega)).mono fun e w' ⟨a, c, r, h, hr, ho, hb⟩ => by
        obtain rfl : r = B := unhide hr
        exact ⟨a, c, h, ⟨ho.toBs, fun k hk => (ho.lt k hk).1⟩, hb⟩
    clear hbA hWA hRA hGA hWY hRY hLY
    go_upto_region 4 with fail
    rw [← hZ]
    clear hZ y0 y1 y2 y3
    rw [← hG]
    clear hG
    go_cut [] (fun wx => ∃ hp2 hc2 bp2 bc2, Hid (Tw8 wx G w.heap.size m p H B hp2 bp2 hp bp hc2 bc2 hc bc ∧ Below w.heap.size w wx))
    case first =>
      have HCS : Hid (∀ (v : World) (i : Nat) (u : Value) (o : Nat), (v.setCell ⟨G, i, none⟩ u).cell? ⟨w.heap.size, o, none⟩ = v.cell? ⟨w.heap.size, o, none⟩) := fun v i u o => by
        refine World.cell?_setCell_other _ _ _ _ (fun e => ?_)
        have := congrArg Addr.block e
        have := (unhide HBG).2
        simp at *
        try omega
      go_region_held3 (fun w' => w'.cell? ⟨w.heap.size, 2, none⟩ = some (.slice hp H.length hc) ∧ w'.cell? ⟨w.heap.size, 3, none⟩ = some (.slice bp B.length bc)) (first | exact S3 | exact S2 | exact ⟨z2, z3⟩ | exact ⟨(unhide HCS _ _ _ _).trans S3.1, (unhide HCS _ _ _ _).trans S3.2⟩ | exact ⟨(unhide HCS _ _ _ _).trans ((unhide HCS _ _ _ _).trans S3.1), (unhide HCS _ _ _ _).trans ((unhide HCS _ _ _ _).trans S3.2)⟩ | go_keep) ((first
        | (have hh := HB2; clear hh; go_at_call 22; refine (unhide HCH _ (unhide HW2)).mono ?_; rintro e w3 ⟨hp2, hc2, rfl, HA, HB3⟩; have HW3 : Hid (Below w.heap.size w w3) := (unhide HW2).trans ((unhide HB3).mono (unhide HW2).size); have HR3 : Hid (w3.heap[w.heap.size]? = some (.cells #[.string (str m), .string (str p), .slice hp H.length hc, .slice bp B.length bc] 39 (0, 0)) ∧ w3.heap[G]? = some (.cells #[.string (str m), .string (str p), .slice hp H.length hc, .slice bp B.length bc] 39 (0, 0)) ∧ G < w3.heap.size) := ⟨((unhide HB3).block w.heap.size (by have := (unhide HR2).2.2; have := (unhide HBG).2; omega)).trans (unhide HR2).1, ((unhide HB3).block G (unhide HR2).2.2).trans (unhide HR2).2.1, Nat.lt_of_lt_of_le (unhide HR2).2.2 (unhide HB3).size⟩; have S3 : w3.cell? ⟨w.heap.size, 2, none⟩ = some (.slice hp H.length hc) ∧ w3.cell? ⟨w.heap.size, 3, none⟩ = some (.slice bp B.length bc) := ⟨cell_of_row _ _ _ _ _ _ (unhide HR3).1, cell_of_row _ _ _ _ _ _ (unhide HR3).1⟩; have HX : Hid (HdR w3 hp2 H ∧ (∀ k, blk hp2 = some k → G < k) ∧ Bs w3 bp2 bc2 B ∧ (∀ k, blk bp2 = some k → G < k)) := ⟨(unhide HA).1, fun k hk => by have := (unhide HA).2 k hk; have := (unhide HR2).2.2; omega, (unhide HC).1.below (unhide HB3) (Nat.le_refl _), fun k hk => by have := (unhide HC).2 k hk; have := (unhide HZD).2.2.2; omega⟩; have k2 : w3.cell? ⟨G, 2, none⟩ = some (.slice hp H.length hc) := cell_of_row _ _ _ _ _ _ (unhide HR3).2.1; have k3 : w3.cell? ⟨G, 3, none⟩ = some (.slice bp B.length bc) := cell_of_row _ _ _ _ _ _ (unhide HR3).2.1; have f2 : w3.frozen? ⟨G, 2, none⟩ = false := frozen_of_row w3 G 2 _ _ (unhide HR3).2.1; have f3 : w3.frozen? ⟨G, 3, none⟩ = false := frozen_of_row w3 G 3 _ _ (unhide HR3).2.1)
        | (have hh := HB2; clear hh; go_at_call 12; refine (unhide HCB _ (unhide HW2)).mono ?_; rintro e w3 ⟨bp2, bc2, rfl, HC, HB3⟩; have HW3 : Hid (Below w.heap.size w w3) := (unhide HW2).trans ((unhide HB3).mono (unhide HW2).size); have HR3 : Hid (w3.heap[w.heap.size]? = some (.cells #[.string (str m), .string (str p), .slice hp H.length hc, .slice bp B.length bc] 39 (0, 0)) ∧ w3.heap[G]? = some (.cells #[.string (str m), .string (str p), .slice hp H.length hc, .slice bp B.length bc] 39 (0, 0)) ∧ G < w3.heap.size) := ⟨((unhide HB3).block w.heap.size (by have := (unhide HR2).2.2; have := (unhide HBG).2; omega)).trans (unhide HR2).1, ((unhide HB3).block G (unhide HR2).2.2).trans (unhide HR2).2.1, Nat.lt_of_lt_of_le (unhide HR2).2.2 (unhide HB3).size⟩; have S3 : w3.cell? ⟨w.heap.size, 2, none⟩ = some (.slice hp H.length hc) ∧ w3.cell? ⟨w.heap.size, 3, none⟩ = some (.slice bp B.length bc) := ⟨cell_of_row _ _ _ _ _ _ (unhide HR3).1, cell_of_row _ _ _ _ _ _ (unhide HR3).1⟩; have HX : Hid (HdR w3 hp2 H ∧ (∀ k, blk hp2 = some k → G < k) ∧ Bs w3 bp2 bc2 B ∧ (∀ k, blk bp2 = some k → G < k)) := ⟨(unhide HA).1.below (unhide HB3) (Nat.le_refl _), fun k hk => by have := (unhide HA).2 k hk; have := (unhide HZD).2.2.2; omega, (unhide HC).1, fun k hk => by have := (unhide HC).2 k hk; have := (unhide HR2).2.2; omega⟩; have k2 : w3.cell? ⟨G, 2, none⟩ = some (.slice hp H.length hc) := cell_of_row _ _ _ _ _ _ (unhide HR3).2.1; have k3 : w3.cell? ⟨G, 3, none⟩ = some (.slice bp B.length bc) := cell_of_row _ _ _ _ _ _ (unhide HR3).2.1; have f2 : w3.frozen? ⟨G, 2, none⟩ = false := frozen_of_row w3 G 2 _ _ (unhide HR3).2.1; have f3 : w3.frozen? ⟨G, 3, none⟩ = false := frozen_of_row w3 G 3 _ _ (unhide HR3).2.1)
        | (go_at_call 22; refine (unhide HCH _ (unhide HZD).1).mono ?_; rintro e w2 ⟨hp2, hc2, rfl, HA, HB2⟩; have HW2 : Hid (Below w.heap.size w w2) := (unhide HZD).1.trans ((unhide HB2).mono (unhide HZD).1.size); have HR2 : Hid (w2.heap[w.heap.size]? = some (.cells #[.string (str m), .string (str p), .slice hp H.length hc, .slice bp B.length bc] 39 (0, 0)) ∧ w2.heap[G]? = some (.cells #[.string (str m), .string (str p), .slice hp H.length hc, .slice bp B.length bc] 39 (0, 0)) ∧ G < w2.heap.size) := ⟨((unhide HB2).block w.heap.size (by have := (unhide HZD).2.2.2; have := (unhide HBG).2; omega)).trans (unhide HZD).2.1, ((unhide HB2).block G (unhide HZD).2.2.2).trans (unhide HZD).2.2.1, Nat.lt_of_lt_of_le (unhide HZD).2.2.2 (unhide HB2).size⟩; have S2 : w2.cell? ⟨w.heap.size, 2, none⟩ = some (.slice hp H.length hc) ∧ w2.cell? ⟨w.heap.size, 3, none⟩ = some (.slice bp B.length bc) := ⟨cell_of_row _ _ _ _ _ _ (unhide HR2).1, cell_of_row _ _ _ _ _ _ (unhide HR2).1⟩)
        | (go_at_call 12; refine (unhide HCB _ (unhide HZD).1).mono ?_; rintro e w2 ⟨bp2, bc2, rfl, HC, HB2⟩; have HW2 : Hid (Below w.heap.size w w2) := (unhide HZD).1.trans ((unhide HB2).mono (unhide HZD).1.size); have HR2 : Hid (w2.heap[w.heap.size]? = some (.cells #[.string (str m), .string (str p), .slice hp H.length hc, .slice bp B.length bc] 39 (0, 0)) ∧ w2.heap[G]? = some (.cells #[.string (str m), .string (str p), .slice hp H.length hc, .slice bp B.length bc] 39 (0, 0)) ∧ G < w2.heap.size) := ⟨((unhide HB2).block w.heap.size (by have := (unhide HZD).2.2.2; have := (unhide HBG).2; omega)).trans (unhide HZD).2.1, ((unhide HB2).block G (unhide HZD).2.2.2).trans (unhide HZD).2.2.1, Nat.lt_of_lt_of_le (unhide HZD).2.2.2 (unhide HB2).size⟩; have S2 : w2.cell? ⟨w.heap.size, 2, none⟩ = some (.slice hp H.length hc) ∧ w2.cell? ⟨w.heap.size, 3, none⟩ = some (.slice bp B.length bc) := ⟨cell_of_row _ _ _ _ _ _ (unhide HR2).1, cell_of_row _ _ _ _ _ _ (unhide HR2).1⟩)
        | fail))
      all_goals
        go_wp2_with fail
        go_meet
        case rel =>
          obtain ⟨x1, x2, x3, x4⟩ := unhide HX
          exact ⟨hp2, hc2, bp2, bc2, tw_set (unhide HW3) (unhide HBG) (unhide HR3).2.1 (unhide HR3).1 x1 x2 x3 x4 (unhide HH) (unhide HBB)⟩
    case rest =>
      obtain ⟨hp2, hc2, bp2, bc2, HTW⟩ := hcut
      clear z2 z3 HZD HCH HCB HH HBB HBG
      have hHl := (unhide HST).2
      obtain ⟨X, hX⟩ : ∃ X, X = fdF (sm nm) H := ⟨_, rfl⟩
      obtain ⟨q0, q1, q2, q3, p0, p1, p2, p3⟩ := (unhide HTW).1.cells
      have HF1 := hide (find_any nm hnz hp2 hc2 H wc (unhide HTW).1.h2 (unhide HST).1 (by omega))
      rw [← hX] at HF1
      go_wp2_with fail
      refine (unhide HF1).mono ?_
      rintro e w5 ⟨rfl, HB5⟩
      have HT5 : Hid (Tw8 w5 G w.heap.size m p H B hp2 bp2 hp bp hc2 bc2 hc bc ∧ Below w.heap.size w w5) := tw_step (unhide HTW) (unhide HB5)
      clear q0 q1 q2 q3 p0 p1 p2 p3 HF1 HTW HB5
      obtain ⟨q0, q1, q2, q3, p0, p1, p2, p3⟩ := (unhide HT5).1.cells
      have HF2 := hide (rfind nm hnz hp hc H w5 (unhide HT5).1.h1 (unhide HST).1 (by omega))
      rw [← hX] at HF2
      clear hX
      go_wp2_with fail
      refine (unhide HF2).mono ?_
      rintro e w6 ⟨rfl, HB6⟩
      have HT6 : Hid (Tw8 w6 G w.heap.size m p H B hp2 bp2 hp bp hc2 bc2 hc bc ∧ Below w.heap.size w w6) := tw_step (unhide HT5) (unhide HB6)
      clear q0 q1 q2 q3 p0 p1 p2 p3 HF2 HT5 HB6
      obtain ⟨q0, q1, q2, q3, p0, p1, p2, p3⟩ := (unhide HT6).1.cells
      have HP1 := hide (print_dec m p H B hp2 bp2 hc2 bc2 w6 ((unhide HE).below (unhide HT6).2) (unhide HT6).1.h2 (unhide HT6).1.b2 (unhide HBD).1 (unhide HBD).2)
      go_wp2_with fail
      refine (unhide HP1).mono ?_
      rintro e w7 ⟨a1, c1, r1, z1, rfl, HZ1, HR1, HB7⟩
      have HT7 : Hid (Tw8 w7 G w.heap.size m p H B hp2 bp2 hp bp hc2 bc2 hc bc ∧ Below w.heap.size w w7) := tw_step (unhide HT6) (unhide HB7)
      clear q0 q1 q2 q3 p0 p1 p2 p3 HP1 HT6 HB7
      obtain ⟨q0, q1, q2, q3, p0, p1, p2, p3⟩ := (unhide HT7).1.cells
      have HP2 := hide (rprint m p H B hp bp hc bc w7 (unhide HT7).1.h1 (unhide HT7).1.b1 (unhide HBD).1 (unhide HBD).2)
      go_wp2_with fail
      refine (unhide HP2).mono ?_
      rintro e w8 ⟨a2, c2, r2, z2, rfl, HZ2, HR2, HB8⟩
      have HT8 : Hid (Tw8 w8 G w.heap.size m p H B hp2 bp2 hp bp hc2 bc2 hc bc ∧ Below w.heap.size w w8) := tw_step (unhide HT7) (unhide HB8)
      have HR1' := hide ((unhide HR1).below (unhide HB8) (Nat.le_refl _))
      clear q0 q1 q2 q3 p0 p1 p2 p3 HP2 HT7 HB8 HR1
      obtain ⟨rfl, rfl⟩ : r2 = r1 ∧ z2 = z1 := by
        rcases unhide HZ1 with ⟨h1, h2, h3⟩ | ⟨h1, h2, h3⟩ <;> rcases unhide HZ2 with ⟨k1, k2, k3⟩ | ⟨k1, k2, k3⟩
        · exact ⟨k2.trans h2.symm, k1.trans h1.symm⟩
        · rw [h2] at h3; exact absurd h3 k3
        · rw [k2] at k3; exact absurd k3 h3
        · exact ⟨k2.trans h2.symm, k1.trans h1.symm⟩
      have HEQ : Hid (Calls Tryz.prog 27 #[.slice a1 r2.length c1, .slice a2 r2.length c2] w8.drew fun e w' => e = .returned (.bool true) ∧ w' = w8.drew) :=
        (equal_any a1 r2.length c1 r2 a2 r2.length c2 r2 w8.drew ((unhide HR1').below (Below.refl w8.heap.size w8).drew (Nat.le_refl _)).row ((unhide HR2).below (Below.refl w8.heap.size w8).drew (Nat.le_refl _)).row rfl rfl).mono fun e w' h => ⟨by rw [h.1]; simp, h.2⟩
      have HD8 : Hid (Tw8 w8.drew G w.heap.size m p H B hp2 bp2 hp bp hc2 bc2 hc bc ∧ Below w.heap.size w w8.drew) := tw_step (unhide HT8) (Below.refl w8.heap.size w8).drew
      have S8 := (unhide HD8).1.cells
      have HRR := hide (rreason st w8.drew)
      obtain ⟨re, hre⟩ : ∃ re, re = reM st := ⟨_, rfl⟩
      have HRP : Hid (∀ w, Calls Tryz.prog 28 #[.int .i64 st] w fun e w' => e = .returned (.string (str re)) ∧ w' = w) := fun w => by rw [hre]; exact reason_any st w
      rw [← hre] at HRR
      clear hre
      obtain ⟨KK, hKK⟩ : ∃ K, K = !kcM H := ⟨_, rfl⟩
      have HK1 : Hid (∀ wx, Tw8 wx G w.heap.size m p H B hp2 bp2 hp bp hc2 bc2 hc bc → Calls Tryz.prog 30 #[.agg #[.string (str m), .string (str p), .slice hp2 H.length hc2, .slice bp2 B.length bc2]] wx fun e w' => e = .returned (.bool KK) ∧ Hid (Below wx.heap.size wx w')) := fun wx h => by rw [hKK]; exact keeps_any (str m) (str p) hp2 hc2 bp2 B.length bc2 H wx h.h2 (unhide HST).1 (by omega)
      have HK2 : Hid (∀ wx, Tw8 wx G w.heap.size m p H B hp2 bp2 hp bp hc2 bc2 hc bc → Calls Tryz.prog 31 #[.agg #[.string (str m), .string (str p), .slice hp H.length hc, .slice bp B.length bc]] wx fun e w' => e = .returned (.bool KK) ∧ Hid (Below wx.heap.size wx w')) := fun wx h => by rw [hKK]; exact rkeeps (str m) (str p) hp hc bp B.length bc H wx h.h1 (unhide HST).1 (by omega)
      obtain ⟨fv, fo⟩ := X
      have n1 : ((str fv).toList == (str fv).toList) = true := by simp
      have n2 : (fo != fo) = false := by simp
      have n3 : ((z2 : Int) != (z2 : Int)) = false := by simp
      have n4 : ((str re).toList == (str re).toList) = true := by simp
      have n5 : (KK != KK) = false := by simp
      clear HZ1 HZ2 HR1' HR2 HT8 hKK
      go_upto_region 9 with fail
      go_region_held3 (fun w' => w'.cell? ⟨G, 0, none⟩ = some (.string (str m)) ∧ w'.cell? ⟨G, 1, none⟩ = some (.string (str p)) ∧ w'.cell? ⟨G, 2, none⟩ = some (.slice hp2 H.length hc2) ∧ w'.cell? ⟨G, 3, none⟩ = some (.slice bp2 B.length bc2) ∧ w'.cell? ⟨w.heap.size, 0, none⟩ = some (.string (str m)) ∧ w'.cell? ⟨w.heap.size, 1, none⟩ = some (.string (str p)) ∧ w'.cell? ⟨w.heap.size, 2, none⟩ = some (.slice hp H.length hc) ∧ w'.cell? ⟨w.heap.size, 3, none⟩ = some (.slice bp B.length bc)) (first | exact S11 | exact S10 | exact S9 | exact S8 | go_keep) ((first
        | (have hh := HB10; clear hh; go_at_call 30; refine (unhide HK1 _ (unhide HT10).1).mono ?_; rintro e w11 ⟨rfl, HB11⟩; have HT11 : Hid (Tw8 w11 G w.heap.size m p H B hp2 bp2 hp bp hc2 bc2 hc bc ∧ Below w.heap.size w w11) := tw_step (unhide HT10) (unhide HB11); have S11 := (unhide HT11).1.cells)
        | (have hh := HB10; clear hh; go_at_call 31; refine (unhide HK2 _ (unhide HT10).1).mono ?_; rintro e w11 ⟨rfl, HB11⟩; have HT11 : Hid (Tw8 w11 G w.heap.size m p H B hp2 bp2 hp bp hc2 bc2 hc bc ∧ Below w.heap.size w w11) := tw_step (unhide HT10) (unhide HB11); have S11 := (unhide HT11).1.cells)
        | (have hh := HB9; clear hh; go_at_call 30; refine (unhide HK1 _ (unhide HT9).1).mono ?_; rintro e w10 ⟨rfl, HB10⟩; have HT10 : Hid (Tw8 w10 G w.heap.size m p H B hp2 bp2 hp bp hc2 bc2 hc bc ∧ Below w.heap.size w w10) := tw_step (unhide HT9) (unhide HB10); have S10 := (unhide HT10).1.cells)
        | (have hh := HB9; clear hh; go_at_call 31; refine (unhide HK2 _ (unhide HT9).1).mono ?_; rintro e w10 ⟨rfl, HB10⟩; have HT10 : Hid (Tw8 w10 G w.heap.size m p H B hp2 bp2 hp bp hc2 bc2 hc bc ∧ Below w.heap.size w w10) := tw_step (unhide HT9) (unhide HB10); have S10 := (unhide HT10).1.cells)
        | (go_at_call 29; refine (unhide HRR).mono ?_; rintro e w9 ⟨rfl, HB9⟩; have HT9 : Hid (Tw8 w9 G w.heap.size m p H B hp2 bp2 hp bp hc2 bc2 hc bc ∧ Below w.heap.size w w9) := tw_step (unhide HD8) (unhide HB9); have S9 := (unhide HT9).1.cells)
        | (go_at_call 28; refine (unhide HRP _).mono ?_; rintro e wq ⟨rfl, rfl⟩)
        | (go_at_call 27; refine (unhide HEQ).mono ?_; rintro e wq ⟨rfl, rfl⟩)
        | fail))
      all_goals
        have HSQ := hide (samq_any m p m p H H B B hp2 hp bp2 bp hc2 hc bc2 bc w11 (unhide HT11).1.h2 (unhide HT11).1.h1 (unhide HT11).1.b2 (unhide HT11).1.b1 (by omega))
        rw [decide_eq_true (show m = m ∧ p = p ∧ H = H ∧ B = B from ⟨rfl, rfl, rfl, rfl⟩)] at HSQ
        obtain ⟨g0, g1, g2, g3, b0, b1, b2, b3⟩ := S11
        clear S8 S9 S10 HRR HRP HK1 HK2 HEQ HD8
        go_wp2_with fail
        refine (unhide HSQ).mono ?_
        rintro e w12 ⟨rfl, HB12⟩
        have HT12 := hide (tw_step (unhide HT11) (unhide HB12))
        clear HSQ
        go_wp2_with fail
        refine (awake8_any _ ((unhide HE).below (unhide HT12).2)).mono ?_
        rintro e w13 ⟨rfl, HB13⟩
        go_wp2_with fail
        go_ret
        exact ⟨rfl, hide ((unhide HT12).2.trans ((unhide HB13).mono (unhide HT12).2.size))⟩
#print axioms tells_any
theorem httpdTells_walk (st : Int) (m p : List UInt8) (hp : Option Addr) (hc : Nat) (H : List Hd) (bp : Option Addr) (bc : Nat) (B : List UInt8) (nm : List UInt8) (w : World) (h1 : HdR w hp H) (b1 : Bs w bp bc B) (z1 : m.length ≤ 140737488351232) (z2 : p.length ≤ 140737488351232) (z3 : B.length ≤ 140737488351232) (z4 : nm.length ≤ 140737488351232) (hE : EnvH w) :
    Calls Tryz.prog 4 #[.int .i64 st, .agg #[.string (str m), .string (str p), .slice hp H.length hc, .slice bp B.length bc], .string (str nm)] w fun e w' => e = .returned (.bool true) ∧ Below w.heap.size w w' :=
  (tells_any st m p hp hc H bp bc B nm w hE h1 b1 z1 z2 z3 z4).mono fun e w' h => ⟨h.1, unhide h.2⟩
end Go.Proofs.YtonaekkenggmbaaGreatDoor
end
