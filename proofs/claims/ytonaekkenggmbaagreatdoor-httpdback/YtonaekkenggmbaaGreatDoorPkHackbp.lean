/-
  httpd: THE WALK of HttpdBack.
-/
import Derived.Test.YtonaekkenggmbaaGreatDoorPkHackbn
import Derived.Test.YtonaekkenggmbaaGreatDoorPkHackbo
import Derived.Test.YtonaekkenggmbaaGreatDoorPkHackba
section
set_option linter.unusedVariables false
set_option maxRecDepth 1000000
namespace Go.Proofs.YtonaekkenggmbaaGreatDoor
open Go.RowKit

theorem read_cut (a : Option Addr) (c : Nat) (r : List UInt8) (R : Nat) (S : World) (hRl : R < r.length) (h : Bs S a c r) (hl : r.length ≤ 1000000) (hE : EnvH S) (hX : Rx S) (hP : P10 S) :
    ∃ y, (∀ w, (Instr.slice 28 (.slice a r.length c) none (some (.int .i64 (R : Int))) none).run Tryz.prog w = .ok (.slice y R c) w) ∧ Calls Tryz.prog 35 #[.slice y R c] S (RdP (r.take R) S) := by
  obtain ⟨y, k1, k2, k3⟩ := cut_head a r.length c R r (Nat.le_of_lt hRl) h.le (fun hne => by obtain ⟨b, off, e, _⟩ := h.row hne; exact ⟨b, off, e⟩)
  have hTl : (r.take R).length = R := by rw [List.length_take]; exact Nat.min_eq_left (Nat.le_of_lt hRl)
  have := read8 y c (r.take R) S hE hX hP (k2 S h) (by rw [hTl]; omega)
  rw [hTl] at this
  exact ⟨y, k1, this⟩
set_option maxHeartbeats 8000000 in
theorem back_any (st : Int) (h0 : -9223372036854775808 ≤ st) (h9 : st ≤ 9223372036854775807) (hp : Option Addr) (hc : Nat) (H : List Hd) (bp : Option Addr) (bc : Nat) (B : List UInt8) (a2 : Option Addr) (c2 : Nat) (d : List UInt8) (k : Int) (w : World) (hE : EnvH w) (hP : P10 w) (hR : Rx w) (h1 : HdR w hp H) (b1 : Bs w bp bc B) (hBz : B.length ≤ 140737488351232) (h2 : Bs w a2 c2 d) :
    Calls Tryz.prog 7 #[.agg #[.int .i64 st, .slice hp H.length hc, .slice bp B.length bc], .slice a2 d.length c2, .int .i64 k] w fun e w' => e = .returned (.bool true) ∧ Hid (Below w.heap.size w w') := by
  obtain ⟨U, hU⟩ : ∃ U, U = w.alloc (.cells #[.int .i64 st, .slice hp H.length hc, .slice bp B.length bc] 58) := ⟨_, rfl⟩
  have hbU : Below w.heap.size w U := by rw [hU]; exact (Below.refl _ _).alloc (Nat.le_refl _) _
  have hrU : U.heap[w.heap.size]? = some (.cells #[.int .i64 st, .slice hp H.length hc, .slice bp B.length bc] 58 (0, 0)) := by rw [hU]; exact heap_alloc_new w _
  have hsU : w.heap.size < U.heap.size := (Array.getElem?_eq_some_iff.1 hrU).1
  have hHl : H.length ≤ 9223372036854775807 := by have := h1.le; unfold maxLen at this; omega
  have HSQ : Hid (∀ q, HdR (U.drewN q) hp H) := fun q => (h1.below hbU (Nat.le_refl _)).below (bdr (Below.refl _ _) q) (Nat.le_refl _)
  have HWU : Hid (∀ q, Below w.heap.size w (U.drewN q)) := fun q => bdr hbU q
  have HRU : Hid (∀ q, (U.drewN q).heap[w.heap.size]? = some (.cells #[.int .i64 st, .slice hp H.length hc, .slice bp B.length bc] 58 (0, 0))) := fun q => ((bdr (Below.refl U.heap.size U) q).block _ hsU).trans hrU
  have HLU : Hid (∀ q, w.heap.size < (U.drewN q).heap.size) := fun q => Nat.lt_of_lt_of_le hsU (bdr (Below.refl U.heap.size U) q).size
  have r0 : U.cell? ⟨w.heap.size, 0, none⟩ = some (.int .i64 st) := cell_of_row _ _ _ _ _ _ hrU
  have r1 : U.cell? ⟨w.heap.size, 1, none⟩ = some (.slice hp H.length hc) := cell_of_row _ _ _ _ _ _ hrU
  have r2 : U.cell? ⟨w.heap.size, 2, none⟩ = some (.slice bp B.length bc) := cell_of_row _ _ _ _ _ _ hrU
  have HE := hide hE
  have HP := hide hP
  have HH := hide h1
  have HBB := hide b1
  have HDD := hide h2
  have HRX := hide hR
  have hdl := Nat.le_trans h2.le h2.most
  unfold maxLen at hdl
  have hbl := Nat.le_trans b1.le b1.most
  unfold maxLen at hbl
  clear hE hP hR h1 b1 h2 hbU hrU hsU
  obtain ⟨mb, hmb⟩ : ∃ x : Nat, x = min B.length 262144 := ⟨_, rfl⟩
  have mB : min (B.length : Int) 262144 = (mb : Int) := by rw [hmb]; omega
  obtain ⟨n, hn⟩ : ∃ n, n = szM H := ⟨_, rfl⟩
  have HSZ : Hid (∀ q, Calls Tryz.prog 21 #[.slice hp H.length hc] (U.drewN q) fun e w' => e = .returned (.int .i64 (n : Int)) ∧ ∃ q', w' = (U.drewN q).drewN q') := fun q => by rw [hn]; exact size8_q hp hc H _ (unhide HSQ q) hHl
  have HN0 : Hid (n ≤ 1000000 ∧ (n ≤ 262144 → n = hsz H)) := by rw [hn]; exact szM_ok H
  have hn6 := (unhide HN0).1
  have hb6 : mb ≤ 262144 := by omega
  clear hmb hn
  have w1' : IntKind.i64.wrap ((n : Int) + (mb : Int)) = ((n + mb : Nat) : Int) := by rw [IntKind.wrap_i64]; omega
  obtain ⟨t3, ht3⟩ : ∃ t, t = n + mb := ⟨_, rfl⟩
  rw [← ht3] at w1'
  have HT3 : Hid (t3 = n + mb) := ht3
  clear ht3
  by_cases hbig : 262144 < t3
  · have hbd : decide ((262144 : Int) < (t3 : Int)) = true := decide_eq_true (by omega)
    go_enter Tryz.func7, Tryz.ntmps7
    go_upto_region 1 with fail
    rw [← hU]
    clear hU
    go_quiet ((go_at_call 21; exact Calls.quiet_of (unhide HSZ _)))
    go_wp2_with fail
    refine (awake8_any _ ((unhide HE).below (unhide HWU nq))).mono ?_
    rintro e V2 ⟨rfl, HB2⟩
    go_wp2_with fail
    go_ret
    exact ⟨rfl, hide ((unhide HWU nq).trans ((unhide HB2).mono (unhide HWU nq).size))⟩
  · have hbg : ¬ (262144 : Int) < (t3 : Int) := by omega
    have hbd : decide ((262144 : Int) < (t3 : Int)) = false := decide_eq_false hbg
    have HBD : Hid (hsz H ≤ 262144) := by
      have e := unhide HT3
      have := (unhide HN0).2 (by omega)
      show _ ≤ _
      omega
    clear hbig hbg
    by_cases hdb : 262144 < d.length
    · have hdd : decide ((262144 : Int) < (d.length : Int)) = true := decide_eq_true (by omega)
      go_enter Tryz.func7, Tryz.ntmps7
      go_upto_region 1 with fail
      rw [← hU]
      clear hU
      go_quiet ((go_at_call 21; exact Calls.quiet_of (unhide HSZ _)))
      go_wp2_with fail
      refine (awake8_any _ ((unhide HE).below (unhide HWU nq))).mono ?_
      rintro e V2 ⟨rfl, HB2⟩
      go_wp2_with fail
      go_ret
      exact ⟨rfl, hide ((unhide HWU nq).trans ((unhide HB2).mono (unhide HWU nq).size))⟩
    · have hdd : decide ((262144 : Int) < (d.length : Int)) = false := decide_eq_false (by omega)
      have hd26 : d.length ≤ 262144 := by omega
      go_enter Tryz.func7, Tryz.ntmps7
      go_upto_region 1 with fail
      rw [← hU]
      clear hU
      go_quiet ((go_at_call 21; exact Calls.quiet_of (unhide HSZ _)))

      have hYr := unhide HRU nq
      have HWY : Hid (Below w.heap.size w (U.drewN nq)) := unhide HWU nq
      have HRY : Hid ((U.drewN nq).heap[w.heap.size]? = some (.cells #[.int .i64 st, .slice hp H.length hc, .slice bp B.length bc] 58 (0, 0))) := hYr
      have HWR := hide (write8 st h0 h9 H B hp bp hc bc (U.drewN nq) ((unhide HP).below (unhide HWY)) ((unhide HH).below (unhide HWY) (Nat.le_refl _)) ((unhide HBB).below (unhide HWY) (Nat.le_refl _)) (unhide HBD))
      go_wp2_with fail
      refine (unhide HWR).mono ?_
      rintro e W ⟨a, c, r, E, rfl, HZ, HBr, HBW⟩
      have HWW : Hid (Below w.heap.size w W) := (unhide HWY).trans ((unhide HBW).mono (unhide HWY).size)
      have HRW : Hid (W.heap[w.heap.size]? = some (.cells #[.int .i64 st, .slice hp H.length hc, .slice bp B.length bc] 58 (0, 0))) := ((unhide HBW).block _ (Array.getElem?_eq_some_iff.1 (unhide HRY)).1).trans (unhide HRY)
      clear HWR HWY HRY hYr HSQ HWU HRU HLU HSZ r0 r1 r2 mB w1' HN0 HT3 hb6 hn6 HBW
      by_cases hE0 : E = 0
      · have HA0 : Hid (awE st H B = 0) := by show _ = _; rw [← (unhide HZ).1]; exact hE0
        have HRA : Hid (r = awR st H B) := (unhide HZ).2
        subst hE0
        have HOK := hide (okw st H B (unhide HA0))
        have hrl : 1 ≤ r.length ∧ r.length ≤ 50000 := by
          have h1 := hdO_len st H B (unhide HOK)
          have h2 := (unhide HOK).body
          rw [unhide HRA, awR_hd st H B (unhide HA0)]
          simp [hend]
          omega
        have hHl2 : H.length ≤ 1000000 := by have := (unhide HOK).len; omega
        obtain ⟨hr1, hr5⟩ := hrl
        clear HZ
        go_wp2_with fail
        obtain ⟨X, hX⟩ : ∃ X, X = W.alloc (.cells #[.slice a r.length c, .slice a2 d.length c2] 28) := ⟨_, rfl⟩
        have hbX : Below W.heap.size W X := by rw [hX]; exact (Below.refl _ _).alloc (Nat.le_refl _) _
        have hvX : X.heap[W.heap.size]? = some (.cells #[.slice a r.length c, .slice a2 d.length c2] 28 (0, 0)) := by rw [hX]; exact heap_alloc_new _ _
        have HC := hide (concat_two W.heap.size a c r a2 c2 d X ((unhide HBr).below hbX (Nat.le_refl _)) (((unhide HDD).below (unhide HWW) (Nat.le_refl _)).below hbX (Nat.le_refl _)) (cell_of_row _ _ _ _ _ _ hvX) (cell_of_row _ _ _ _ _ _ hvX) (by omega) (by omega))
        rw [← hX]
        have HWX : Hid (Below w.heap.size w X) := (unhide HWW).trans (hbX.mono (unhide HWW).size)
        have HRX2 : Hid (X.heap[w.heap.size]? = some (.cells #[.int .i64 st, .slice hp H.length hc, .slice bp B.length bc] 58 (0, 0))) := (hbX.block _ (Array.getElem?_eq_some_iff.1 (unhide HRW)).1).trans (unhide HRW)
        have HBX := hide ((unhide HBr).below hbX (Nat.le_refl _))
        clear hX hbX hvX
        refine (unhide HC).mono ?_
        rintro e Z ⟨a3, c3, r3, rfl, HRR, hoZ, hbZ⟩
        have hrl3 : r3.length ≤ 1000000 := by rw [unhide HRR]; simp; omega
        have HWZ : Hid (Below w.heap.size w Z) := (unhide HWX).trans (hbZ.mono (unhide HWX).size)
        have HRZ : Hid (Z.heap[w.heap.size]? = some (.cells #[.int .i64 st, .slice hp H.length hc, .slice bp B.length bc] 58 (0, 0))) := (hbZ.block _ (Array.getElem?_eq_some_iff.1 (unhide HRX2)).1).trans (unhide HRX2)
        have HBZ := hide ((unhide HBX).below hbZ (Nat.le_refl _))
        have HRD := hide (read8 a3 c3 r3 Z ((unhide HE).below (unhide HWZ)) ((unhide HRX).below (unhide HWZ)) ((unhide HP).below (unhide HWZ)) hoZ.toBs hrl3)
        clear HC hoZ hbZ
        go_wp2_with fail
        refine (unhide HRD).mono ?_
        rintro e Y hrd
        obtain ⟨s', H', B', cnt, E', hp3, hc3, bp3, bc3, rfl, HRS, HHD, HBY⟩ := hrd
        have HBK : Hid (E' = 0 ∧ s' = st ∧ H' = H ∧ B' = B ∧ cnt = r.length) := by
          have h := unhide HRS
          rw [unhide HRR, unhide HRA] at h
          have := read_back st H B d (unhide HA0) s' H' B' cnt E' h
          rw [← unhide HRA] at this
          exact this
        obtain ⟨rfl, rfl, rfl, rfl, rfl⟩ := unhide HBK
        obtain ⟨o4, ho4⟩ : ∃ o, o = Obj.cells #[.int .i64 s', .slice hp3 H'.length hc3, .slice bp3 B'.length bc3] 58 := ⟨_, rfl⟩
        obtain ⟨T, hT⟩ : ∃ T, T = Y.alloc o4 := ⟨_, rfl⟩
        have hbT : Below Y.heap.size Y T := by rw [hT]; exact (Below.refl _ _).alloc (Nat.le_refl _) _
        have hZT : Below Z.heap.size Z T := (unhide HBY).trans (hbT.mono (unhide HBY).size)
        have HWT : Hid (Below w.heap.size w T) := (unhide HWZ).trans (hZT.mono (unhide HWZ).size)
        have hrT := (hZT.block _ (Array.getElem?_eq_some_iff.1 (unhide HRZ)).1).trans (unhide HRZ)
        have hgT : T.heap[Y.heap.size]? = some (.cells #[.int .i64 s', .slice hp3 H'.length hc3, .slice bp3 B'.length bc3] 58 (0, 0)) := by rw [hT, ho4]; exact heap_alloc_new Y _
        have HBT := hide ((unhide HBZ).below hZT (Nat.le_refl _))
        have HSR := hide (samA_eq s' H' B' hp3 hp bp3 bp hc3 hc bc3 bc T ((unhide HHD).1.below hbT (Nat.le_refl _)) ((unhide HH).below (unhide HWT) (Nat.le_refl _)) ((unhide HHD).2.below hbT (Nat.le_refl _)) ((unhide HBB).below (unhide HWT) (Nat.le_refl _)) hHl2)
        have q0 : T.cell? ⟨w.heap.size, 0, none⟩ = some (.int .i64 s') := cell_of_row _ _ _ _ _ _ hrT
        have q1 : T.cell? ⟨w.heap.size, 1, none⟩ = some (.slice hp H'.length hc) := cell_of_row _ _ _ _ _ _ hrT
        have q2 : T.cell? ⟨w.heap.size, 2, none⟩ = some (.slice bp B'.length bc) := cell_of_row _ _ _ _ _ _ hrT
        have g0 : T.cell? ⟨Y.heap.size, 0, none⟩ = some (.int .i64 s') := cell_of_row _ _ _ _ _ _ hgT
        have g1 : T.cell? ⟨Y.heap.size, 1, none⟩ = some (.slice hp3 H'.length hc3) := cell_of_row _ _ _ _ _ _ hgT
        have g2 : T.cell? ⟨Y.heap.size, 2, none⟩ = some (.slice bp3 B'.length bc3) := cell_of_row _ _ _ _ _ _ hgT
        have hnn : ((r.length : Int) != (r.length : Int)) = false := by simp
        rw [ho4] at hT
        clear ho4 hbT hZT hrT hgT HRD HRS HHD HBY HBK HRR o4
        go_upto_region 7 with fail
        rw [← hT]
        clear hT
        go_wp2_with fail
        refine (unhide HSR).mono ?_
        rintro e S ⟨rfl, HBS⟩
        have HWS : Hid (Below w.heap.size w S) := (unhide HWT).trans ((unhide HBS).mono (unhide HWT).size)
        have HBSr := hide ((unhide HBT).below (unhide HBS) (Nat.le_refl _))
        clear HSR q0 q1 q2 g0 g1 g2 HBS
        obtain ⟨K, hK⟩ : ∃ K : Nat, IntKind.u64.wrap k = (K : Int) := ⟨(IntKind.u64.wrap k).toNat, by rw [IntKind.wrap_u64]; omega⟩
        have hmx : max (r.length : Int) 1 = (r.length : Int) := by omega
        have hmu : IntKind.u64.wrap (r.length : Int) = (r.length : Int) := by rw [IntKind.wrap_u64]; omega
        obtain ⟨R, hR⟩ : ∃ R, R = K % r.length := ⟨_, rfl⟩
        have hRl : R < r.length := by rw [hR]; exact Nat.mod_lt _ (by omega)
        have hR1 : (K : Int).tmod (r.length : Int) = (R : Int) := by rw [hR]; exact (Int.ofNat_tmod K r.length).symm
        have hR3 : (K : Int) % (r.length : Int) = (R : Int) := by rw [hR]; simp
        have hmn : ¬ (r.length : Int) < 1 := by omega
        have hR2 : wrap64 (R : Int) = (R : Int) := IntWalk.wrap64_in _ (by omega)
        have hne0 : ((r.length : Int) == 0) = false := by rw [beq_eq_false_iff_ne]; omega
        obtain ⟨y, k1, hr8⟩ := read_cut a c r R S hRl (unhide HBSr) (Nat.le_trans hr5 (by decide)) ((unhide HE).below (unhide HWS)) ((unhide HRX).below (unhide HWS)) ((unhide HP).below (unhide HWS))
        have HR8 := hide hr8
        clear hr8
        have HSH : Hid (∀ s H2 B2 cnt E, RdR (r.take R) s H2 B2 cnt E → E = 2 ∧ cnt = 0) := fun s H2 B2 cnt E h => by
          rw [unhide HRA] at h
          exact read_short _ _ _ (unhide HA0) R (by rw [← unhide HRA]; exact hRl) s H2 B2 cnt E h
        clear hR
        go_wp2_with fail
        refine (unhide HR8).mono ?_
        rintro e Q hrd
        obtain ⟨s4, H4, B4, cnt4, E4, hp4, hc4, bp4, bc4, rfl, HRS4, _, HBQ⟩ := hrd
        obtain ⟨rfl, rfl⟩ := unhide HSH _ _ _ _ _ (unhide HRS4)
        have HWQ : Hid (Below w.heap.size w Q) := (unhide HWS).trans ((unhide HBQ).mono (unhide HWS).size)
        clear HR8 HSH HRS4
        go_wp2_with fail
        refine (awake8_any Q ((unhide HE).below (unhide HWQ))).mono ?_
        rintro e V2 ⟨rfl, HB2⟩
        go_wp2_with fail
        go_ret
        exact ⟨rfl, hide ((unhide HWQ).trans ((unhide HB2).mono (unhide HWQ).size))⟩
      · have hE0' : ((E : Int) != 0) = true := by rw [bne_iff_ne]; omega
        obtain rfl : r = [] := by rw [(unhide HZ).2]; unfold awR; rw [if_neg (by rw [← (unhide HZ).1]; exact hE0)]
        clear HZ hE0
        go_wp2_with fail
        refine (awake8_any W ((unhide HE).below (unhide HWW))).mono ?_
        rintro e V2 ⟨rfl, HB2⟩
        go_wp2_with fail
        go_ret
        exact ⟨rfl, hide ((unhide HWW).trans ((unhide HB2).mono (unhide HWW).size))⟩
#print axioms back_any
theorem httpdBack_walk (st : Int) (hp : Option Addr) (hc : Nat) (H : List Hd) (bp : Option Addr) (bc : Nat) (B : List UInt8) (a2 : Option Addr) (c2 : Nat) (d : List UInt8) (k : Int) (w : World) (h1 : HdR w hp H) (b1 : Bs w bp bc B) (z1 : B.length ≤ 140737488351232) (hst : -9223372036854775808 ≤ st ∧ st ≤ 9223372036854775807) (h2 : Bs w a2 c2 d) (hE : EnvH w ∧ P10 w ∧ Rx w) :
    Calls Tryz.prog 7 #[.agg #[.int .i64 st, .slice hp H.length hc, .slice bp B.length bc], .slice a2 d.length c2, .int .i64 k] w fun e w' => e = .returned (.bool true) ∧ Below w.heap.size w w' :=
  (back_any st hst.1 hst.2 hp hc H bp bc B a2 c2 d k w hE.1 hE.2.1 hE.2.2 h1 b1 z1 h2).mono fun e w' h => ⟨h.1, unhide h.2⟩
end Go.Proofs.YtonaekkenggmbaaGreatDoor
end
