/-
  HttpdCut's walk.
-/
import Derived.Test.YthkadboeokgjnabGreatDoorHlB
set_option linter.unusedVariables false
set_option maxRecDepth 1000000
namespace Go.Proofs.YthkadboeokgjnabGreatDoor
open Go.RowKit

set_option maxHeartbeats 4000000 in
theorem cut_any (w : World) (hE : EnvH w) (a1 a2 : Option Addr) (c1 c2 : Nat) (b d : List UInt8) (k : Int) (h1 : Bs w a1 c1 b) (h2 : Bs w a2 c2 d) (hk : -9223372036854775808 ≤ k ∧ k ≤ 9223372036854775807) :
    Calls Tryz.prog 5 #[.slice a1 b.length c1, .int .i64 k, .slice a2 d.length c2] w fun e w' => e = .returned (.bool true) ∧ Hid (Below w.heap.size w w') := by
  have HAW := hide (awake8_any w hE)
  have HE := hide hE
  have H1 := hide h1
  have H2 := hide h2
  clear hE h1 h2
  by_cases hb : b.length ≤ 262144
  · by_cases hd : d.length ≤ 262144
    · have g1 : ¬ (262144 : Int) < (b.length : Int) := by omega
      have g2 : ¬ (262144 : Int) < (d.length : Int) := by omega
      have HP := hide (parse_w w a1 c1 b (unhide HE) (unhide H1) (by omega))
      obtain ⟨P, hP⟩ : ∃ P, P = pM b := ⟨_, rfl⟩
      rw [← hP] at HP
      have HPM : Hid (P = pM b) := hP
      clear hP
      obtain ⟨⟨pm, pp, ph, pb⟩, n, st⟩ := P
      simp only at HP
      by_cases hs : st = 0
      · subst hs
        have hn := pM_n b (by rw [← unhide HPM])
        rw [← unhide HPM] at hn
        simp only at hn
        obtain ⟨K, hK⟩ : ∃ K : Nat, IntKind.u64.wrap k = (K : Int) := ⟨(IntKind.u64.wrap k).toNat, by rw [IntKind.wrap_u64]; omega⟩
        obtain ⟨R, hR⟩ : ∃ R, R = K % n := ⟨_, rfl⟩
        have hRl : R < n := by rw [hR]; exact Nat.mod_lt _ (by omega)
        have hR1 : (K : Int).tmod (n : Int) = (R : Int) := by rw [hR]; exact (Int.ofNat_tmod K n).symm
        have hR2 : (K : Int) % (n : Int) = (R : Int) := by rw [hR]; simp
        clear hR
        obtain ⟨hn1, hn2⟩ := hn
        have hcap := (unhide H1).le
        have hRc : R ≤ c1 := by omega
        have hnc : n ≤ c1 := by omega
        have hg1 : ¬ (n : Int) < 1 := by omega
        have hg2 : ¬ (b.length : Int) < (n : Int) := by omega
        have HT : Hid (pM (b.take R) = (Rq.nil, 0, 1)) := pM_short b (by rw [← unhide HPM]) R (by rw [← unhide HPM]; exact hRl)
        have HM : Hid (pM (b.take n ++ d) = (⟨pm, pp, ph, pb⟩, n, 0)) := by
          have := pM_more b d (by rw [← unhide HPM])
          rw [← unhide HPM] at this
          exact this
        have HHL : Hid (ph.length ≤ 32 ∧ pb.length ≤ 32768) := by
          have := pM_hl b
          rw [← unhide HPM] at this
          exact this
        clear HAW
        go_enter Tryz.func5, Tryz.ntmps5
        go_wp2_with fail
        refine (unhide HP).mono ?_
        rintro e W ⟨hp, hc, bp, bc, rfl, HR, HB⟩
        clear HP
        obtain ⟨o, ho⟩ : ∃ o, o = Obj.cells #[.string (str pm), .string (str pp), .slice hp ph.length hc, .slice bp pb.length bc] 38 := ⟨_, rfl⟩
        have hbU : Below W.heap.size W (W.alloc o) := (Below.refl _ _).alloc (Nat.le_refl _) _
        have hEU : EnvH (W.alloc o) := ((unhide HE).below (unhide HB)).below hbU
        have hszU : (W.alloc o).heap.size = W.heap.size + 1 := by simp
        have hB1 : Bs (W.alloc o) a1 c1 b := ((unhide H1).below (unhide HB) (Nat.le_refl _)).below hbU (Nat.le_refl _)
        have hB2 : Bs (W.alloc o) a2 c2 d := ((unhide H2).below (unhide HB) (Nat.le_refl _)).below hbU (Nat.le_refl _)
        have hwW := (unhide HB).size
        have hrU : (W.alloc o).heap[W.heap.size]? = some (.cells #[.string (str pm), .string (str pp), .slice hp ph.length hc, .slice bp pb.length bc] 38 (0, 0)) := by rw [ho]; exact heap_alloc_new W _
        have HP2 := hide (parse_w (W.alloc o) a1 c1 (b.take R) hEU ⟨hB1.row.take R, by simp; omega, hB1.most, hB1.nz⟩ (by simp; omega))
        rw [unhide HT, show (b.take R).length = R by simp; omega] at HP2
        rw [ho] at HP2
        have HXU : Hid (EnvH (W.alloc o) ∧ Bs (W.alloc o) a1 c1 b ∧ Bs (W.alloc o) a2 c2 d ∧ W.heap.size + 1 = (W.alloc o).heap.size ∧ Below W.heap.size W (W.alloc o) ∧ (W.alloc o).heap[W.heap.size]? = some (.cells #[.string (str pm), .string (str pp), .slice hp ph.length hc, .slice bp pb.length bc] 38 (0, 0)) ∧ HdR (W.alloc o) hp ph ∧ Bs (W.alloc o) bp bc pb) := ⟨hEU, hB1, hB2, hszU.symm, hbU, hrU, (unhide HR).hdr.below hbU (Nat.le_refl _), (unhide HR).own.toBs.below hbU (Nat.le_refl _)⟩
        rw [ho] at HXU
        clear hEU hB1 hB2 hszU hbU hrU ho o hwW HR
        go_wp2_with fail
        refine (unhide HP2).mono ?_
        rintro e W2 ⟨hp2, hc2, bp2, bc2, rfl, HR2, HB2⟩
        clear HP2 HR2
        go_wp2_with fail
        obtain ⟨hEU, hB1, hB2, hszU, hbU, hrU, hH1, hBB⟩ := unhide HXU
        have hU2 := (unhide HB2).size
        rw [← hszU] at hU2
        obtain ⟨o2, ho2⟩ : ∃ o, o = Obj.cells #[.string (str Rq.nil.m), .string (str Rq.nil.p), .slice hp2 Rq.nil.h.length hc2, .slice bp2 Rq.nil.b.length bc2] 38 := ⟨_, rfl⟩
        obtain ⟨X, hX⟩ : ∃ X, X = (W2.alloc o2).alloc (.cells #[.slice a1 n c1, .slice a2 d.length c2] 23) := ⟨_, rfl⟩
        have hs2 : (W2.alloc o2).heap.size = W2.heap.size + 1 := by simp
        have hbX : Below W2.heap.size W2 X := by rw [hX]; exact ((Below.refl _ _).alloc (Nat.le_refl _) _).alloc (by omega) _
        have hvX : X.heap[W2.heap.size + 1]? = some (.cells #[.slice a1 n c1, .slice a2 d.length c2] 23 (0, 0)) := by rw [hX, ← hs2]; exact heap_alloc_new _ _
        have hsX : X.heap.size = W2.heap.size + 2 := by rw [hX]; simp
        have htn : (b.take n).length = n := by simp; omega
        have b1X : Bs X a1 c1 (b.take n) := by
          have := (hB1.below (unhide HB2) (Nat.le_refl _)).below hbX (Nat.le_refl _)
          exact ⟨this.row.take n, by simp; omega, this.most, this.nz⟩
        have b2X : Bs X a2 c2 d := (hB2.below (unhide HB2) (Nat.le_refl _)).below hbX (Nat.le_refl _)
        have HC := hide (concat_two (W2.heap.size + 1) a1 c1 (b.take n) a2 c2 d X b1X b2X (by rw [htn]; exact cell_of_row _ _ _ _ _ _ hvX) (cell_of_row _ _ _ _ _ _ hvX) (by omega) (by omega))
        rw [← ho2, ← hX]
        have HEX : Hid (EnvH X) := (hEU.below (unhide HB2)).below hbX
        have HrX : Hid (X.heap[W.heap.size]? = some (.cells #[.string (str pm), .string (str pp), .slice hp ph.length hc, .slice bp pb.length bc] 38 (0, 0))) := by
          show _ = _
          rw [hbX.block _ (by omega), (unhide HB2).block _ (by omega)]; exact hrU
        have HH1 : Hid (HdR X hp ph ∧ Bs X bp bc pb) := ⟨(hH1.below (unhide HB2) (Nat.le_refl _)).below hbX (Nat.le_refl _), (hBB.below (unhide HB2) (Nat.le_refl _)).below hbX (Nat.le_refl _)⟩
        have HBX : Hid (Below w.heap.size w X ∧ W.heap.size < X.heap.size) := by
          have := (unhide HB).size
          exact ⟨(((unhide HB).trans (hbU.mono this)).trans ((unhide HB2).mono (by omega))).trans (hbX.mono (by omega)), by omega⟩
        clear hEU hB1 hB2 hszU hbU hrU hH1 hBB hU2 ho2 hX o2 hs2 hbX hvX hsX b1X b2X HXU HB2 HB HE H1 H2
        refine (unhide HC).mono ?_
        rintro e Z ⟨a3, c3, r, rfl, HRR, hoZ, hbZ⟩
        have hrl : r.length ≤ 100000000 := by rw [unhide HRR]; simp; omega
        have HEZ := hide ((unhide HEX).below hbZ)
        have HP3 := hide (parse_w Z a3 c3 r (unhide HEZ) hoZ.toBs hrl)
        rw [unhide HRR, unhide HM, ← unhide HRR] at HP3
        have HBZ := hide hbZ
        clear HC hoZ hbZ
        go_wp2_with fail
        refine (unhide HP3).mono ?_
        rintro e Y ⟨hp3, hc3, bp3, bc3, rfl, HR3, HB3⟩
        clear HP3
        obtain ⟨o4, ho4⟩ : ∃ o, o = Obj.cells #[.string (str pm), .string (str pp), .slice hp3 ph.length hc3, .slice bp3 pb.length bc3] 38 := ⟨_, rfl⟩
        have hbY : Below Y.heap.size Y (Y.alloc o4) := (Below.refl _ _).alloc (Nat.le_refl _) _
        have hX3 : Below X.heap.size X (Y.alloc o4) := ((unhide HBZ).trans ((unhide HB3).mono (unhide HBZ).size)).trans (hbY.mono (Nat.le_trans (unhide HBZ).size (unhide HB3).size))
        have hrY := (hX3.block _ (unhide HBX).2).trans (unhide HrX)
        have hEY : EnvH (Y.alloc o4) := (unhide HEX).below hX3
        have HSR := hide (same_eq pm pp ph pb hp3 hp bp3 bp hc3 hc bc3 bc (Y.alloc o4) ((unhide HR3).hdr.below hbY (Nat.le_refl _)) ((unhide HH1).1.below hX3 (Nat.le_refl _)) ((unhide HR3).own.toBs.below hbY (Nat.le_refl _)) ((unhide HH1).2.below hX3 (Nat.le_refl _)) (by have := (unhide HHL).1; omega) (by have := (unhide HHL).2; omega))
        have q0 : (Y.alloc o4).cell? ⟨W.heap.size, 0, none⟩ = some (.string (str pm)) := cell_of_row _ _ _ _ _ _ hrY
        have q1 : (Y.alloc o4).cell? ⟨W.heap.size, 1, none⟩ = some (.string (str pp)) := cell_of_row _ _ _ _ _ _ hrY
        have q2 : (Y.alloc o4).cell? ⟨W.heap.size, 2, none⟩ = some (.slice hp ph.length hc) := cell_of_row _ _ _ _ _ _ hrY
        have q3 : (Y.alloc o4).cell? ⟨W.heap.size, 3, none⟩ = some (.slice bp pb.length bc) := cell_of_row _ _ _ _ _ _ hrY
        have HEY : Hid (EnvH (Y.alloc o4)) := hEY
        have HX3 : Hid (Below w.heap.size w (Y.alloc o4)) := (unhide HBX).1.trans (hX3.mono (unhide HBX).1.size)
        rw [ho4] at q0 q1 q2 q3 HSR HEY HX3
        clear hbY hX3 hrY hEY ho4 o4
        go_wp2_with fail
        refine (unhide HSR).mono ?_
        rintro e V ⟨rfl, HBV⟩
        have HAW := hide (awake8_any V ((unhide HEY).below (unhide HBV)))
        have HVV : Hid (Below w.heap.size w V) := (unhide HX3).trans ((unhide HBV).mono (unhide HX3).size)
        clear HSR q0 q1 q2 q3
        go_wp2_with fail
        refine (unhide HAW).mono ?_
        rintro e V2 ⟨rfl, HB2⟩
        go_wp2_with fail
        go_ret
        exact ⟨rfl, hide ((unhide HVV).trans ((unhide HB2).mono (unhide HVV).size))⟩
      · have hst := pM_no b (by rw [← unhide HPM]; exact hs)
        rw [← unhide HPM] at hst
        simp only [Prod.mk.injEq] at hst
        obtain ⟨hq, hn0, _⟩ := hst
        subst hn0
        have hs' : ¬ (st : Int) = 0 := by omega
        have hsb : ((st : Int) != 0) = true := by simp; omega
        clear HAW
        go_enter Tryz.func5, Tryz.ntmps5
        go_wp2_with fail
        refine (unhide HP).mono ?_
        rintro e W ⟨hp, hc, bp, bc, rfl, HR, HB⟩
        clear HP
        obtain ⟨o, ho⟩ : ∃ o, o = Obj.cells #[.string (str pm), .string (str pp), .slice hp ph.length hc, .slice bp pb.length bc] 38 := ⟨_, rfl⟩
        have hbU : Below w.heap.size w (W.alloc o) := (unhide HB).alloc (unhide HB).size _
        have HAW := hide (awake8_any (W.alloc o) ((unhide HE).below hbU))
        have HBU := hide hbU
        rw [ho] at HAW HBU
        clear ho hbU o
        go_wp2_with fail
        refine (unhide HAW).mono ?_
        rintro e V2 ⟨rfl, HB2⟩
        go_wp2_with fail
        go_ret
        exact ⟨rfl, hide ((unhide HBU).trans ((unhide HB2).mono (unhide HBU).size))⟩
    · have g1 : ¬ (262144 : Int) < (b.length : Int) := by omega
      have g2 : (262144 : Int) < (d.length : Int) := by omega
      go_enter Tryz.func5, Tryz.ntmps5
      go_wp2_with fail
      refine (unhide HAW).mono ?_
      rintro e V2 ⟨rfl, HB2⟩
      go_wp2_with fail
      go_ret
      exact ⟨rfl, HB2⟩
  · have g1 : (262144 : Int) < (b.length : Int) := by omega
    go_enter Tryz.func5, Tryz.ntmps5
    go_wp2_with fail
    refine (unhide HAW).mono ?_
    rintro e V2 ⟨rfl, HB2⟩
    go_wp2_with fail
    go_ret
    exact ⟨rfl, HB2⟩
theorem wfi {n : Int} (h : (Lit.int .i64 n).wf = true) : -9223372036854775808 ≤ n ∧ n ≤ 9223372036854775807 := by
  simp [Lit.wf, IntKind.min, IntKind.max, IntKind.bits, IntKind.signed] at h
  omega
theorem httpdCut_walk (a0 : Option Addr) (c0 : Nat) (l0 : List UInt8) (k : Int) (a2 : Option Addr) (c2 : Nat) (l2 : List UInt8) (w : World) (h0 : Bs w a0 c0 l0) (h1 : (Lit.int .i64 k).wf = true) (h2 : Bs w a2 c2 l2) (hE : EnvH w) :
    Calls Tryz.prog 5 #[.slice a0 l0.length c0, .int .i64 k, .slice a2 l2.length c2] w fun e w' => e = .returned (.bool true) ∧ Below w.heap.size w w' :=
  (cut_any w hE a0 a2 c0 c2 l0 l2 k h0 h2 (wfi h1)).mono fun e w' h => ⟨h.1, unhide h.2⟩
#print axioms httpdCut_walk
end Go.Proofs.YthkadboeokgjnabGreatDoor
