/-
  HttpdParses' walk.
-/
import Derived.Test.YthkadboeokgjnaaGreatDoorPkHsesbc
import Derived.Test.YthkadboeokgjnaaGreatDoorPkHsesbi
section
set_option linter.unusedVariables false
set_option maxRecDepth 1000000
namespace Go.Proofs.YthkadboeokgjnaaGreatDoor
open Go.RowKit

theorem u8xff (a : UInt8) : bits .xor .u8 (a.toNat : Int) 255 = ((a ^^^ 255).toNat : Int) := by
  have := u8_xor_nat a.toNat 255 a.toNat_lt (by decide)
  rw [show ((255 : Nat) : Int) = 255 from rfl] at this
  rw [this, UInt8.toNat_xor]; rfl
theorem own_set8 {w : World} {base g cap : Nat} {l : List UInt8} (h : OwnB w base (some ⟨g, 0, none⟩) cap l) (j : Nat) (c : UInt8) : OwnB (w.setCell ⟨g, j, none⟩ (.int .u8 (c.toNat : Int))) base (some ⟨g, 0, none⟩) cap (l.set j c) := by
  have := World.ownsRow.stored h j (.int .u8 (c.toNat : Int))
  unfold OwnB
  rw [List.length_set]
  have e : bs (l.set j c) = (bs l).set j (.int .u8 (c.toNat : Int)) := by simp [bs, List.map_set]
  rw [e]
  exact this.1
/-- What a round keeps. -/
structure PaI (w1 wr : World) (bp : Option Addr) (bc nB R : Nat) (o : Array Value) : Prop where
  own : ∃ cc : List UInt8, cc.length = nB ∧ OwnB wr w1.heap.size bp bc cc
  bel : Below w1.heap.size w1 wr
  row : wr.heap[R]? = some (.cells o 27 (0, 0))
  off : ∀ k, blk bp = some k → k ≠ R
set_option maxHeartbeats 2000000 in
theorem parses_any (w : World) (hE : EnvH w) (a1 : Option Addr) (c1 : Nat) (b : List UInt8) (h1 : Bs w a1 c1 b) :
    Calls Tryz.prog 3 #[.slice a1 b.length c1] w fun e w' => e = .returned (.bool true) ∧ Hid (Below w.heap.size w w') := by
  by_cases hb : b.length ≤ 262144
  · have g1 : ¬ (262144 : Int) < (b.length : Int) := by omega
    have HE := hide hE
    have H1 := hide h1
    have HCL := hide (sclone_any a1 b.length c1 b w h1 rfl (by omega))
    clear hE h1
    go_enter Tryz.func3, Tryz.ntmps3
    go_wp2_with fail
    refine (unhide HCL).mono ?_
    rintro e w1 ⟨a', c', r, rfl, HRR, hO1, hB1⟩
    clear HCL
    obtain rfl := unhide HRR
    have HG1 : Hid (Bs w1 a' c' r ∧ Bs w1 a1 c1 r) := ⟨hO1.toBs, (unhide H1).below hB1 (Nat.le_refl _)⟩
    have HE1 : Hid (EnvH w1) := (unhide HE).below hB1
    have HB1 := hide hB1
    clear hO1 hB1 HRR HE H1
    have HP := hide (parse_w w1 a' c' r (unhide HE1) (unhide HG1).1 (by omega))
    obtain ⟨P, hP⟩ : ∃ P, P = pM r := ⟨_, rfl⟩
    rw [← hP] at HP
    have HPM : Hid (P = pM r) := hP
    clear hP
    obtain ⟨⟨pm, pp, ph, pb⟩, n, st⟩ := P
    simp only at HP
    have HHL : Hid (ph.length ≤ 32 ∧ pb.length ≤ 32768) := by
      have := pM_hl r
      rw [← unhide HPM] at this
      exact this
    go_wp2_with fail
    refine (unhide HP).mono ?_
    rintro e W ⟨hp, hc, bp, bc, rfl, HR, HB⟩
    clear HP
    obtain ⟨o, ho⟩ : ∃ o, o = Obj.cells #[.string (str pm), .string (str pp), .slice hp ph.length hc, .slice bp pb.length bc] 27 := ⟨_, rfl⟩
    have hbU : Below W.heap.size W (W.alloc o) := (Below.refl _ _).alloc (Nat.le_refl _) _
    have hbU1 : Below w1.heap.size w1 (W.alloc o) := (unhide HB).alloc (unhide HB).size _
    have hB1 : Bs (W.alloc o) a1 c1 r := (unhide HG1).2.below hbU1 (Nat.le_refl _)
    have hrU : (W.alloc o).heap[W.heap.size]? = some (.cells #[.string (str pm), .string (str pp), .slice hp ph.length hc, .slice bp pb.length bc] 27 (0, 0)) := by rw [ho]; exact heap_alloc_new W _
    have HP2 := hide (rparse a1 c1 r (W.alloc o) hB1 (by omega))
    rw [rp_pM, ← unhide HPM] at HP2
    simp only at HP2
    have hszU : (W.alloc o).heap.size = W.heap.size + 1 := by simp
    have HU : Hid (Below w1.heap.size w1 (W.alloc o) ∧ (W.alloc o).heap[W.heap.size]? = some (.cells #[.string (str pm), .string (str pp), .slice hp ph.length hc, .slice bp pb.length bc] 27 (0, 0)) ∧ HdR (W.alloc o) hp ph ∧ OwnB (W.alloc o) w1.heap.size bp bc pb ∧ W.heap.size < (W.alloc o).heap.size ∧ ∀ k, blk bp = some k → k ≠ W.heap.size) := ⟨hbU1, hrU, (unhide HR).hdr.below hbU (Nat.le_refl _), (unhide HR).own.below hbU (Nat.le_refl _), by omega, fun k hk => by have := ((unhide HR).own.lt k hk).2; omega⟩
    rw [ho] at HP2 HU
    clear hbU hbU1 hB1 hrU hszU ho o HR HB
    go_wp2_with fail
    refine (unhide HP2).mono ?_
    rintro e Y ⟨hp2, hc2, bp2, bc2, rfl, HR2, HB2⟩
    clear HP2
    obtain ⟨o4, ho4⟩ : ∃ o, o = Obj.cells #[.string (str pm), .string (str pp), .slice hp2 ph.length hc2, .slice bp2 pb.length bc2] 27 := ⟨_, rfl⟩
    have hbY : Below Y.heap.size Y (Y.alloc o4) := (Below.refl _ _).alloc (Nat.le_refl _) _
    have hbY2 := (unhide HB2).alloc (unhide HB2).size o4
    obtain ⟨u1, u2, u3, u4, u5, u6⟩ := unhide HU
    have hrY := (hbY2.block _ u5).trans u2
    have hH3 := u3.below hbY2 (Nat.le_refl _)
    have hO3 := u4.below hbY2 (Nat.le_refl _)
    have hB3 := u1.trans (hbY2.mono u1.size)
    have HSR := hide (same_eq pm pp ph pb hp hp2 bp bp2 hc hc2 bc bc2 (Y.alloc o4) hH3 ((unhide HR2).1.below hbY (Nat.le_refl _)) hO3.toBs ((unhide HR2).2.below hbY (Nat.le_refl _)) (by have := (unhide HHL).1; omega) (by have := (unhide HHL).2; omega))
    have q0 : (Y.alloc o4).cell? ⟨W.heap.size, 0, none⟩ = some (.string (str pm)) := cell_of_row _ _ _ _ _ _ hrY
    have q1 : (Y.alloc o4).cell? ⟨W.heap.size, 1, none⟩ = some (.string (str pp)) := cell_of_row _ _ _ _ _ _ hrY
    have q2 : (Y.alloc o4).cell? ⟨W.heap.size, 2, none⟩ = some (.slice hp ph.length hc) := cell_of_row _ _ _ _ _ _ hrY
    have q3 : (Y.alloc o4).cell? ⟨W.heap.size, 3, none⟩ = some (.slice bp pb.length bc) := cell_of_row _ _ _ _ _ _ hrY
    have HV : Hid (PaI w1 (Y.alloc o4) bp bc pb.length W.heap.size #[.string (str pm), .string (str pp), .slice hp ph.length hc, .slice bp pb.length bc] ∧ W.heap.size < (Y.alloc o4).heap.size) := ⟨⟨⟨pb, rfl, hO3⟩, hB3, hrY, u6⟩, Nat.lt_of_lt_of_le u5 hbY2.size⟩
    rw [ho4] at q0 q1 q2 q3 HSR HV
    clear hbY hbY2 u1 u2 u3 u4 u5 u6 hrY hH3 hO3 hB3 ho4 o4 HR2 HB2 HU
    go_wp2_with fail
    refine (unhide HSR).mono ?_
    rintro e V ⟨rfl, HBV⟩
    have HI0 : Hid (PaI w1 V bp bc pb.length W.heap.size #[.string (str pm), .string (str pp), .slice hp ph.length hc, .slice bp pb.length bc]) := by
      obtain ⟨⟨⟨cc, e1, e2⟩, h2, h3, h4⟩, h5⟩ := unhide HV
      exact ⟨⟨cc, e1, e2.below (unhide HBV) (Nat.le_refl _)⟩, h2.trans ((unhide HBV).mono h2.size), ((unhide HBV).block _ h5).trans h3, h4⟩
    have q3' : V.cell? ⟨W.heap.size, 3, none⟩ = some (.slice bp pb.length bc) := cell_of_row _ _ _ _ _ _ (unhide HI0).row
    clear HSR q0 q1 q2 q3 HV HBV
    have hpb := (unhide HHL).2
    go_wp2_with fail
    go_loopw [46] (fun i wr => ∃ k : Nat, k ≤ pb.length ∧ i = .int .i64 (k : Int) ∧ Hid (PaI w1 wr bp bc pb.length W.heap.size #[.string (str pm), .string (str pp), .slice hp ph.length hc, .slice bp pb.length bc])) (fun i _ => pb.length - (intOf i).toNat)
    case atStart => exact ⟨0, Nat.zero_le _, rfl, HI0⟩
    case round =>
      clear HI0 q3'
      obtain ⟨k, hk, rfl, HI⟩ := hrel
      by_cases hlt : k < pb.length
      · have hlt' : (k : Int) < (pb.length : Int) := by omega
        have r3 : wr.cell? ⟨W.heap.size, 3, none⟩ = some (.slice bp pb.length bc) := cell_of_row _ _ _ _ _ _ (unhide HI).row
        obtain ⟨cc, hcl, hown⟩ := (unhide HI).own
        obtain ⟨g, hg⟩ : ∃ g, bp = some ⟨g, 0, none⟩ := by
          rcases hown.cases with ⟨_, _, h⟩ | ⟨g, cur, h, _⟩
          · rw [h] at hcl; simp at hcl; omega
          · exact ⟨g, h⟩
        have HGE : Hid (bp = some ⟨g, 0, none⟩) := hg
        rw [hg] at hown
        have hck : wr.cell? ⟨g, k, none⟩ = some (.int .u8 ((cc.getD k 0).toNat : Int)) := by
          obtain ⟨bb, off, hae, hcell⟩ := hown.toBs.row (by intro e; rw [e] at hcl; simp at hcl; omega)
          simp only [Option.some.injEq, Addr.mk.injEq, and_true] at hae
          obtain ⟨rfl, rfl⟩ := hae
          have := hcell k (by omega)
          rw [Nat.zero_add] at this
          exact this
        have hfz : wr.frozen? ⟨g, k, none⟩ = false := by
          rcases hown.cases with ⟨h, _⟩ | ⟨g', cur, h, _, hg', _⟩
          · cases h
          · cases h; exact frozen_of_row wr g k _ _ hg'
        have HNX : Hid (PaI w1 (wr.setCell ⟨g, k, none⟩ (.int .u8 (((cc.getD k 0) ^^^ 255).toNat : Int))) bp bc pb.length W.heap.size #[.string (str pm), .string (str pp), .slice hp ph.length hc, .slice bp pb.length bc]) := by
          have hge := (hown.lt g rfl).1
          have hbl := (unhide HI).bel
          refine ⟨⟨cc.set k ((cc.getD k 0) ^^^ 255), by simp [hcl], by rw [hg]; exact own_set8 hown k _⟩, ⟨hbl.os, hbl.tape, hbl.output, by simp [World.setCell]; exact hbl.size, fun j hj => (Below.heap_setCell _ _ _ j (by show j ≠ g; omega)).trans (hbl.block j hj)⟩, ?_, (unhide HI).off⟩
          rw [Below.heap_setCell _ _ _ _ (by show W.heap.size ≠ g; exact fun e => (unhide HI).off g (by rw [hg]; rfl) e.symm)]
          exact (unhide HI).row
        generalize cc.getD k 0 = x at *
        have hxx := u8xff x
        have hx256 := x.toNat_lt
        rw [hg] at r3
        clear hg hown hcl HI
        go_wp2
        go_roundw
        case rel => exact ⟨k + 1, by omega, by go_num, HNX⟩
        case measure => simp [intOf]; omega
      · obtain rfl : k = pb.length := by omega
        have HEQ := hide (eq8_same a' c' a1 c1 r wr ((unhide HG1).1.below (unhide HI).bel (Nat.le_refl _)) ((unhide HG1).2.below (unhide HI).bel (Nat.le_refl _)) (by omega))
        have HEr := hide ((unhide HE1).below (unhide HI).bel)
        have HBr : Hid (Below w.heap.size w wr) := (unhide HB1).trans ((unhide HI).bel.mono (unhide HB1).size)
        clear HI HG1 HE1
        go_wp2_with fail
        refine (unhide HEQ).mono ?_
        rintro e v1 ⟨rfl, HBe⟩
        have HAW := hide (awake8_any v1 ((unhide HEr).below (unhide HBe)))
        have HB5 : Hid (Below w.heap.size w v1) := (unhide HBr).trans ((unhide HBe).mono (unhide HBr).size)
        clear HEQ HBe HBr
        go_wp2_with fail
        refine (unhide HAW).mono ?_
        rintro e v2 ⟨rfl, HB6⟩
        go_wp2_with fail
        go_ret
        exact ⟨rfl, hide ((unhide HB5).trans ((unhide HB6).mono (unhide HB5).size))⟩
  · have g1 : (262144 : Int) < (b.length : Int) := by omega
    have HAW := hide (awake8_any w hE)
    go_enter Tryz.func3, Tryz.ntmps3
    go_wp2_with fail
    refine (unhide HAW).mono ?_
    rintro e V2 ⟨rfl, HB2⟩
    go_wp2_with fail
    go_ret
    exact ⟨rfl, HB2⟩
theorem httpdParses_walk (a0 : Option Addr) (c0 : Nat) (l0 : List UInt8) (w : World) (h0 : Bs w a0 c0 l0) (hE : EnvH w) :
    Calls Tryz.prog 3 #[.slice a0 l0.length c0] w fun e w' => e = .returned (.bool true) ∧ Below w.heap.size w w' :=
  (parses_any w hE a0 c0 l0 h0).mono fun e w' h => ⟨h.1, unhide h.2⟩
#print axioms httpdParses_walk
end Go.Proofs.YthkadboeokgjnaaGreatDoor
end
