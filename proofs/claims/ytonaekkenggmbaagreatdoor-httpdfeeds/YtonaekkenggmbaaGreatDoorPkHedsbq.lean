/-
  httpd: THE WALK of HttpdFeeds.
-/
import Derived.Test.YtonaekkenggmbaaGreatDoorPkHedsbo
import Derived.Test.YtonaekkenggmbaaGreatDoorPkHedsbe
import Derived.Test.YtonaekkenggmbaaGreatDoorPkHedsbp
import Derived.Deep.RegionLaw
section
set_option linter.unusedVariables false
set_option maxRecDepth 1000000
namespace Go.Proofs.YtonaekkenggmbaaGreatDoor
open Go.RowKit

theorem fe_len (st : Nat) (W b : List UInt8) (hW : W.length ≤ 65536) : (feW st W b).length ≤ 65536 := by
  unfold feW
  split
  · rename_i h
    unfold feE at h
    split at h
    · omega
    · split at h
      · omega
      · simp; omega
  · exact hW
theorem nx_len (st : Nat) (W : List UInt8) (hW : W.length ≤ 65536) : (nxW st W).length ≤ 65536 := by
  unfold nxW
  split
  · exact hW
  · split
    · simp
    · simp; omega
theorem PS.nil {w : World} {base : Nat} {h : Nat → Nat} {P st : Nat} {W : List UInt8} (p : PS w base h P st W) (hs : st ≠ 0) : W = [] := by
  rcases p with ⟨e, _⟩ | ⟨_, e, _⟩
  · exact absurd e hs
  · exact e
/-- Both parsers, told alike. -/
structure FS (w0 w : World) (P X : Nat) (h : Nat → Nat) (st : Nat) (W : List UInt8) (y : Option Addr) (cy : Nat) : Prop where
  ps : PS w w0.heap.size h P st W
  rs : RS w h X st W y cy
  hl : W.length ≤ 65536
  bl : Below w0.heap.size w0 w
theorem tag3_hi {h : Nat → Nat} {n m base : Nat} (hb : base ≤ n) : ∀ k, n ≤ k → tag3 h n m k ≠ 0 → base ≤ k ∧ k < m := fun k hk hn => by
  simp only [tag3] at hn
  rw [if_neg (by omega)] at hn
  split at hn
  · exact ⟨by omega, by assumption⟩
  · exact absurd rfl hn
theorem tag3_lo {h : Nat → Nat} {n m : Nat} (k : Nat) (hk : k < n) : tag3 h n m k = h k := by simp [tag3, hk]
theorem tag3_new {h : Nat → Nat} {n m : Nat} (k : Nat) (h1 : n ≤ k) (h2 : k < m) : tag3 h n m k = 3 := by
  simp only [tag3]
  rw [if_neg (by omega), if_pos h2]
theorem FS.new {w0 w w' : World} {P X : Nat} {h : Nat → Nat} {st : Nat} {W : List UInt8} {y : Option Addr} {cy : Nat} (f : FS w0 w P X h st W y cy) (hb : Below w.heap.size w w') : FS w0 w' P X (tag3 h w.heap.size w'.heap.size) st W y cy :=
  ⟨f.ps.ours hb.size (fun k hk _ => hb.block k hk) (fun k hk => tag3_lo k hk) (tag3_hi f.bl.size), f.rs.same hb.size (fun k hk _ _ => hb.block k hk) (fun k hk h3 => by rw [tag3_lo k hk]; exact h3), f.hl, f.bl.trans (hb.mono f.bl.size)⟩
/-- Behind a call of the program's parser. -/
theorem FS.next {w0 w w' : World} {P X : Nat} {h h' : Nat → Nat} {st : Nat} {W : List UInt8} {y : Option Addr} {cy : Nat} (f : FS w0 w P X h st W y cy) (g : Fr w0.heap.size w w' h h') : RS w' h' X st W y cy ∧ Below w0.heap.size w0 w' := ⟨f.rs.prog g, f.bl.trans g.below⟩
/-- The copy's bytes are turned. -/
structure XB (w3 wr : World) (a : Option Addr) (c n base : Nat) : Prop where
  own : ∃ cc : List UInt8, cc.length = n ∧ OwnB wr base a c cc
  kp : Kp w3 wr (fun k => blk a = some k)
  sz : wr.heap.size = w3.heap.size
set_option maxHeartbeats 8000000 in
theorem feeds_any (w : World) (hE : EnvH w) (p0 : Option Addr) (c0 : Nat) (L : List Fd9) (h1 : FdR w p0 L) :
    Calls Tryz.prog 3 #[.slice p0 L.length c0] w fun e w' => e = .returned (.bool true) ∧ Hid (Below w.heap.size w w') := by
  have HSH := hide (short_f p0 c0 L w h1)
  have HE := hide hE
  have HL := hide h1
  clear hE h1
  go_enter Tryz.func3, Tryz.ntmps3
  go_wp2_with fail
  refine (unhide HSH).mono ?_
  rintro e w ⟨rfl, hcase⟩
  clear HSH
  rcases hcase with rfl | ⟨rfl, HS⟩
  · go_wp2_with fail
    refine (awake8_any _ (unhide HE)).mono ?_
    rintro e w2 ⟨rfl, HB2⟩
    go_wp2_with fail
    go_ret
    exact ⟨rfl, HB2⟩
  have hLl := (unhide HS).1
  go_wp2_with fail
  refine (new_any w).mono ?_
  rintro e w1 ⟨P, r, g, rfl, HPZ, HB1⟩
  obtain ⟨o, ho⟩ : ∃ o, o = Obj.cells #[.slice none 0 0, .int .i64 0] 30 := ⟨_, rfl⟩
  obtain ⟨V, hV⟩ : ∃ V, V = w1.alloc o := ⟨_, rfl⟩
  have HF0 : Hid (FS w V P w1.heap.size (tag3 (tag1 P) w1.heap.size V.heap.size) 0 [] none 0) := by
    have hb : Below w1.heap.size w1 V := by rw [hV]; exact (Below.refl _ _).alloc (Nat.le_refl _) _
    have hz : w1.heap.size < V.heap.size := by rw [hV]; simp
    have hps : PS w1 w.heap.size (tag1 P) P 0 [] := .inl ⟨rfl, g, r, _, _, none, 0, 0, unhide HPZ⟩
    refine ⟨hps.ours hb.size (fun k hk _ => hb.block k hk) (fun k hk => tag3_lo k hk) (tag3_hi (unhide HB1).size), ⟨by rw [hV, ho]; exact heap_alloc_new w1 _, bs_none _, tag3_new _ (Nat.le_refl _) hz, fun k hk => by simp [blk] at hk⟩, by simp, (unhide HB1).trans (hb.mono (unhide HB1).size)⟩
  rw [ho] at hV
  clear ho HPZ HB1 o
  obtain ⟨X, hX⟩ : ∃ X, X = w1.heap.size := ⟨_, rfl⟩
  rw [← hX] at HF0
  go_upto_region 4 with fail
  rw [← hV, ← hX]
  clear hV hX
  have HF00 : Hid (∃ h st W y cy, FS w V P X h st W y cy) := ⟨_, _, _, _, _, unhide HF0⟩
  clear HF0
  go_wp2
  go_loopw [25] (fun i wr => ∃ k : Nat, k ≤ L.length ∧ i = .int .i64 (k : Int) ∧ Hid (∃ h st W y cy, FS w wr P X h st W y cy)) (fun i _ => L.length - (intOf i).toNat)
  case atStart => exact ⟨0, Nat.zero_le _, rfl, HF00⟩
  case round =>
    clear HF00
    obtain ⟨k, hk, rfl, HF⟩ := hrel
    obtain ⟨h, st, W, y, cy, hfs⟩ := unhide HF
    have HFS := hide hfs
    clear hfs HF
    by_cases hlt : k < L.length
    · have hlt' : (k : Int) < (L.length : Int) := by omega
      obtain ⟨d, hd⟩ : ∃ d, L[k]? = some d := ⟨_, List.getElem?_eq_getElem hlt⟩
      have hdl := (unhide HS).2 k d hd
      have hlr := (unhide HL).below (unhide HFS).bl (Nat.le_refl _)
      obtain ⟨b0, off, hpe, hc⟩ := hlr.mem (by intro e; subst e; simp at hd)
      subst hpe
      obtain ⟨x, c, hv, e0, e1⟩ := hc k d hd
      have HX0 : Hid (Bs wr x c d.l) := hv.l
      obtain ⟨xw, hxw⟩ : ∃ b : Bs w x c d.l, True := by
        obtain ⟨b0', off', hpe', hc'⟩ := (unhide HL).mem (by intro e; subst e; simp at hd)
        obtain ⟨x', c', hv', e0', e1'⟩ := hc' k d hd
        cases hpe'
        have e3 := ((unhide HFS).bl.cell (World.block_lt_of_cell? w _ e1')).symm.trans e1 |>.symm.trans e1' 
        simp only [Option.some.injEq, Value.slice.injEq, true_and] at e3
        obtain ⟨rfl, rfl⟩ := e3
        exact ⟨hv'.l, trivial⟩
      have HXW := hide xw
      have hdlw : d.l.length ≤ 262144 := hdl
      obtain ⟨q, hq4, hq⟩ := op4 d.o
      clear hc hd hv hlr hxw xw
      obtain ⟨ob, bb⟩ := d
      simp only at e0 e1 hdl hdlw hq HX0 HXW
      obtain ⟨wd, hwd⟩ : ∃ wd, wd = wr.alloc (.cells #[.int .i64 ob, .slice x bb.length c] 32) := ⟨_, rfl⟩
      have hbd : Below wr.heap.size wr wd := by rw [hwd]; exact (Below.refl _ _).alloc (Nat.le_refl _) _
      have hZd : wd.heap[wr.heap.size]? = some (.cells #[.int .i64 ob, .slice x bb.length c] 32 (0, 0)) := by rw [hwd]; exact heap_alloc_new wr _
      have hzd : wr.heap.size < wd.heap.size := (Array.getElem?_eq_some_iff.1 hZd).1
      have z1 : wd.cell? ⟨wr.heap.size, 1, none⟩ = some (.slice x bb.length c) := cell_of_row _ _ _ _ _ _ hZd
      have HCL := hide (sclone_any x bb.length c bb wd ((unhide HX0).below hbd (Nat.le_refl _)) rfl (by omega))
      have HBD := hide (And.intro hbd hZd)
      clear hbd hZd HX0
      go_upto_region 9 with fail
      rw [← hwd]
      clear hwd e0 e1
      go_wp2_with fail
      refine (unhide HCL).mono ?_
      rintro e w2 ⟨a, ca, rr, rfl, hrr, ho2, hb2⟩
      obtain rfl : rr = bb := unhide hrr
      clear HCL hrr z1
      have hbr2 : Below wr.heap.size wr w2 := (unhide HBD).1.trans (hb2.mono (unhide HBD).1.size)
      have HG : Hid (w2.heap[wr.heap.size]? = some (.cells #[.int .i64 ob, .slice x rr.length c] 32 (0, 0))) := (hb2.block _ hzd).trans (unhide HBD).2
      have HZ2 : Hid (wr.heap.size < w2.heap.size) := Nat.lt_of_lt_of_le hzd hb2.size
      obtain ⟨h2, hh2⟩ : ∃ h2, h2 = tag3 h wr.heap.size w2.heap.size := ⟨_, rfl⟩
      have HF2 : Hid (FS w w2 P X h2 st W y cy) := by rw [hh2]; exact (unhide HFS).new hbr2
      have HO2 : Hid (OwnB w2 wd.heap.size a ca rr ∧ (∀ k, blk a = some k → h2 k = 3 ∧ wd.heap.size ≤ k ∧ k < w2.heap.size) ∧ h2 wr.heap.size = 3) := by
        refine ⟨ho2, fun k hk => ?_, ?_⟩
        · have := ho2.lt k hk
          exact ⟨by rw [hh2]; exact tag3_new _ (by omega) this.2, this.1, this.2⟩
        · rw [hh2]; exact tag3_new _ (Nat.le_refl _) (unhide HZ2)
      have HNE : Hid (X < wr.heap.size ∧ ∀ k, blk y = some k → k < wr.heap.size) := ⟨(unhide HFS).rs.lt, fun k hk => ((unhide HFS).rs.ty k hk).2.1⟩
      have g0 : w2.cell? ⟨wr.heap.size, 0, none⟩ = some (.int .i64 ob) := cell_of_row _ _ _ _ _ _ (unhide HG)
      clear hh2 HFS HBD ho2 hb2 hbr2
      match q, hq4 with
      | 0, _ =>
        have hq : wrap64 ((IntKind.u64.wrap ob).tmod 4) = 0 := hq
        have HPF := hide (pfeed_any w2 w.heap.size h2 P st W (unhide HF2).ps (unhide HF2).hl a ca rr (unhide HO2).1.toBs (by omega) (unhide HF2).bl.size)
        go_wp2_with fail
        refine (unhide HPF).mono ?_
        rintro e w3 ⟨E, rfl, HEE, HP3⟩
        obtain ⟨h3, hp3, hf3⟩ := unhide HP3
        have HQ3 : Hid (PS w3 w.heap.size h3 P st (feW st W rr) ∧ RS w3 h3 X st W y cy ∧ Below w.heap.size w w3) := ⟨hp3, (unhide HF2).rs.prog hf3, (unhide HF2).bl.trans hf3.below⟩
        have HG3 : Hid (w3.heap[wr.heap.size]? = some (.cells #[.int .i64 ob, .slice x rr.length c] 32 (0, 0)) ∧ wr.heap.size < w3.heap.size ∧ ∀ k, blk a = some k → h3 k = 3 ∧ wr.heap.size < k ∧ k < w3.heap.size) := by
          refine ⟨(hf3.block _ (by rw [(unhide HO2).2.2]; decide)).trans (unhide HG), Nat.lt_of_lt_of_le (unhide HZ2) hf3.size, fun k hk => ?_⟩
          obtain ⟨t1, t2, t3⟩ := (unhide HO2).2.1 k hk
          exact ⟨by rw [hf3.tag k (by omega)]; exact t1, by omega, Nat.lt_of_lt_of_le t3 hf3.size⟩
        have HXB0 : Hid (XB w3 w3 a ca rr.length wd.heap.size) := ⟨⟨rr, rfl, (unhide HO2).1.same (fun k hk => hf3.block k (by rw [((unhide HO2).2.1 k hk).1]; decide))⟩, Kp.of (Below.refl _ _), rfl⟩
        have HLE := hide (unhide HF2).hl
        clear hp3 hf3 HP3 HPF HF2 HG HZ2 HO2 g0
        obtain ⟨u, hu⟩ : ∃ u, u = wr.heap.size := ⟨_, rfl⟩
        rw [← hu] at HG3 HNE
        obtain ⟨u2, hu2⟩ : ∃ u, u = wd.heap.size := ⟨_, rfl⟩
        rw [← hu2] at HXB0
        go_wp2_with fail
        rw [← hu]
        clear hu hu2 hzd
        clear wd
        go_loopw [56] (fun i wx => ∃ j : Nat, j ≤ rr.length ∧ i = .int .i64 (j : Int) ∧ Hid (XB w3 wx a ca rr.length u2)) (fun i _ => rr.length - (intOf i).toNat)
        case atStart => exact ⟨0, Nat.zero_le _, rfl, HXB0⟩
        case round =>
          clear HXB0
          obtain ⟨j, hj, rfl, HI⟩ := hrel
          by_cases hjl : j < rr.length
          · have hjl' : (j : Int) < (rr.length : Int) := by omega
            obtain ⟨cc, hcl, hown⟩ := (unhide HI).own
            obtain ⟨g, hg⟩ : ∃ g, a = some ⟨g, 0, none⟩ := by
              rcases hown.cases with ⟨_, _, h⟩ | ⟨g, cur, h, _⟩
              · rw [h] at hcl; simp at hcl; omega
              · exact ⟨g, h⟩
            have HGE : Hid (a = some ⟨g, 0, none⟩) := hg
            rw [hg] at hown
            have hck : wr.cell? ⟨g, j, none⟩ = some (.int .u8 ((cc.getD j 0).toNat : Int)) := by
              obtain ⟨bb, off, hae, hcell⟩ := hown.toBs.row (by intro e; rw [e] at hcl; simp at hcl; omega)
              simp only [Option.some.injEq, Addr.mk.injEq, and_true] at hae
              obtain ⟨rfl, rfl⟩ := hae
              have := hcell j (by omega)
              rw [Nat.zero_add] at this
              exact this
            have hfz : wr.frozen? ⟨g, j, none⟩ = false := by
              rcases hown.cases with ⟨h, _⟩ | ⟨g', cur, h, _, hg', _⟩
              · cases h
              · cases h; exact frozen_of_row wr g j _ _ hg'
            have HNX : Hid (XB w3 (wr.setCell ⟨g, j, none⟩ (.int .u8 (((cc.getD j 0) ^^^ 255).toNat : Int))) a ca rr.length u2) := by
              have hbl := (unhide HI).kp
              refine ⟨⟨cc.set j ((cc.getD j 0) ^^^ 255), by simp [hcl], by rw [hg]; exact own_set8 hown j _⟩, ⟨hbl.os, hbl.tape, hbl.output, by simp [World.setCell]; exact hbl.size, fun i hi hn => (Below.heap_setCell _ _ _ i (by show i ≠ g; intro e; exact hn (by rw [hg, e]; rfl))).trans (hbl.block i hi hn)⟩, by simp [World.setCell]; exact (unhide HI).sz⟩
            generalize cc.getD j 0 = xx at *
            have hxx := u8xff xx
            clear hown hcl HI
            subst hg
            go_wp2
            go_roundw
            case rel => exact ⟨j + 1, by omega, by go_num, HNX⟩
            case measure => simp [intOf]; omega
          · obtain rfl : j = rr.length := by omega
            have hjl' : ¬ (rr.length : Int) < (rr.length : Int) := by omega
            clear hjl
            obtain ⟨w4, hw4⟩ : ∃ w4, w4 = wr := ⟨_, rfl⟩
            have HQ4 : Hid (PS w4 w.heap.size h3 P st (feW st W rr) ∧ RS w4 h3 X st W y cy ∧ Below w.heap.size w w4 ∧ w4.heap[u]? = some (.cells #[.int .i64 ob, .slice x rr.length c] 32 (0, 0))) := by
              obtain ⟨q1, q2, q3⟩ := unhide HQ3
              obtain ⟨t1, t2, t3⟩ := unhide HG3
              have kp := (unhide HI).kp
              have sz := (unhide HI).sz
              rw [← hw4] at kp sz
              have hlo := q1.lo
              refine ⟨q1.ours kp.size (fun i h1 h2 => kp.block i h1 (fun e => by rw [(t3 i e).1] at h2; omega)) (fun _ _ => rfl) (fun i h1 h2 => by have := (hlo i h2).2; omega), q2.same kp.size (fun i h1 h2 h3 => kp.block i h1 (fun e => ?_)) (fun i _ h3 => h3), ?_, ?_⟩
              · have t4 := (t3 i e).2.1
                rcases h3 with h3 | h3
                · have := (unhide HNE).1; omega
                · have := (unhide HNE).2 i h3; omega
              · refine Kp.below q3 kp q3.size (fun i hi => ?_)
                exact (hlo i (by rw [(t3 i hi).1]; decide)).1
              · rw [kp.block u t2 (fun e => by have := (t3 u e).2.1; omega)]
                exact t1
            have v1 : w4.cell? ⟨u, 1, none⟩ = some (.slice x rr.length c) := cell_of_row _ _ _ _ _ _ (unhide HQ4).2.2.2
            have HRF := hide (rfeed_any w4 h3 X st W y cy (unhide HQ4).2.1 (unhide HLE) x c rr ((unhide HXW).below (unhide HQ4).2.2.1 (Nat.le_refl _)) (by omega))
            clear HI HQ3 HG3
            subst hw4
            go_wp2_with fail
            refine (unhide HRF).mono ?_
            rintro e w5 ⟨E2, rfl, HE2, HR5, HK5⟩
            obtain rfl : E2 = E := (unhide HE2).trans (unhide HEE).symm
            obtain ⟨y5, cy5, hr5⟩ := unhide HR5
            have HFE : Hid (FS w w5 P X (tag3 h3 w4.heap.size w5.heap.size) st (feW st W rr) y5 cy5) :=
              ⟨(unhide HQ4).1.kp (unhide HQ4).2.1.tX (unhide HK5) (unhide HQ4).2.2.1.size, hr5, fe_len st W rr (unhide HLE), Kp.below (unhide HQ4).2.2.1 (unhide HK5) (unhide HQ4).2.2.1.size (fun i hi => by have e : i = X := hi; rw [e]; exact ((unhide HQ4).1.lo X (by rw [(unhide HQ4).2.1.tX]; decide)).1)⟩
            have hee : ((E2 : Int) != (E2 : Int)) = false := by simp
            clear hr5 HR5 HK5 HRF HQ4 v1 HE2 HEE HLE HNE
            have k0 : w5.cell? ⟨X, 0, none⟩ = some (.slice y5 (feW st W rr).length cy5) := cell_of_row _ _ _ _ _ _ (unhide HFE).rs.row
            obtain ⟨m5, hm5⟩ : ∃ m, m = (feW st W rr).length := ⟨_, rfl⟩
            have HWA : Hid (Calls Tryz.prog 20 #[pt P] w5.drew fun e w' => e = .returned (.int .i64 (m5 : Int)) ∧ w' = w5.drew) := by
              rw [hm5]
              exact pwait_any w5.drew _ _ P _ _ ((unhide HFE).ps.ours (Nat.le_refl _) (fun _ _ _ => rfl) (fun _ _ => rfl) (fun k hk hn => by have h1 : w5.heap.size ≤ k := hk; have h2 := ((unhide HFE).ps.lo k hn).2; omega))
            have HFD : Hid (∃ h st W y cy, FS w w5.drew P X h st W y cy) := ⟨_, _, _, _, _, (unhide HFE).new (Below.refl w5.heap.size w5).drew⟩
            rw [← hm5] at k0
            have hmm : ((m5 : Int) != (m5 : Int)) = false := by simp
            clear HFE hm5
            go_upto_region 29 with fail
            go_region_held3 (fun w' => w'.cell? ⟨X, 0, none⟩ = some (.slice y5 m5 cy5)) (first | exact k0 | go_keep) ((first
              | (go_at_call 20; refine (unhide HWA).mono ?_; rintro e wq ⟨rfl, rfl⟩)
              | fail))
            go_wp2_with fail
            go_roundw
            case rel => exact ⟨k + 1, by omega, by go_num, HFD⟩
            case measure => simp [intOf]; omega
      | 1, _ =>
        have hq : wrap64 ((IntKind.u64.wrap ob).tmod 4) = 1 := hq
        have HPF := hide (pfeed_any w2 w.heap.size h2 P st W (unhide HF2).ps (unhide HF2).hl a ca rr (unhide HO2).1.toBs (by omega) (unhide HF2).bl.size)
        go_wp2_with fail
        refine (unhide HPF).mono ?_
        rintro e w3 ⟨E, rfl, HEE, HP3⟩
        obtain ⟨h3, hp3, hf3⟩ := unhide HP3
        have HQ3 : Hid (PS w3 w.heap.size h3 P st (feW st W rr) ∧ RS w3 h3 X st W y cy ∧ Below w.heap.size w w3) := ⟨hp3, (unhide HF2).rs.prog hf3, (unhide HF2).bl.trans hf3.below⟩
        have HG3 : Hid (w3.heap[wr.heap.size]? = some (.cells #[.int .i64 ob, .slice x rr.length c] 32 (0, 0)) ∧ wr.heap.size < w3.heap.size ∧ ∀ k, blk a = some k → h3 k = 3 ∧ wr.heap.size < k ∧ k < w3.heap.size) := by
          refine ⟨(hf3.block _ (by rw [(unhide HO2).2.2]; decide)).trans (unhide HG), Nat.lt_of_lt_of_le (unhide HZ2) hf3.size, fun k hk => ?_⟩
          obtain ⟨t1, t2, t3⟩ := (unhide HO2).2.1 k hk
          exact ⟨by rw [hf3.tag k (by omega)]; exact t1, by omega, Nat.lt_of_lt_of_le t3 hf3.size⟩
        have HXB0 : Hid (XB w3 w3 a ca rr.length wd.heap.size) := ⟨⟨rr, rfl, (unhide HO2).1.same (fun k hk => hf3.block k (by rw [((unhide HO2).2.1 k hk).1]; decide))⟩, Kp.of (Below.refl _ _), rfl⟩
        have HLE := hide (unhide HF2).hl
        clear hp3 hf3 HP3 HPF HF2 HG HZ2 HO2 g0
        obtain ⟨u, hu⟩ : ∃ u, u = wr.heap.size := ⟨_, rfl⟩
        rw [← hu] at HG3 HNE
        obtain ⟨u2, hu2⟩ : ∃ u, u = wd.heap.size := ⟨_, rfl⟩
        rw [← hu2] at HXB0
        go_wp2_with fail
        rw [← hu]
        clear hu hu2 hzd
        clear wd
        go_loopw [56] (fun i wx => ∃ j : Nat, j ≤ rr.length ∧ i = .int .i64 (j : Int) ∧ Hid (XB w3 wx a ca rr.length u2)) (fun i _ => rr.length - (intOf i).toNat)
        case atStart => exact ⟨0, Nat.zero_le _, rfl, HXB0⟩
        case round =>
          clear HXB0
          obtain ⟨j, hj, rfl, HI⟩ := hrel
          by_cases hjl : j < rr.length
          · have hjl' : (j : Int) < (rr.length : Int) := by omega
            obtain ⟨cc, hcl, hown⟩ := (unhide HI).own
            obtain ⟨g, hg⟩ : ∃ g, a = some ⟨g, 0, none⟩ := by
              rcases hown.cases with ⟨_, _, h⟩ | ⟨g, cur, h, _⟩
              · rw [h] at hcl; simp at hcl; omega
              · exact ⟨g, h⟩
            have HGE : Hid (a = some ⟨g, 0, none⟩) := hg
            rw [hg] at hown
            have hck : wr.cell? ⟨g, j, none⟩ = some (.int .u8 ((cc.getD j 0).toNat : Int)) := by
              obtain ⟨bb, off, hae, hcell⟩ := hown.toBs.row (by intro e; rw [e] at hcl; simp at hcl; omega)
              simp only [Option.some.injEq, Addr.mk.injEq, and_true] at hae
              obtain ⟨rfl, rfl⟩ := hae
              have := hcell j (by omega)
              rw [Nat.zero_add] at this
              exact this
            have hfz : wr.frozen? ⟨g, j, none⟩ = false := by
              rcases hown.cases with ⟨h, _⟩ | ⟨g', cur, h, _, hg', _⟩
              · cases h
              · cases h; exact frozen_of_row wr g j _ _ hg'
            have HNX : Hid (XB w3 (wr.setCell ⟨g, j, none⟩ (.int .u8 (((cc.getD j 0) ^^^ 255).toNat : Int))) a ca rr.length u2) := by
              have hbl := (unhide HI).kp
              refine ⟨⟨cc.set j ((cc.getD j 0) ^^^ 255), by simp [hcl], by rw [hg]; exact own_set8 hown j _⟩, ⟨hbl.os, hbl.tape, hbl.output, by simp [World.setCell]; exact hbl.size, fun i hi hn => (Below.heap_setCell _ _ _ i (by show i ≠ g; intro e; exact hn (by rw [hg, e]; rfl))).trans (hbl.block i hi hn)⟩, by simp [World.setCell]; exact (unhide HI).sz⟩
            generalize cc.getD j 0 = xx at *
            have hxx := u8xff xx
            clear hown hcl HI
            subst hg
            go_wp2
            go_roundw
            case rel => exact ⟨j + 1, by omega, by go_num, HNX⟩
            case measure => simp [intOf]; omega
          · obtain rfl : j = rr.length := by omega
            have hjl' : ¬ (rr.length : Int) < (rr.length : Int) := by omega
            clear hjl
            obtain ⟨w4, hw4⟩ : ∃ w4, w4 = wr := ⟨_, rfl⟩
            have HQ4 : Hid (PS w4 w.heap.size h3 P st (feW st W rr) ∧ RS w4 h3 X st W y cy ∧ Below w.heap.size w w4 ∧ w4.heap[u]? = some (.cells #[.int .i64 ob, .slice x rr.length c] 32 (0, 0))) := by
              obtain ⟨q1, q2, q3⟩ := unhide HQ3
              obtain ⟨t1, t2, t3⟩ := unhide HG3
              have kp := (unhide HI).kp
              have sz := (unhide HI).sz
              rw [← hw4] at kp sz
              have hlo := q1.lo
              refine ⟨q1.ours kp.size (fun i h1 h2 => kp.block i h1 (fun e => by rw [(t3 i e).1] at h2; omega)) (fun _ _ => rfl) (fun i h1 h2 => by have := (hlo i h2).2; omega), q2.same kp.size (fun i h1 h2 h3 => kp.block i h1 (fun e => ?_)) (fun i _ h3 => h3), ?_, ?_⟩
              · have t4 := (t3 i e).2.1
                rcases h3 with h3 | h3
                · have := (unhide HNE).1; omega
                · have := (unhide HNE).2 i h3; omega
              · refine Kp.below q3 kp q3.size (fun i hi => ?_)
                exact (hlo i (by rw [(t3 i hi).1]; decide)).1
              · rw [kp.block u t2 (fun e => by have := (t3 u e).2.1; omega)]
                exact t1
            have v1 : w4.cell? ⟨u, 1, none⟩ = some (.slice x rr.length c) := cell_of_row _ _ _ _ _ _ (unhide HQ4).2.2.2
            have HRF := hide (rfeed_any w4 h3 X st W y cy (unhide HQ4).2.1 (unhide HLE) x c rr ((unhide HXW).below (unhide HQ4).2.2.1 (Nat.le_refl _)) (by omega))
            clear HI HQ3 HG3
            subst hw4
            go_wp2_with fail
            refine (unhide HRF).mono ?_
            rintro e w5 ⟨E2, rfl, HE2, HR5, HK5⟩
            obtain rfl : E2 = E := (unhide HE2).trans (unhide HEE).symm
            obtain ⟨y5, cy5, hr5⟩ := unhide HR5
            have HFE : Hid (FS w w5 P X (tag3 h3 w4.heap.size w5.heap.size) st (feW st W rr) y5 cy5) :=
              ⟨(unhide HQ4).1.kp (unhide HQ4).2.1.tX (unhide HK5) (unhide HQ4).2.2.1.size, hr5, fe_len st W rr (unhide HLE), Kp.below (unhide HQ4).2.2.1 (unhide HK5) (unhide HQ4).2.2.1.size (fun i hi => by have e : i = X := hi; rw [e]; exact ((unhide HQ4).1.lo X (by rw [(unhide HQ4).2.1.tX]; decide)).1)⟩
            have hee : ((E2 : Int) != (E2 : Int)) = false := by simp
            clear hr5 HR5 HK5 HRF HQ4 v1 HE2 HEE HLE HNE
            have k0 : w5.cell? ⟨X, 0, none⟩ = some (.slice y5 (feW st W rr).length cy5) := cell_of_row _ _ _ _ _ _ (unhide HFE).rs.row
            obtain ⟨m5, hm5⟩ : ∃ m, m = (feW st W rr).length := ⟨_, rfl⟩
            have HWA : Hid (Calls Tryz.prog 20 #[pt P] w5.drew fun e w' => e = .returned (.int .i64 (m5 : Int)) ∧ w' = w5.drew) := by
              rw [hm5]
              exact pwait_any w5.drew _ _ P _ _ ((unhide HFE).ps.ours (Nat.le_refl _) (fun _ _ _ => rfl) (fun _ _ => rfl) (fun k hk hn => by have h1 : w5.heap.size ≤ k := hk; have h2 := ((unhide HFE).ps.lo k hn).2; omega))
            have HFD : Hid (∃ h st W y cy, FS w w5.drew P X h st W y cy) := ⟨_, _, _, _, _, (unhide HFE).new (Below.refl w5.heap.size w5).drew⟩
            rw [← hm5] at k0
            have hmm : ((m5 : Int) != (m5 : Int)) = false := by simp
            clear HFE hm5
            go_upto_region 29 with fail
            go_region_held3 (fun w' => w'.cell? ⟨X, 0, none⟩ = some (.slice y5 m5 cy5)) (first | exact k0 | go_keep) ((first
              | (go_at_call 20; refine (unhide HWA).mono ?_; rintro e wq ⟨rfl, rfl⟩)
              | fail))
            go_wp2_with fail
            go_roundw
            case rel => exact ⟨k + 1, by omega, by go_num, HFD⟩
            case measure => simp [intOf]; omega
      | 2, _ =>
        have hq : wrap64 ((IntKind.u64.wrap ob).tmod 4) = 2 := hq
        have HPN := hide (pnext_any w2 w.heap.size h2 P st W (unhide HF2).ps (unhide HF2).hl ((unhide HE).below (unhide HF2).bl) (unhide HE).le (unhide HF2).bl.size)
        go_wp2_with fail
        refine (unhide HPN).mono ?_
        rintro e w3 ⟨Q, hp, hc, bp, bc, S, rfl, HQS, HHB, HP3⟩
        obtain ⟨h3, hp3, hf3, ht1, ht2⟩ := unhide HP3
        obtain ⟨o, ho⟩ : ∃ o, o = Obj.cells #[.string (str Q.m), .string (str Q.p), .slice hp Q.h.length hc, .slice bp Q.b.length bc] 39 := ⟨_, rfl⟩
        obtain ⟨w3a, hw3a⟩ : ∃ v, v = w3.alloc o := ⟨_, rfl⟩
        have hb3 : Below w3.heap.size w3 w3a := by rw [hw3a]; exact (Below.refl _ _).alloc (Nat.le_refl _) _
        have hr3 : w3a.heap[w3.heap.size]? = some (.cells #[.string (str Q.m), .string (str Q.p), .slice hp Q.h.length hc, .slice bp Q.b.length bc] 39 (0, 0)) := by rw [hw3a, ho]; exact heap_alloc_new w3 _
        have hX3 := ((unhide HF2).rs.prog hf3).lt
        have hrs3 : RS w3a (tag3 h3 w3.heap.size w3a.heap.size) X st W y cy := ((unhide HF2).rs.prog hf3).same hb3.size (fun k hk _ _ => hb3.block k hk) (fun k hk e => by rw [tag3_lo k hk]; exact e)
        have hps3 : PS w3a w.heap.size (tag3 h3 w3.heap.size w3a.heap.size) P (nxT st W) (nxW st W) := hp3.ours hb3.size (fun k hk _ => hb3.block k hk) (fun k hk => tag3_lo k hk) (tag3_hi (Nat.le_trans (unhide HF2).bl.size hf3.size))
        obtain ⟨h3a, hh3a⟩ : ∃ f, f = tag3 h3 w3.heap.size w3a.heap.size := ⟨_, rfl⟩
        rw [← hh3a] at hrs3 hps3
        clear hh3a
        have hbl3 : Below w.heap.size w w3a := ((unhide HF2).bl.trans hf3.below).trans (hb3.mono (Nat.le_trans (unhide HF2).bl.size hf3.size))
        have hpx : (∀ k, blk hp = some k → k ≠ X ∧ k < w3a.heap.size) ∧ (∀ k, blk bp = some k → k ≠ X ∧ k < w3a.heap.size) := by
          have tX := ((unhide HF2).rs.prog hf3).tX
          refine ⟨fun k hk => ?_, fun k hk => ?_⟩
          · have := ht1 k hk
            exact ⟨fun e => by rw [e, tX] at this; omega, Nat.lt_of_lt_of_le (hp3.lo k (by omega)).2 hb3.size⟩
          · have := ht2 k hk
            exact ⟨fun e => by rw [e, tX] at this; omega, Nat.lt_of_lt_of_le (hp3.lo k (by omega)).2 hb3.size⟩
        have HHB3 : Hid (HdR w3a hp Q.h ∧ Bs w3a bp bc Q.b ∧ w3a.heap[w3.heap.size]? = some (.cells #[.string (str Q.m), .string (str Q.p), .slice hp Q.h.length hc, .slice bp Q.b.length bc] 39 (0, 0)) ∧ w3.heap.size ≠ X) := ⟨(unhide HHB).1.below hb3 (Nat.le_refl _), (unhide HHB).2.below hb3 (Nat.le_refl _), hr3, by omega⟩
        have HS3 : Hid (PS w3a w.heap.size h3a P (nxT st W) (nxW st W) ∧ RS w3a h3a X st W y cy ∧ Below w.heap.size w w3a ∧ w3.heap.size < w3a.heap.size) := ⟨hps3, hrs3, hbl3, (Array.getElem?_eq_some_iff.1 hr3).1⟩
        have HPX := hide hpx
        have HRN := hide (rnext_any w3a h3a X st W y cy hrs3 (unhide HF2).ps.nil (unhide HF2).hl)
        have HLE := hide (unhide HF2).hl
        have HQl : Hid (Q.h.length ≤ 32 ∧ Q.b.length ≤ 32768) := by
          show _ ∧ _
          rw [(unhide HQS).1]
          unfold nxQ
          split
          · simp [Rq.nil]
          · exact pM_hl W
        rw [ho] at hw3a
        clear ho HPN HP3 hp3 hf3 ht1 ht2 hb3 hr3 hX3 hrs3 hps3 hbl3 hpx HHB HF2 HG HZ2 HO2 g0 o hzd
        obtain ⟨u, hu⟩ : ∃ u, u = w3.heap.size := ⟨_, rfl⟩
        rw [← hu] at HHB3 HS3
        go_upto_region 26 with fail
        rw [← hw3a, ← hu]
        clear hw3a hu
        go_wp2_with fail
        refine (unhide HRN).mono ?_
        rintro e w4 ⟨Q2, hp2, hc2, bp2, bc2, S2, rfl, HQS2, HHB2, HR4, HK4⟩
        obtain rfl : Q2 = Q := (unhide HQS2).1.trans (unhide HQS).1.symm
        obtain rfl : S2 = S := (unhide HQS2).2.trans (unhide HQS).2.symm
        obtain ⟨y5, cy5, hr4⟩ := unhide HR4
        obtain ⟨o, ho⟩ : ∃ o, o = Obj.cells #[.string (str Q2.m), .string (str Q2.p), .slice hp2 Q2.h.length hc2, .slice bp2 Q2.b.length bc2] 39 := ⟨_, rfl⟩
        obtain ⟨w5, hw5⟩ : ∃ v, v = w4.alloc o := ⟨_, rfl⟩
        have hb5 : Below w4.heap.size w4 w5 := by rw [hw5]; exact (Below.refl _ _).alloc (Nat.le_refl _) _
        have hr5 : w5.heap[w4.heap.size]? = some (.cells #[.string (str Q2.m), .string (str Q2.p), .slice hp2 Q2.h.length hc2, .slice bp2 Q2.b.length bc2] 39 (0, 0)) := by rw [hw5, ho]; exact heap_alloc_new w4 _
        have HF4 : Hid (FS w w4 P X (tag3 h3a w3a.heap.size w4.heap.size) (nxT st W) (nxW st W) y5 cy5) :=
          ⟨(unhide HS3).1.kp (unhide HS3).2.1.tX (unhide HK4) (unhide HS3).2.2.1.size, hr4, nx_len st W (unhide HLE), Kp.below (unhide HS3).2.2.1 (unhide HK4) (unhide HS3).2.2.1.size (fun i hi => by have e : i = X := hi; rw [e]; exact ((unhide HS3).1.lo X (by rw [(unhide HS3).2.1.tX]; decide)).1)⟩
        have HF5 := hide ((unhide HF4).new hb5)
        have hu5 : w5.heap[u]? = some (.cells #[.string (str Q2.m), .string (str Q2.p), .slice hp Q2.h.length hc, .slice bp Q2.b.length bc] 39 (0, 0)) := by
          have h1 := (unhide HS3).2.2.2
          rw [hb5.block u (Nat.lt_of_lt_of_le h1 (unhide HK4).size), (unhide HK4).block u h1 (unhide HHB3).2.2.2]
          exact (unhide HHB3).2.2.1
        have hH5 : HdR w5 hp Q2.h := ((unhide HHB3).1.same (fun k hk hl => (unhide HK4).block k hl ((unhide HPX).1 k hk).1)).below hb5 (Nat.le_refl _)
        have hB5 : Bs w5 bp bc Q2.b := ((unhide HK4).bs (unhide HHB3).2.1 (fun k hk => ((unhide HPX).2 k hk).1)).below hb5 (Nat.le_refl _)
        have HSQ := hide (same_eq Q2.m Q2.p Q2.h Q2.b hp hp2 bp bp2 hc hc2 bc bc2 w5 hH5 ((unhide HHB2).1.below hb5 (Nat.le_refl _)) hB5 ((unhide HHB2).2.below hb5 (Nat.le_refl _)) (by have := (unhide HQl).1; omega) (by have := (unhide HQl).2; omega))
        have m0 : w5.cell? ⟨u, 0, none⟩ = some (.string (str Q2.m)) := cell_of_row _ _ _ _ _ _ hu5
        have m1 : w5.cell? ⟨u, 1, none⟩ = some (.string (str Q2.p)) := cell_of_row _ _ _ _ _ _ hu5
        have m2 : w5.cell? ⟨u, 2, none⟩ = some (.slice hp Q2.h.length hc) := cell_of_row _ _ _ _ _ _ hu5
        have m3 : w5.cell? ⟨u, 3, none⟩ = some (.slice bp Q2.b.length bc) := cell_of_row _ _ _ _ _ _ hu5
        have n0 : w5.cell? ⟨w4.heap.size, 0, none⟩ = some (.string (str Q2.m)) := cell_of_row _ _ _ _ _ _ hr5
        have n1 : w5.cell? ⟨w4.heap.size, 1, none⟩ = some (.string (str Q2.p)) := cell_of_row _ _ _ _ _ _ hr5
        have n2 : w5.cell? ⟨w4.heap.size, 2, none⟩ = some (.slice hp2 Q2.h.length hc2) := cell_of_row _ _ _ _ _ _ hr5
        have n3 : w5.cell? ⟨w4.heap.size, 3, none⟩ = some (.slice bp2 Q2.b.length bc2) := cell_of_row _ _ _ _ _ _ hr5
        have hss : ((S2 : Int) != (S2 : Int)) = false := by simp
        rw [ho] at hw5
        clear ho hb5 hr5 hu5 hH5 hB5 hr4 HR4 HK4 HS3 HF4 HHB2 HHB3 HPX HRN HQS HQS2 HQl HLE HNE o
        go_upto_region 27 with fail
        rw [← hw5]
        clear hw5
        go_wp2_with fail
        refine (unhide HSQ).mono ?_
        rintro e w6 ⟨rfl, HB6⟩
        have HFE := hide ((unhide HF5).new (unhide HB6))
        clear HSQ HF5 HB6 m0 m1 m2 m3 n0 n1 n2 n3

        have k0 : w6.cell? ⟨X, 0, none⟩ = some (.slice y5 (nxW st W).length cy5) := cell_of_row _ _ _ _ _ _ (unhide HFE).rs.row
        obtain ⟨m5, hm5⟩ : ∃ m, m = (nxW st W).length := ⟨_, rfl⟩
        have HWA : Hid (Calls Tryz.prog 20 #[pt P] w6.drew fun e w' => e = .returned (.int .i64 (m5 : Int)) ∧ w' = w6.drew) := by
          rw [hm5]
          exact pwait_any w6.drew _ _ P _ _ ((unhide HFE).ps.ours (Nat.le_refl _) (fun _ _ _ => rfl) (fun _ _ => rfl) (fun k hk hn => by have h1 : w6.heap.size ≤ k := hk; have h2 := ((unhide HFE).ps.lo k hn).2; omega))
        have HFD : Hid (∃ h st W y cy, FS w w6.drew P X h st W y cy) := ⟨_, _, _, _, _, (unhide HFE).new (Below.refl w6.heap.size w6).drew⟩
        rw [← hm5] at k0
        have hmm : ((m5 : Int) != (m5 : Int)) = false := by simp
        clear HFE hm5
        go_upto_region 29 with fail
        go_region_held3 (fun w' => w'.cell? ⟨X, 0, none⟩ = some (.slice y5 m5 cy5)) (first | exact k0 | go_keep) ((first
          | (go_at_call 20; refine (unhide HWA).mono ?_; rintro e wq ⟨rfl, rfl⟩)
          | fail))
        go_wp2_with fail
        go_roundw
        case rel => exact ⟨k + 1, by omega, by go_num, HFD⟩
        case measure => simp [intOf]; omega
      | 3, _ =>
        have hq : wrap64 ((IntKind.u64.wrap ob).tmod 4) = 3 := hq
        have HP2 : Hid (PS w2.drew w.heap.size h2 P st W) := (unhide HF2).ps.ours (Nat.le_refl _) (fun _ _ _ => rfl) (fun _ _ => rfl) (fun k hk hn => by have h1 : w2.heap.size ≤ k := hk; have h2 := ((unhide HF2).ps.lo k hn).2; omega)
        have HR2 : Hid (RS w2.drew h2 X st W y cy) := (unhide HF2).rs.same (Nat.le_refl _) (fun _ _ _ _ => rfl) (fun _ _ h => h)
        have HB2 : Hid (Below w.heap.size w w2.drew) := (unhide HF2).bl.drew
        have HPR := hide (prest_any w2.drew w.heap.size h2 P st W (unhide HP2) (unhide HB2).size)
        have k0 : w2.cell? ⟨X, 0, none⟩ = some (.slice y W.length cy) := cell_of_row _ _ _ _ _ _ (unhide HF2).rs.row
        have HLE := hide (unhide HF2).hl
        clear HF2 HG HZ2 HO2 HNE hzd
        go_upto_region 11 with fail
        go_region_held3 (fun w' => w'.cell? ⟨X, 0, none⟩ = some (.slice y W.length cy)) (first | exact S4 | exact S3 | exact k0 | go_keep) ((first
          | (go_at_call 19; refine (unhide HPR).mono ?_; rintro e w3 ⟨x3, c3, rfl, HB3, HP3⟩; have HR3 : Hid (∃ h3, PS w3 w.heap.size h3 P st [] ∧ RS w3 h3 X st W y cy ∧ Below w.heap.size w w3) := (by obtain ⟨h3, hp3, hf3⟩ := unhide HP3; exact ⟨h3, hp3, (unhide HR2).prog hf3, (unhide HB2).trans hf3.below⟩); have S3 : w3.cell? ⟨X, 0, none⟩ = some (.slice y W.length cy) := (by obtain ⟨h3, _, hr3, _⟩ := unhide HR3; exact cell_of_row _ _ _ _ _ _ hr3.row); have HEQ := hide (eq8_same x3 c3 y cy W w3 (unhide HB3) (by obtain ⟨h3, _, hr3, _⟩ := unhide HR3; exact hr3.bs) (by have := unhide HLE; omega)))
          | (go_at_call 18; refine (unhide HEQ).mono ?_; rintro e w4 ⟨rfl, HB4⟩; have HR4 : Hid (∃ h4, PS w4 w.heap.size h4 P st [] ∧ RS w4 h4 X st W y cy ∧ Below w.heap.size w w4) := (by obtain ⟨h3, hp3, hr3, hb3⟩ := unhide HR3; exact ⟨tag3 h3 w3.heap.size w4.heap.size, hp3.ours (unhide HB4).size (fun k hk _ => (unhide HB4).block k hk) (fun k hk => tag3_lo k hk) (tag3_hi hb3.size), hr3.same (unhide HB4).size (fun k hk _ _ => (unhide HB4).block k hk) (fun k hk e => by rw [tag3_lo k hk]; exact e), hb3.trans ((unhide HB4).mono hb3.size)⟩); have S4 : w4.cell? ⟨X, 0, none⟩ = some (.slice y W.length cy) := (by obtain ⟨h4, _, hr4, _⟩ := unhide HR4; exact cell_of_row _ _ _ _ _ _ hr4.row))
          | fail))
        clear HPR HP2 HR2 HB2 HEQ HR3 HB3 HB4 HP3 k0 S3
        obtain ⟨h4, hp4, hr4, hb4⟩ := unhide HR4
        have f0 := frozen_of_row w4 X 0 _ _ hr4.row
        obtain ⟨w5, hw5⟩ : ∃ v, v = w4.setCell ⟨X, 0, none⟩ (.slice none 0 0) := ⟨_, rfl⟩
        have HFE : Hid (FS w w5 P X h4 st [] none 0) := by
          have hne : ∀ k, k ≠ X → w5.heap[k]? = w4.heap[k]? := fun k hk => by rw [hw5]; exact Below.heap_setCell _ _ _ k hk
          have hz : w5.heap.size = w4.heap.size := by rw [hw5]; simp [World.setCell]
          have hlo := hp4.lo
          have hXb := (hlo X (by rw [hr4.tX]; decide)).1
          refine ⟨hp4.ours (by omega) (fun k h1 h2 => hne k (fun e => by rw [e, hr4.tX] at h2; omega)) (fun _ _ => rfl) (fun k h1 h2 => by have := (hlo k h2).2; omega), ⟨by rw [hw5, heap_setCell_same _ _ 0 _ _ _ hr4.row]; rfl, bs_none _, hr4.tX, fun k hk => by simp [blk] at hk⟩, by simp, ⟨by rw [hw5]; exact hb4.os, by rw [hw5]; exact hb4.tape, by rw [hw5]; exact hb4.output, by rw [hz]; exact hb4.size, fun k hk => (hne k (by omega)).trans (hb4.block k hk)⟩⟩
        clear hp4 hr4 hb4 HR4 HLE
        obtain ⟨y5, hy5⟩ : ∃ y5 : Option Addr, y5 = none := ⟨_, rfl⟩
        obtain ⟨cy5, hcy5⟩ : ∃ c5 : Nat, c5 = 0 := ⟨_, rfl⟩
        rw [← hy5, ← hcy5] at HFE
        clear hy5 hcy5
        go_wp2_with fail

        have k0 : w5.cell? ⟨X, 0, none⟩ = some (.slice y5 (([] : List UInt8)).length cy5) := cell_of_row _ _ _ _ _ _ (unhide HFE).rs.row
        obtain ⟨m5, hm5⟩ : ∃ m, m = (([] : List UInt8)).length := ⟨_, rfl⟩
        have HWA : Hid (Calls Tryz.prog 20 #[pt P] w5.drew fun e w' => e = .returned (.int .i64 (m5 : Int)) ∧ w' = w5.drew) := by
          rw [hm5]
          exact pwait_any w5.drew _ _ P _ _ ((unhide HFE).ps.ours (Nat.le_refl _) (fun _ _ _ => rfl) (fun _ _ => rfl) (fun k hk hn => by have h1 : w5.heap.size ≤ k := hk; have h2 := ((unhide HFE).ps.lo k hn).2; omega))
        have HFD : Hid (∃ h st W y cy, FS w w5.drew P X h st W y cy) := ⟨_, _, _, _, _, (unhide HFE).new (Below.refl w5.heap.size w5).drew⟩
        rw [← hm5] at k0
        have hmm : ((m5 : Int) != (m5 : Int)) = false := by simp
        clear HFE hm5
        go_upto_region 29 with fail
        rw [← hw5]
        clear hw5 f0 S4
        go_region_held3 (fun w' => w'.cell? ⟨X, 0, none⟩ = some (.slice y5 m5 cy5)) (first | exact k0 | go_keep) ((first
          | (go_at_call 20; refine (unhide HWA).mono ?_; rintro e wq ⟨rfl, rfl⟩)
          | fail))
        go_wp2_with fail
        go_roundw
        case rel => exact ⟨k + 1, by omega, by go_num, HFD⟩
        case measure => simp [intOf]; omega
    · obtain rfl : k = L.length := by omega
      have hlt' : ¬ (L.length : Int) < (L.length : Int) := by omega
      clear hlt
      go_wp2_with fail
      refine (awake8_any _ ((unhide HE).below (unhide HFS).bl)).mono ?_
      rintro e w2 ⟨rfl, HB2⟩
      have HBF := hide ((unhide HFS).bl.trans ((unhide HB2).mono (unhide HFS).bl.size))
      go_wp2_with fail
      go_ret
      exact ⟨rfl, HBF⟩
#print axioms feeds_any
theorem httpdFeeds_walk (a0 : Option Addr) (c0 : Nat) (l0 : List Fd9) (w : World) (h0 : FdR w a0 l0) (hE : EnvH w) :
    Calls Tryz.prog 3 #[.slice a0 l0.length c0] w fun e w' => e = .returned (.bool true) ∧ Below w.heap.size w w' :=
  (feeds_any w hE a0 c0 l0 h0).mono fun e w' h => ⟨h.1, unhide h.2⟩
end Go.Proofs.YtonaekkenggmbaaGreatDoor
end
