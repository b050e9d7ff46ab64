/-
  THE WALK OF DiskBegins.
-/
import Derived.Test.YtkhpjlgbiicdcaaDnB
set_option linter.unusedVariables false
namespace Go.Proofs.Ytkhpjlgbiicdcaa
open Go.RowKit Go.Maps

theorem DK.mono {w : World} {g : Nat → Tg} {i D : Nat} {M : Md} {N N' : Nat} (h : DK w g i D M N) (hN : N ≤ N') : DK w g i D M N' := by
  obtain ⟨J, h1, h2, h3⟩ := h
  exact ⟨J, h1, h2.mono hN, h3⟩

set_option maxHeartbeats 1000000 in
theorem hasPrefix_yes (a1 : Option Addr) (c1 : Nat) (l1 : List UInt8) (a2 : Option Addr) (c2 : Nat) (l2 : List UInt8) (w : World) (h1 : Bs w a1 c1 l1) (h2 : Bs w a2 c2 l2) (hp : l2 <+: l1) :
    Calls Try.prog 19 #[.slice a1 l1.length c1, .slice a2 l2.length c2] w fun e w' => e = .returned (.bool true) ∧ w' = w := by
  have hle := hp.length_le
  have hm := h1.most
  have hl := h1.le
  unfold maxLen at hm
  have hle' : ((l2.length : Nat) : Int) ≤ (l1.length : Int) := by omega
  have ht : l1.take l2.length = l2 := (List.prefix_iff_eq_take.1 hp).symm
  obtain ⟨xh, hh, hhB, -⟩ := cut_head a1 l1.length c1 l2.length l1 hle hl (fun h => by obtain ⟨b, off, e, _⟩ := h1.row h; exact ⟨b, off, e⟩)
  have hh1 := hh w
  have HB := hide (hhB w h1)
  have HT := hide ht
  clear hh hhB ht
  go_enter Try.func19, Try.ntmps19
  go_wp2_with fail
  refine (equal_any xh l2.length c1 (l1.take l2.length) a2 l2.length c2 l2 w (unhide HB).row h2.row (by simp; omega) rfl).mono ?_
  rintro e w' ⟨rfl, rfl⟩
  rw [show (l1.take l2.length == l2) = true by rw [unhide HT]; simp]
  go_wp2
  go_ret
  exact ⟨rfl, rfl⟩

/-- The calls that DiskBegins does not do. -/
def skipB (nm : Nm) (d : Dm) : Bool := (decide (d.n = nm) && (decide (d.r = 3) || decide (d.r = 4))) || decide (5 ≤ d.r)
def Md.runsB (M : Md) (nm : Nm) (l : List Dm) : Md := M.runs (l.filter (fun d => !(skipB nm d)))
theorem Md.runsB_take (M : Md) (nm : Nm) (l : List Dm) (k : Nat) (d : Dm) (h : l[k]? = some d) : M.runsB nm (l.take (k + 1)) = if skipB nm d = true then M.runsB nm (l.take k) else (M.runsB nm (l.take k)).does d := by
  unfold Md.runsB Md.runs
  rw [List.take_add_one, h, List.filter_append, List.foldl_append]
  by_cases h5 : skipB nm d = true
  · rw [if_pos h5]; simp [h5]
  · rw [if_neg h5]; simp [h5]
theorem Bg.runsB {nm : Nm} {was : List UInt8} {M : Md} (h : Bg nm was M) (l : List Dm) : Bg nm was (M.runsB nm l) := by
  unfold Md.runsB Md.runs
  induction l generalizing M with
  | nil => exact h
  | cons d r ih =>
    by_cases hs : skipB nm d = true
    · rw [List.filter_cons_of_neg (by simp [hs])]
      exact ih h
    · rw [List.filter_cons_of_pos (by simp [hs])]
      refine ih (h.does d ?_ ?_)
      · unfold skipB at hs
        simp at hs
        omega
      · rintro ⟨a1, a2⟩
        apply hs
        unfold skipB
        rcases a2 with a2 | a2 <;> simp [a1, a2]
#print axioms hasPrefix_yes

/-- Bytes that belong to no disk. -/
def Aw (w : World) (g : Nat → Tg) (y : Option Addr) (c : Nat) (l : List UInt8) : Prop := Bs w y c l ∧ ∀ k, blk y = some k → k < w.heap.size ∧ g k = .o
theorem Aw.st {w w' : World} {g g' : Nat → Tg} {i : Nat} {y : Option Addr} {c : Nat} {l : List UInt8} (h : Aw w g y c l) (x : St w w' g g' (fun t => t.of i)) : Aw w' g' y c l :=
  ⟨h.1.st x (fun k hk => by rw [(h.2 k hk).2]; exact fun e => e), fun k hk => ⟨Nat.lt_of_lt_of_le (h.2 k hk).1 x.size, (x.ag k (h.2 k hk).1).trans (h.2 k hk).2⟩⟩
theorem Aw.below {w w' : World} {g : Nat → Tg} {y : Option Addr} {c : Nat} {l : List UInt8} (h : Aw w g y c l) (b : Below w.heap.size w w') : Aw w' g y c l :=
  ⟨h.1.below b (Nat.le_refl _), fun k hk => ⟨Nat.lt_of_lt_of_le (h.2 k hk).1 b.size, (h.2 k hk).2⟩⟩
theorem aw_new {w w' : World} {y : Option Addr} {c : Nat} {l : List UInt8} (g : Nat → Tg) (o : OwnB w' w.heap.size y c l) (b : Below w.heap.size w w') : ∃ g', St w w' g g' (fun t => t.of 7) ∧ Aw w' g' y c l := by
  refine ⟨fun k => if k < w.heap.size then g k else .o, (St.ofBelow g _ b).tag (fun k hk => by simp [hk]), o.toBs, fun k hk => ?_⟩
  have := o.lt k hk
  exact ⟨this.2, if_neg (by omega)⟩

set_option maxRecDepth 20000 in
set_option maxHeartbeats 4000000 in
theorem diskBegins_walk (room : Int) (p : Option Addr) (c : Nat) (l : List Dm) (nm : Nm) (q : Option Addr) (qc : Nat) (more : List Dm) (kp : Option Addr) (kc : Nat) (kl : List Bool) (tear : Int) (w : World) (hR : DoR w p l) (hn : nm.length ≤ maxLen) (hQ : DoR w q more) (hK : BRow w kp kl) (hkm : kl.length ≤ maxLen) :
    Calls Try.prog 4 #[.int .i64 room, .slice p l.length c, .string (str nm), .slice q more.length qc, .slice kp kl.length kc, .int .i64 tear] w fun e w' => e = .returned (.bool true) ∧ Below w.heap.size w w' := by
  obtain ⟨M, hM⟩ : ∃ M, M = (Md.new (room % 1048576)).runs l := ⟨_, rfl⟩
  have hI : Inv M := by rw [hM]; exact (Inv.new _).runs l
  have HM := hide hM
  have hql := hQ.le
  unfold maxLen at hql
  clear hM
  go_enter Try.func4, Try.ntmps4
  go_wp2_with fail
  refine (made_k w (fun _ => .o) 0 room p c l w hR (LW.start w)).mono ?_
  rintro e w1 ⟨D, g1, rfl, d1, L1, -⟩
  rw [← unhide HM] at d1
  cases hsb : shortB l with
  | false =>
    have L1' := hide L1
    clear hsb d1 L1 hI
    go_wp2_with fail
    refine (awake_true _).mono ?_
    rintro e v ⟨rfl, hb⟩
    have hb2 := hide ((unhide L1').below.trans (hb.mono (unhide L1').below.size))
    go_wp2
    go_ret
    exact ⟨rfl, unhide hb2⟩
  | true =>
    have hlen := (shortB_len hsb).1
    have d1 := d1 hsb
    clear hsb
    go_wp2_with fail
    refine (short_any q qc more w1 (hQ.below L1.below (Nat.le_refl _))).mono ?_
    rintro e w1' ⟨rfl, rfl⟩
    cases hsm : shortB more with
    | false =>
      have L1' := hide L1
      clear hsm d1 L1 hI
      go_wp2_with fail
      refine (awake_true _).mono ?_
      rintro e v ⟨rfl, hb⟩
      have hb2 := hide ((unhide L1').below.trans (hb.mono (unhide L1').below.size))
      go_wp2
      go_ret
      exact ⟨rfl, unhide hb2⟩
    | true =>
      obtain ⟨hml, hmb⟩ := shortB_len hsm
      clear hsm
      go_wp2_with fail
      refine (sync_k g1 0 D M _ nm w1' d1 (by omega) hn).mono ?_
      rintro e w2 ⟨rfl, g2, d2, S2⟩
      have L2 := L1.st S2
      clear d1 L1 S2
      by_cases ht : M.thereE nm = 0
      · rw [ht]
        obtain ⟨hBg, hrd, hsn⟩ := bg_start hI nm ht
        have hnm := (there_name ht).1
        have hI1 := hI.sync nm
        obtain ⟨was, hwas⟩ : ∃ was, was = M.readB nm := ⟨_, rfl⟩
        rw [← hwas] at hBg hrd
        generalize M.sync nm = M1 at *
        have HBg := hide hBg
        clear HM hwas hBg hsn ht hI
        go_wp2_with fail
        refine (read_k g2 0 D M1 _ nm w2 d2 (by omega) hn).mono ?_
        rintro e w3 ⟨yw, cw, rfl, ow, b3⟩
        rw [hrd] at ow
        rw [hrd]
        obtain ⟨g3, x3, aw⟩ := aw_new g2 ow b3
        have D3 := hide (d2.st x3 (by omega))
        have L3 := hide (L2.st x3)
        have A3 := hide aw
        clear d2 L2 ow b3 x3 aw hrd
        go_wp2
        go_loopw [54] (fun v wr => ∃ (k : Nat) (gk : Nat → Tg), k ≤ more.length ∧ v = .int .i64 (k : Int) ∧ Hid (DK wr gk 0 D (M1.runsB nm (more.take k)) (l.length + 1 + k)) ∧ Hid (LW w wr gk) ∧ Hid (Aw wr gk yw cw was)) (fun v _ => more.length - (intOf v).toNat)
        case atStart => exact ⟨0, g3, Nat.zero_le _, rfl, D3, L3, A3⟩
        case round =>
          obtain ⟨k, gk, hk, rfl, HD, HL, HA⟩ := hrel
          by_cases hlt : k < more.length
          · have hlt2 : (k : Int) < (more.length : Int) := by omega
            obtain ⟨d, hd⟩ : ∃ d, more[k]? = some d := ⟨_, List.getElem?_eq_getElem hlt⟩
            obtain ⟨b, off, hp, hc⟩ := (hQ.below (unhide HL).below (Nat.le_refl _)).mem (by intro e; subst e; simp at hd)
            obtain ⟨a, hv, c0, c1, c2, c3, c4⟩ := hc k d hd
            subst hp
            have hbl := hmb d (List.mem_of_getElem? hd)
            have HX := hide hd
            have HV := hide hv
            have hbx : Below wr.heap.size wr (wr.alloc (.cells #[.int .i64 d.o, .string (str d.n), .slice a.x d.b.length a.c, .int .i64 d.z, .slice a.y d.k.length a.m] 36)) := (Below.refl _ _).alloc (Nat.le_refl _) _
            have HBX := hide hbx
            obtain ⟨r, h8, hr, h9⟩ := op8 d.o
            have HR : Hid (d.r = r) := h9.symm
            have HA4 := hide ((unhide HA).below hbx)
            clear hd hc hv hbx h9
            have t1 := toList_str d.n
            have t2 := toList_str nm
            by_cases hnn : d.n = nm
            · have hb1 : (d.n == nm) = true := by rw [beq_iff_eq]; exact hnn
              match r, h8 with
              | 0, _ =>
                have hr : wrap64 ((IntKind.u64.wrap d.o).tmod 8) = 0 := hr
                have HS : Hid (skipB nm d = false) := by show _ = _; unfold skipB; rw [unhide HR]; simp [hnn]
                clear hnn
                go_wp2_with fail
                refine (does_k gk 0 D _ _ d a _ ((unhide HD).below (unhide HBX)) (by omega) ((unhide HV).below (unhide HBX) (Nat.le_refl _)) (by omega)).mono ?_
                rintro e w4 ⟨rfl, g4, h4, s4⟩
                have HD4 : Hid (DK w4 g4 0 D (M1.runsB nm (more.take (k + 1))) (l.length + 1 + (k + 1))) := by
                  show DK _ _ _ _ _ _
                  rw [Md.runsB_take _ _ _ _ _ (unhide HX), if_neg (by rw [unhide HS]; exact Bool.false_ne_true)]
                  exact h4
                have HL4 := hide (((unhide HL).bel (unhide HBX)).st s4)
                have HA5 := hide ((unhide HA4).st s4)
                clear c0 c1 c2 c3 c4 h4 s4
                go_wp2
                go_roundw
                case rel => exact ⟨k + 1, g4, by omega, by go_num, HD4, HL4, HA5⟩
                case measure => simp [intOf]; omega
              | 1, _ =>
                have hr : wrap64 ((IntKind.u64.wrap d.o).tmod 8) = 1 := hr
                have HS : Hid (skipB nm d = false) := by show _ = _; unfold skipB; rw [unhide HR]; simp [hnn]
                clear hnn
                go_wp2_with fail
                refine (does_k gk 0 D _ _ d a _ ((unhide HD).below (unhide HBX)) (by omega) ((unhide HV).below (unhide HBX) (Nat.le_refl _)) (by omega)).mono ?_
                rintro e w4 ⟨rfl, g4, h4, s4⟩
                have HD4 : Hid (DK w4 g4 0 D (M1.runsB nm (more.take (k + 1))) (l.length + 1 + (k + 1))) := by
                  show DK _ _ _ _ _ _
                  rw [Md.runsB_take _ _ _ _ _ (unhide HX), if_neg (by rw [unhide HS]; exact Bool.false_ne_true)]
                  exact h4
                have HL4 := hide (((unhide HL).bel (unhide HBX)).st s4)
                have HA5 := hide ((unhide HA4).st s4)
                clear c0 c1 c2 c3 c4 h4 s4
                go_wp2
                go_roundw
                case rel => exact ⟨k + 1, g4, by omega, by go_num, HD4, HL4, HA5⟩
                case measure => simp [intOf]; omega
              | 2, _ =>
                have hr : wrap64 ((IntKind.u64.wrap d.o).tmod 8) = 2 := hr
                have HS : Hid (skipB nm d = false) := by show _ = _; unfold skipB; rw [unhide HR]; simp [hnn]
                clear hnn
                go_wp2_with fail
                refine (does_k gk 0 D _ _ d a _ ((unhide HD).below (unhide HBX)) (by omega) ((unhide HV).below (unhide HBX) (Nat.le_refl _)) (by omega)).mono ?_
                rintro e w4 ⟨rfl, g4, h4, s4⟩
                have HD4 : Hid (DK w4 g4 0 D (M1.runsB nm (more.take (k + 1))) (l.length + 1 + (k + 1))) := by
                  show DK _ _ _ _ _ _
                  rw [Md.runsB_take _ _ _ _ _ (unhide HX), if_neg (by rw [unhide HS]; exact Bool.false_ne_true)]
                  exact h4
                have HL4 := hide (((unhide HL).bel (unhide HBX)).st s4)
                have HA5 := hide ((unhide HA4).st s4)
                clear c0 c1 c2 c3 c4 h4 s4
                go_wp2
                go_roundw
                case rel => exact ⟨k + 1, g4, by omega, by go_num, HD4, HL4, HA5⟩
                case measure => simp [intOf]; omega
              | 3, _ =>
                have hr : wrap64 ((IntKind.u64.wrap d.o).tmod 8) = 3 := hr
                have HS : Hid (skipB nm d = true) := by show _ = _; unfold skipB; rw [unhide HR]; simp [hnn]
                have HD4 : Hid (DK (wr.alloc (.cells #[.int .i64 d.o, .string (str d.n), .slice a.x d.b.length a.c, .int .i64 d.z, .slice a.y d.k.length a.m] 36)) gk 0 D (M1.runsB nm (more.take (k + 1))) (l.length + 1 + (k + 1))) := by
                  show DK _ _ _ _ _ _
                  rw [Md.runsB_take _ _ _ _ _ (unhide HX), if_pos (unhide HS)]
                  exact ((unhide HD).below (unhide HBX)).mono (by omega)
                have HL4 := hide ((unhide HL).bel (unhide HBX))
                clear hnn
                go_wp2
                go_roundw
                case rel => exact ⟨k + 1, gk, by omega, by go_num, HD4, HL4, HA4⟩
                case measure => simp [intOf]; omega
              | 4, _ =>
                have hr : wrap64 ((IntKind.u64.wrap d.o).tmod 8) = 4 := hr
                have HS : Hid (skipB nm d = true) := by show _ = _; unfold skipB; rw [unhide HR]; simp [hnn]
                have HD4 : Hid (DK (wr.alloc (.cells #[.int .i64 d.o, .string (str d.n), .slice a.x d.b.length a.c, .int .i64 d.z, .slice a.y d.k.length a.m] 36)) gk 0 D (M1.runsB nm (more.take (k + 1))) (l.length + 1 + (k + 1))) := by
                  show DK _ _ _ _ _ _
                  rw [Md.runsB_take _ _ _ _ _ (unhide HX), if_pos (unhide HS)]
                  exact ((unhide HD).below (unhide HBX)).mono (by omega)
                have HL4 := hide ((unhide HL).bel (unhide HBX))
                clear hnn
                go_wp2
                go_roundw
                case rel => exact ⟨k + 1, gk, by omega, by go_num, HD4, HL4, HA4⟩
                case measure => simp [intOf]; omega
              | 5, _ =>
                have hr : wrap64 ((IntKind.u64.wrap d.o).tmod 8) = 5 := hr
                have HS : Hid (skipB nm d = true) := by show _ = _; unfold skipB; rw [unhide HR]; simp [hnn]
                have HD4 : Hid (DK (wr.alloc (.cells #[.int .i64 d.o, .string (str d.n), .slice a.x d.b.length a.c, .int .i64 d.z, .slice a.y d.k.length a.m] 36)) gk 0 D (M1.runsB nm (more.take (k + 1))) (l.length + 1 + (k + 1))) := by
                  show DK _ _ _ _ _ _
                  rw [Md.runsB_take _ _ _ _ _ (unhide HX), if_pos (unhide HS)]
                  exact ((unhide HD).below (unhide HBX)).mono (by omega)
                have HL4 := hide ((unhide HL).bel (unhide HBX))
                clear hnn
                go_wp2
                go_roundw
                case rel => exact ⟨k + 1, gk, by omega, by go_num, HD4, HL4, HA4⟩
                case measure => simp [intOf]; omega
              | 6, _ =>
                have hr : wrap64 ((IntKind.u64.wrap d.o).tmod 8) = 6 := hr
                have HS : Hid (skipB nm d = true) := by show _ = _; unfold skipB; rw [unhide HR]; simp [hnn]
                have HD4 : Hid (DK (wr.alloc (.cells #[.int .i64 d.o, .string (str d.n), .slice a.x d.b.length a.c, .int .i64 d.z, .slice a.y d.k.length a.m] 36)) gk 0 D (M1.runsB nm (more.take (k + 1))) (l.length + 1 + (k + 1))) := by
                  show DK _ _ _ _ _ _
                  rw [Md.runsB_take _ _ _ _ _ (unhide HX), if_pos (unhide HS)]
                  exact ((unhide HD).below (unhide HBX)).mono (by omega)
                have HL4 := hide ((unhide HL).bel (unhide HBX))
                clear hnn
                go_wp2
                go_roundw
                case rel => exact ⟨k + 1, gk, by omega, by go_num, HD4, HL4, HA4⟩
                case measure => simp [intOf]; omega
              | 7, _ =>
                have hr : wrap64 ((IntKind.u64.wrap d.o).tmod 8) = 7 := hr
                have HS : Hid (skipB nm d = true) := by show _ = _; unfold skipB; rw [unhide HR]; simp [hnn]
                have HD4 : Hid (DK (wr.alloc (.cells #[.int .i64 d.o, .string (str d.n), .slice a.x d.b.length a.c, .int .i64 d.z, .slice a.y d.k.length a.m] 36)) gk 0 D (M1.runsB nm (more.take (k + 1))) (l.length + 1 + (k + 1))) := by
                  show DK _ _ _ _ _ _
                  rw [Md.runsB_take _ _ _ _ _ (unhide HX), if_pos (unhide HS)]
                  exact ((unhide HD).below (unhide HBX)).mono (by omega)
                have HL4 := hide ((unhide HL).bel (unhide HBX))
                clear hnn
                go_wp2
                go_roundw
                case rel => exact ⟨k + 1, gk, by omega, by go_num, HD4, HL4, HA4⟩
                case measure => simp [intOf]; omega
            · have hb1 : (d.n == nm) = false := by rw [beq_eq_false_iff_ne]; exact hnn
              match r, h8 with
              | 0, _ =>
                have hr : wrap64 ((IntKind.u64.wrap d.o).tmod 8) = 0 := hr
                have HS : Hid (skipB nm d = false) := by show _ = _; unfold skipB; rw [unhide HR]; simp [hnn]
                clear hnn
                go_wp2_with fail
                refine (does_k gk 0 D _ _ d a _ ((unhide HD).below (unhide HBX)) (by omega) ((unhide HV).below (unhide HBX) (Nat.le_refl _)) (by omega)).mono ?_
                rintro e w4 ⟨rfl, g4, h4, s4⟩
                have HD4 : Hid (DK w4 g4 0 D (M1.runsB nm (more.take (k + 1))) (l.length + 1 + (k + 1))) := by
                  show DK _ _ _ _ _ _
                  rw [Md.runsB_take _ _ _ _ _ (unhide HX), if_neg (by rw [unhide HS]; exact Bool.false_ne_true)]
                  exact h4
                have HL4 := hide (((unhide HL).bel (unhide HBX)).st s4)
                have HA5 := hide ((unhide HA4).st s4)
                clear c0 c1 c2 c3 c4 h4 s4
                go_wp2
                go_roundw
                case rel => exact ⟨k + 1, g4, by omega, by go_num, HD4, HL4, HA5⟩
                case measure => simp [intOf]; omega
              | 1, _ =>
                have hr : wrap64 ((IntKind.u64.wrap d.o).tmod 8) = 1 := hr
                have HS : Hid (skipB nm d = false) := by show _ = _; unfold skipB; rw [unhide HR]; simp [hnn]
                clear hnn
                go_wp2_with fail
                refine (does_k gk 0 D _ _ d a _ ((unhide HD).below (unhide HBX)) (by omega) ((unhide HV).below (unhide HBX) (Nat.le_refl _)) (by omega)).mono ?_
                rintro e w4 ⟨rfl, g4, h4, s4⟩
                have HD4 : Hid (DK w4 g4 0 D (M1.runsB nm (more.take (k + 1))) (l.length + 1 + (k + 1))) := by
                  show DK _ _ _ _ _ _
                  rw [Md.runsB_take _ _ _ _ _ (unhide HX), if_neg (by rw [unhide HS]; exact Bool.false_ne_true)]
                  exact h4
                have HL4 := hide (((unhide HL).bel (unhide HBX)).st s4)
                have HA5 := hide ((unhide HA4).st s4)
                clear c0 c1 c2 c3 c4 h4 s4
                go_wp2
                go_roundw
                case rel => exact ⟨k + 1, g4, by omega, by go_num, HD4, HL4, HA5⟩
                case measure => simp [intOf]; omega
              | 2, _ =>
                have hr : wrap64 ((IntKind.u64.wrap d.o).tmod 8) = 2 := hr
                have HS : Hid (skipB nm d = false) := by show _ = _; unfold skipB; rw [unhide HR]; simp [hnn]
                clear hnn
                go_wp2_with fail
                refine (does_k gk 0 D _ _ d a _ ((unhide HD).below (unhide HBX)) (by omega) ((unhide HV).below (unhide HBX) (Nat.le_refl _)) (by omega)).mono ?_
                rintro e w4 ⟨rfl, g4, h4, s4⟩
                have HD4 : Hid (DK w4 g4 0 D (M1.runsB nm (more.take (k + 1))) (l.length + 1 + (k + 1))) := by
                  show DK _ _ _ _ _ _
                  rw [Md.runsB_take _ _ _ _ _ (unhide HX), if_neg (by rw [unhide HS]; exact Bool.false_ne_true)]
                  exact h4
                have HL4 := hide (((unhide HL).bel (unhide HBX)).st s4)
                have HA5 := hide ((unhide HA4).st s4)
                clear c0 c1 c2 c3 c4 h4 s4
                go_wp2
                go_roundw
                case rel => exact ⟨k + 1, g4, by omega, by go_num, HD4, HL4, HA5⟩
                case measure => simp [intOf]; omega
              | 3, _ =>
                have hr : wrap64 ((IntKind.u64.wrap d.o).tmod 8) = 3 := hr
                have HS : Hid (skipB nm d = false) := by show _ = _; unfold skipB; rw [unhide HR]; simp [hnn]
                clear hnn
                go_wp2_with fail
                refine (does_k gk 0 D _ _ d a _ ((unhide HD).below (unhide HBX)) (by omega) ((unhide HV).below (unhide HBX) (Nat.le_refl _)) (by omega)).mono ?_
                rintro e w4 ⟨rfl, g4, h4, s4⟩
                have HD4 : Hid (DK w4 g4 0 D (M1.runsB nm (more.take (k + 1))) (l.length + 1 + (k + 1))) := by
                  show DK _ _ _ _ _ _
                  rw [Md.runsB_take _ _ _ _ _ (unhide HX), if_neg (by rw [unhide HS]; exact Bool.false_ne_true)]
                  exact h4
                have HL4 := hide (((unhide HL).bel (unhide HBX)).st s4)
                have HA5 := hide ((unhide HA4).st s4)
                clear c0 c1 c2 c3 c4 h4 s4
                go_wp2
                go_roundw
                case rel => exact ⟨k + 1, g4, by omega, by go_num, HD4, HL4, HA5⟩
                case measure => simp [intOf]; omega
              | 4, _ =>
                have hr : wrap64 ((IntKind.u64.wrap d.o).tmod 8) = 4 := hr
                have HS : Hid (skipB nm d = false) := by show _ = _; unfold skipB; rw [unhide HR]; simp [hnn]
                clear hnn
                go_wp2_with fail
                refine (does_k gk 0 D _ _ d a _ ((unhide HD).below (unhide HBX)) (by omega) ((unhide HV).below (unhide HBX) (Nat.le_refl _)) (by omega)).mono ?_
                rintro e w4 ⟨rfl, g4, h4, s4⟩
                have HD4 : Hid (DK w4 g4 0 D (M1.runsB nm (more.take (k + 1))) (l.length + 1 + (k + 1))) := by
                  show DK _ _ _ _ _ _
                  rw [Md.runsB_take _ _ _ _ _ (unhide HX), if_neg (by rw [unhide HS]; exact Bool.false_ne_true)]
                  exact h4
                have HL4 := hide (((unhide HL).bel (unhide HBX)).st s4)
                have HA5 := hide ((unhide HA4).st s4)
                clear c0 c1 c2 c3 c4 h4 s4
                go_wp2
                go_roundw
                case rel => exact ⟨k + 1, g4, by omega, by go_num, HD4, HL4, HA5⟩
                case measure => simp [intOf]; omega
              | 5, _ =>
                have hr : wrap64 ((IntKind.u64.wrap d.o).tmod 8) = 5 := hr
                have HS : Hid (skipB nm d = true) := by show _ = _; unfold skipB; rw [unhide HR]; simp [hnn]
                have HD4 : Hid (DK (wr.alloc (.cells #[.int .i64 d.o, .string (str d.n), .slice a.x d.b.length a.c, .int .i64 d.z, .slice a.y d.k.length a.m] 36)) gk 0 D (M1.runsB nm (more.take (k + 1))) (l.length + 1 + (k + 1))) := by
                  show DK _ _ _ _ _ _
                  rw [Md.runsB_take _ _ _ _ _ (unhide HX), if_pos (unhide HS)]
                  exact ((unhide HD).below (unhide HBX)).mono (by omega)
                have HL4 := hide ((unhide HL).bel (unhide HBX))
                clear hnn
                go_wp2
                go_roundw
                case rel => exact ⟨k + 1, gk, by omega, by go_num, HD4, HL4, HA4⟩
                case measure => simp [intOf]; omega
              | 6, _ =>
                have hr : wrap64 ((IntKind.u64.wrap d.o).tmod 8) = 6 := hr
                have HS : Hid (skipB nm d = true) := by show _ = _; unfold skipB; rw [unhide HR]; simp [hnn]
                have HD4 : Hid (DK (wr.alloc (.cells #[.int .i64 d.o, .string (str d.n), .slice a.x d.b.length a.c, .int .i64 d.z, .slice a.y d.k.length a.m] 36)) gk 0 D (M1.runsB nm (more.take (k + 1))) (l.length + 1 + (k + 1))) := by
                  show DK _ _ _ _ _ _
                  rw [Md.runsB_take _ _ _ _ _ (unhide HX), if_pos (unhide HS)]
                  exact ((unhide HD).below (unhide HBX)).mono (by omega)
                have HL4 := hide ((unhide HL).bel (unhide HBX))
                clear hnn
                go_wp2
                go_roundw
                case rel => exact ⟨k + 1, gk, by omega, by go_num, HD4, HL4, HA4⟩
                case measure => simp [intOf]; omega
              | 7, _ =>
                have hr : wrap64 ((IntKind.u64.wrap d.o).tmod 8) = 7 := hr
                have HS : Hid (skipB nm d = true) := by show _ = _; unfold skipB; rw [unhide HR]; simp [hnn]
                have HD4 : Hid (DK (wr.alloc (.cells #[.int .i64 d.o, .string (str d.n), .slice a.x d.b.length a.c, .int .i64 d.z, .slice a.y d.k.length a.m] 36)) gk 0 D (M1.runsB nm (more.take (k + 1))) (l.length + 1 + (k + 1))) := by
                  show DK _ _ _ _ _ _
                  rw [Md.runsB_take _ _ _ _ _ (unhide HX), if_pos (unhide HS)]
                  exact ((unhide HD).below (unhide HBX)).mono (by omega)
                have HL4 := hide ((unhide HL).bel (unhide HBX))
                clear hnn
                go_wp2
                go_roundw
                case rel => exact ⟨k + 1, gk, by omega, by go_num, HD4, HL4, HA4⟩
                case measure => simp [intOf]; omega
          · obtain rfl : k = more.length := by omega
            have d4 := unhide HD
            rw [List.take_length] at d4
            have HBm := hide ((unhide HBg).runsB more)
            generalize M1.runsB nm more = M2 at *
            have L4 := unhide HL
            have A4 := unhide HA
            clear HD HL HA D3 L3 A3
            go_wp2_with fail
            refine (read_k gk 0 D M2 _ nm _ d4 (by omega) hn).mono ?_
            rintro e w5 ⟨ys, cs, rfl, os, b5⟩
            obtain ⟨g5, x5, sa⟩ := aw_new gk os b5
            have d5 := d4.st x5 (by omega)
            have L5 := L4.st x5
            have A5 := A4.st x5
            obtain ⟨hth, hgd⟩ := bg_crash (unhide HBm) hnm kl tear
            obtain ⟨seen, hseen⟩ : ∃ seen, seen = M2.readB nm := ⟨_, rfl⟩
            rw [← hseen] at sa hgd
            rw [← hseen]
            clear d4 L4 A4 os b5 x5 hseen
            go_wp2_with fail
            refine (crash_k g5 0 D M2 _ kp kl kc kl.length tear w5 d5 (by omega) (hide rfl) (hK.below L5.below (Nat.le_refl _)) hkm).mono ?_
            rintro e w6 ⟨rfl, g6, d6, S6⟩
            have L6 := L5.st S6
            have A6 := A5.st S6
            have sa6 := sa.st S6
            generalize M2.crash kl tear = M3 at *
            clear d5 L5 A5 sa S6
            go_wp2_with fail
            refine (read_k g6 0 D M3 _ nm w6 d6 (by omega) hn).mono ?_
            rintro e w7 ⟨yn, cn, rfl, on, b7⟩
            rw [hth]
            obtain ⟨now, hnow⟩ : ∃ now, now = M3.readB nm := ⟨_, rfl⟩
            rw [← hnow] at on hgd
            rw [← hnow]
            have N7 := hide on.toBs
            have W7 := hide (A6.below b7).1
            have S7 := hide (sa6.below b7).1
            have B7 := hide (L6.below.trans (b7.mono L6.below.size))
            have hle := hgd.le
            have HG := hide hgd
            have hns := (unhide S7).most
            have hn2 := (unhide S7).le
            have hnn2 := (unhide N7).most
            have hnn3 := (unhide N7).le
            unfold maxLen at hns hnn2
            clear d6 L6 A6 sa6 on b7 hnow hgd hth
            go_wp2_with fail
            refine (hasPrefix_yes yn cn now yw cw was w7 (unhide N7) (unhide W7) (unhide HG).pre).mono ?_
            rintro e w8 ⟨rfl, rfl⟩
            have hgt : ¬ (seen.length : Int) < (now.length : Int) := by omega
            go_wp2
            go_loopw [117] (fun v wr => ∃ k : Nat, k ≤ now.length ∧ v = .int .i64 (k : Int) ∧ wr = w8) (fun v _ => now.length - (intOf v).toNat)
            case atStart => exact ⟨0, Nat.zero_le _, rfl, rfl⟩
            case round =>
              obtain ⟨k, hk, rfl, rfl⟩ := hrel
              by_cases hlt : k < now.length
              · have hlt2 : (k : Int) < (now.length : Int) := by omega
                have hlt3 : (k : Int) < (seen.length : Int) := by omega
                obtain ⟨b1, o1, e1, hc1⟩ := (unhide N7).row (by intro e; subst e; simp at hlt)
                obtain ⟨b2, o2, e2, hc2⟩ := (unhide S7).row (by intro e; subst e; simp at hle; simp [hle] at hlt)
                subst e1 e2
                have k1 := hc1 k hlt
                have k2 := hc2 k (by omega)
                obtain ⟨x, hx⟩ : ∃ x, x = now.getD k 0 := ⟨_, rfl⟩
                obtain ⟨y, hy⟩ : ∃ y, y = seen.getD k 0 := ⟨_, rfl⟩
                rw [← hx] at k1
                rw [← hy] at k2
                have hgx : now[k]? = some x := by rw [hx]; simp [hlt]
                have hgy : seen[k]? = some y := by rw [hy]; simp [show k < seen.length by omega]
                have hE := (unhide HG).each k x hgx
                clear hx hy hc1 hc2
                by_cases hxy : x = y
                · have hb1 : ((x.toNat : Int) != (y.toNat : Int)) = false := by rw [hxy]; simp
                  clear hE hgx hgy hxy
                  go_wp2
                  go_roundw
                  case rel => exact ⟨k + 1, by omega, by go_num, trivial⟩
                  case measure => simp [intOf]; omega
                · have hb1 : ((x.toNat : Int) != (y.toNat : Int)) = true := by
                    simp only [bne_iff_ne, ne_eq]
                    intro h
                    exact hxy (UInt8.toNat_inj.1 (by omega))
                  obtain ⟨hx0, hwk⟩ : x = 0 ∧ was.length ≤ k := by
                    rcases hE with hE | hE
                    · rw [hgy] at hE
                      exact absurd (Option.some.inj hE).symm hxy
                    · exact hE
                  have hb2 : ¬ (k : Int) < (was.length : Int) := by omega
                  have hb3 : ((x.toNat : Int) != 0) = false := by rw [hx0]; rfl
                  clear hE hgx hgy hxy hx0
                  go_wp2
                  go_roundw
                  case rel => exact ⟨k + 1, by omega, by go_num, trivial⟩
                  case measure => simp [intOf]; omega
              · obtain rfl : k = now.length := by omega
                go_wp2_with fail
                refine (awake_true _).mono ?_
                rintro e v ⟨rfl, hb⟩
                have hb2 := hide ((unhide B7).trans (hb.mono (unhide B7).size))
                clear hb
                go_wp2
                go_ret
                exact ⟨rfl, unhide hb2⟩
      · have hz : (M.thereE nm != 0) = true := by simp [ht]
        have L2' := hide L2
        clear d2 L2 hI ht
        go_wp2_with fail
        refine (awake_true _).mono ?_
        rintro e v ⟨rfl, hb⟩
        have hb2 := hide ((unhide L2').below.trans (hb.mono (unhide L2').below.size))
        go_wp2
        go_ret
        exact ⟨rfl, unhide hb2⟩
#print axioms diskBegins_walk
end Go.Proofs.Ytkhpjlgbiicdcaa
