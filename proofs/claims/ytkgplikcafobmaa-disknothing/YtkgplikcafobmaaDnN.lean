/-
  THE WALK OF DiskNothing.
-/
import Derived.Test.YtkgplikcafobmaaDnA
set_option linter.unusedVariables false
namespace Go.Proofs.Ytkgplikcafobmaa
open Go.RowKit Go.Maps

theorem DK.mono {w : World} {g : Nat → Tg} {i D : Nat} {M : Md} {N N' : Nat} (h : DK w g i D M N) (hN : N ≤ N') : DK w g i D M N' := by
  obtain ⟨J, h1, h2, h3⟩ := h
  exact ⟨J, h1, h2.mono hN, h3⟩
def Md.runs5 (M : Md) (l : List Dm) : Md := M.runs (l.filter (fun d => decide (d.r < 5)))
theorem Md.runs5_take (M : Md) (l : List Dm) (k : Nat) (d : Dm) (h : l[k]? = some d) : M.runs5 (l.take (k + 1)) = if d.r < 5 then (M.runs5 (l.take k)).does d else M.runs5 (l.take k) := by
  unfold Md.runs5 Md.runs
  rw [List.take_add_one, h, List.filter_append, List.foldl_append]
  by_cases h5 : d.r < 5
  · rw [if_pos h5]; simp [h5]
  · rw [if_neg h5]; simp [h5]
theorem does5_last (M : Md) (d : Dm) (h : d.r < 5) : (M.does d).last = M.last := by
  unfold Md.does
  split
  · unfold Md.cut; split <;> rfl
  · unfold Md.drop; split <;> rfl
  · omega
  · omega
  · omega
  · unfold Md.write; split <;> rfl
theorem runs5_last (l : List Dm) (M : Md) : (M.runs5 l).last = M.last := by
  unfold Md.runs5 Md.runs
  induction l generalizing M with
  | nil => rfl
  | cons d r ih =>
    by_cases h5 : d.r < 5
    · rw [List.filter_cons_of_pos (by simp [h5])]
      show ((r.filter _).foldl Md.does (M.does d)).last = _
      rw [ih, does5_last M d h5]
    · rw [List.filter_cons_of_neg (by simp [h5])]
      exact ih M
theorem Inv.runs5 {M : Md} (h : Inv M) (l : List Dm) : Inv (M.runs5 l) := h.runs _
theorem nothing_seen (M : Md) (z : Int) : (M.crash [] z).seen = M.last := by
  rw [crash_seen, crash_last]
  have : ∀ l : List Ac, keptL l ([] : List Bool) = [] := by
    intro l
    induction l with
    | nil => rfl
    | cons a r ih => simp [keptL, ih]
  rw [this]
  rfl
theorem sync_last {M : Md} (n m : Nm) (h : m ≠ n) : (M.sync n).last m = M.last m := by
  unfold Md.sync
  split
  · show ((M.pend.filter (isN n)).foldl Md.lasts M).last m = _
    rw [lasts_last]
    exact fold_other _ (fun a ha => by simp [isN] at ha; rw [ha.2]; exact fun e => h e.symm)
  · rfl
theorem sync_not {M : Md} (n : Nm) (h : M.thereE n ≠ 0) : M.sync n = M := by unfold Md.sync; rw [if_neg h]
theorem sync_own {M : Md} (hI : Inv M) (n : Nm) (h : M.thereE n = 0) : (M.sync n).last n = M.seen n := by
  have hI' := hI.sync n
  rw [← sync_seen M n, hI'.sn]
  refine (fold_other _ (fun a ha => ?_)).symm
  unfold Md.sync at ha
  rw [if_pos h] at ha
  have ha' : a ∈ M.pend.filter (fun a => !(isN n a)) := ha
  have := (List.mem_filter.1 ha').2
  simpa [isN] using this
/-- What DiskNothing asks. -/
theorem nothing_other {M1 : Md} (h1 : Inv M1) (hp : M1.pend = []) (more : List Dm) (n m : Nm) (h : m ≠ n ∨ (M1.runs5 more).thereE n ≠ 0) : (((M1.runs5 more).sync n).crash [] 0).seen m = M1.seen m := by
  rw [nothing_seen]
  have e : M1.seen = M1.last := by rw [h1.sn, hp]; rfl
  rcases h with h | h
  · rw [sync_last n m h, runs5_last, e]
  · rw [sync_not n h, runs5_last, e]
theorem nothing_own {M1 : Md} (h1 : Inv M1) (more : List Dm) (n : Nm) (h : (M1.runs5 more).thereE n = 0) : (((M1.runs5 more).sync n).crash [] 0).seen n = ((M1.runs5 more).sync n).seen n := by
  rw [nothing_seen, sync_own (h1.runs5 more) n h, sync_seen]

set_option maxRecDepth 20000 in
set_option maxHeartbeats 4000000 in
theorem diskNothing_walk (room : Int) (p : Option Addr) (c : Nat) (l : List Dm) (q : Option Addr) (qc : Nat) (more : List Dm) (nm : Nm) (w : World) (hR : DoR w p l) (hQ : DoR w q more) (hn : nm.length ≤ maxLen) :
    Calls Try.prog 8 #[.int .i64 room, .slice p l.length c, .slice q more.length qc, .string (str nm)] w fun e w' => e = .returned (.bool true) ∧ Below w.heap.size w w' := by
  obtain ⟨M, hM⟩ : ∃ M, M = (Md.new (room % 1048576)).runs l := ⟨_, rfl⟩
  have hI : Inv M := by rw [hM]; exact (Inv.new _).runs l
  have HM := hide hM
  have hql := hQ.le
  unfold maxLen at hql
  clear hM
  go_enter Try.func8, Try.ntmps8
  go_wp2_with fail
  refine (made_k w (fun _ => .o) 0 room p c l w hR (LW.start w)).mono ?_
  rintro e w1 ⟨D, g1, rfl, d1, L1, -⟩
  rw [← unhide HM] at d1
  cases hsb : shortB l with
  | false =>
    have L1' := hide L1
    clear hsb d1 L1 hI
    go_wp2_with fail
    refine (awake_true _).mono ?_
    rintro e v ⟨rfl, hb⟩
    have hb2 := hide ((unhide L1').below.trans (hb.mono (unhide L1').below.size))
    go_wp2
    go_ret
    exact ⟨rfl, unhide hb2⟩
  | true =>
    have hlen := (shortB_len hsb).1
    have d1 := d1 hsb
    clear hsb
    go_wp2_with fail
    refine (short_any q qc more w1 (hQ.below L1.below (Nat.le_refl _))).mono ?_
    rintro e w1' ⟨rfl, rfl⟩
    cases hsm : shortB more with
    | false =>
      have L1' := hide L1
      clear hsm d1 L1 hI
      go_wp2_with fail
      refine (awake_true _).mono ?_
      rintro e v ⟨rfl, hb⟩
      have hb2 := hide ((unhide L1').below.trans (hb.mono (unhide L1').below.size))
      go_wp2
      go_ret
      exact ⟨rfl, unhide hb2⟩
    | true =>
      obtain ⟨hml, hmb⟩ := shortB_len hsm
      clear hsm
      go_wp2_with fail
      refine (flush_k g1 0 D M _ w1' d1 (by omega)).mono ?_
      rintro e w2 ⟨rfl, g2, d2, S2⟩
      have L2 := L1.st S2
      have hI1 := hI.flush
      have hp1 : M.flush.pend = [] := rfl
      generalize M.flush = M1 at *
      clear d1 L1 S2 hI HM
      go_wp2_with fail
      refine (clone_k w g2 0 1 D M1 _ w2 (by omega) d2 L2 (by omega)).mono ?_
      rintro e w3 ⟨C, g3, rfl, d3, c3, L3, -, -⟩
      clear d2 L2
      have D3 := hide d3
      have C3 := hide c3
      have L3' := hide L3
      clear d3 c3 L3
      go_wp2
      go_loopw [47] (fun v wr => ∃ (k : Nat) (gk : Nat → Tg), k ≤ more.length ∧ v = .int .i64 (k : Int) ∧ Hid (DK wr gk 0 D (M1.runs5 (more.take k)) (l.length + 1 + k)) ∧ Hid (DK wr gk 1 C M1 (l.length + 1)) ∧ Hid (LW w wr gk)) (fun v _ => more.length - (intOf v).toNat)
      case atStart => exact ⟨0, g3, Nat.zero_le _, rfl, D3, C3, L3'⟩
      case round =>
        obtain ⟨k, gk, hk, rfl, HD, HC, HL⟩ := hrel
        by_cases hlt : k < more.length
        · have hlt2 : (k : Int) < (more.length : Int) := by omega
          obtain ⟨d, hd⟩ : ∃ d, more[k]? = some d := ⟨_, List.getElem?_eq_getElem hlt⟩
          obtain ⟨b, off, hp, hc⟩ := (hQ.below (unhide HL).below (Nat.le_refl _)).mem (by intro e; subst e; simp at hd)
          obtain ⟨a, hv, c0, c1, c2, c3, c4⟩ := hc k d hd
          subst hp
          have hbl := hmb d (List.mem_of_getElem? hd)
          have HX := hide hd
          have HV := hide hv
          have hbx : Below wr.heap.size wr (wr.alloc (.cells #[.int .i64 d.o, .string (str d.n), .slice a.x d.b.length a.c, .int .i64 d.z, .slice a.y d.k.length a.m] 25)) := (Below.refl _ _).alloc (Nat.le_refl _) _
          have HBX := hide hbx
          obtain ⟨r, h8, hr, h9⟩ := op8 d.o
          have HR : Hid (d.r = r) := h9.symm
          clear hd hc hv hbx h9
          by_cases h5 : r < 5
          · have h5' : (r : Int) < 5 := by omega
            go_wp2_with fail
            refine (does_k gk 0 D _ _ d a _ ((unhide HD).below (unhide HBX)) (by omega) ((unhide HV).below (unhide HBX) (Nat.le_refl _)) (by omega)).mono ?_
            rintro e w4 ⟨rfl, g4, h4, s4⟩
            have HD4 : Hid (DK w4 g4 0 D (M1.runs5 (more.take (k + 1))) (l.length + 1 + (k + 1))) := by
              show DK _ _ _ _ _ _
              rw [Md.runs5_take _ _ _ _ (unhide HX), if_pos (by rw [unhide HR]; exact h5)]
              exact h4
            have HC4 := hide (((unhide HC).below (unhide HBX)).st s4 (by omega))
            have HL4 := hide (((unhide HL).bel (unhide HBX)).st s4)
            clear c0 c1 c2 c3 c4 h4 s4
            go_wp2
            go_roundw
            case rel => exact ⟨k + 1, g4, by omega, by go_num, HD4, HC4, HL4⟩
            case measure => simp [intOf]; omega
          · have h5' : 5 ≤ (r : Int) := by omega
            have HD4 : Hid (DK (wr.alloc (.cells #[.int .i64 d.o, .string (str d.n), .slice a.x d.b.length a.c, .int .i64 d.z, .slice a.y d.k.length a.m] 25)) gk 0 D (M1.runs5 (more.take (k + 1))) (l.length + 1 + (k + 1))) := by
              show DK _ _ _ _ _ _
              rw [Md.runs5_take _ _ _ _ (unhide HX), if_neg (by rw [unhide HR]; exact h5)]
              exact ((unhide HD).below (unhide HBX)).mono (by omega)
            have HC4 := hide ((unhide HC).below (unhide HBX))
            have HL4 := hide ((unhide HL).bel (unhide HBX))
            go_wp2
            go_roundw
            case rel => exact ⟨k + 1, gk, by omega, by go_num, HD4, HC4, HL4⟩
            case measure => simp [intOf]; omega
        · obtain rfl : k = more.length := by omega
          have d4 := unhide HD
          rw [List.take_length] at d4
          have c4 := unhide HC
          have L4 := unhide HL
          obtain ⟨M2, hM2⟩ : ∃ M2, M2 = M1.runs5 more := ⟨_, rfl⟩
          rw [← hM2] at d4
          have HO := hide (fun (m : Nm) (h : m ≠ nm ∨ M2.thereE nm ≠ 0) => by have := nothing_other hI1 hp1 more nm m (by rw [← hM2]; exact h); rw [← hM2] at this; exact this)
          have HW := hide (fun (h : M2.thereE nm = 0) => by have := nothing_own hI1 more nm (by rw [← hM2]; exact h); rw [← hM2] at this; exact this)
          have hI2 : Inv M2 := by rw [hM2]; exact hI1.runs5 more
          clear hM2 HD HC HL D3 C3 L3'
          go_wp2_with fail
          refine (sync_k gk 0 D M2 _ nm _ d4 (by omega) hn).mono ?_
          rintro e w5 ⟨rfl, g5, d5, S5⟩
          have c5 := c4.st S5 (by omega)
          have L5 := L4.st S5
          have HSE := hide (sync_seen M2 nm)
          have hI3 := hI2.sync nm
          have HT3 := hide (there_eq (n := nm) (congrFun (sync_seen M2 nm) nm))
          generalize M2.sync nm = M3 at *
          clear d4 c4 L4 S5
          go_wp2_with fail
          refine (read_k g5 0 D M3 _ nm w5 d5 (by omega) hn).mono ?_
          rintro e w6 ⟨yn, cn, rfl, on, b6⟩
          obtain ⟨g6, hg6⟩ : ∃ g6 : Nat → Tg, g6 = fun b => if b < w5.heap.size then g5 b else .o := ⟨_, rfl⟩
          have x6 : St w5 w6 g5 g6 (fun t => t.of 7) := (St.ofBelow g5 _ b6).tag (fun k hk => by rw [hg6]; simp [hk])
          have d6 := d5.st x6 (by omega)
          have c6 := c5.st x6 (by omega)
          have L6 := L5.st x6
          have ON : Hid (Bs w6 yn cn (M3.readB nm) ∧ ∀ k, blk yn = some k → ¬ (g6 k).of 0) := by
            refine ⟨on.toBs, fun k hk => ?_⟩
            have := (on.lt k hk).1
            rw [hg6]
            show ¬ Tg.of (if k < w5.heap.size then g5 k else .o) 0
            rw [if_neg (by omega)]
            exact fun e => e
          clear d5 c5 L5 b6 on x6 hg6
          go_wp2_with fail
          refine (crash_k g6 0 D M3 _ none [] 0 0 0 w6 d6 (by omega) (hide rfl) (fun h => absurd rfl h) (by unfold maxLen; omega)).mono ?_
          rintro e w7 ⟨rfl, g7, d7, S7⟩
          have c7 := c6.st S7 (by omega)
          have L7 := L6.st S7
          have N7 := hide ((unhide ON).1.st S7 (fun k hk => (unhide ON).2 k hk))
          have hI4 := hI3.crash [] 0
          generalize M3.crash [] 0 = M4 at *
          clear d6 c6 L6 S7 ON
          go_wp2_with fail
          refine (list_k g7 0 D M4 _ w7 d7 (by omega)).mono ?_
          rintro e w8 ⟨q1, k1, l1, rfl, n1, o1, hl1, b8⟩
          go_wp2_with fail
          refine (list_k g7 1 C M1 _ w8 (c7.below b8) (by omega)).mono ?_
          rintro e w9 ⟨q2, k2, l2, rfl, n2, o2, hl2, b9⟩
          go_wp2_with (refine wp_appS _ rfl _ _ rfl w7.heap.size q1 k1 l1 rfl (o1.below b9) q2 k2 l2 rfl o2.srow (fun e => by subst e; exact o2.none) (by omega) (Nat.le_trans b8.size b9.size) ?_; rintro q3 k3 l3 wA HL3 o3 gr3)
          have hll : l3.length ≤ 3000 := by rw [unhide HL3, List.length_append]; omega
          have hnm : ∀ n ∈ l3, n.length ≤ 24 := by
            intro n hn
            rw [unhide HL3, List.mem_append] at hn
            rcases hn with hn | hn
            · exact n1.le hI4.seen hn
            · exact n2.le hI1.seen hn
          have B7 : Hid (Below w7.heap.size w7 wA) := below_grown (b8.trans (b9.mono b8.size)) gr3 (Nat.le_refl _) (fun k hk => o1.lt k hk)
          have R7 := hide o3.srow
          have LB := hide L7.below
          have C7 := hide c7
          have D7 := hide d7
          clear n1 n2 o1 o2 o3 b8 b9 gr3 HL3 hl1 hl2 L7 c7 d7
          by_cases hz0 : M2.thereE nm = 0
          · have hz := hide hz0
            rw [show (M2.thereE nm == 0) = true by simp [hz0]]
            clear hz0
            go_loopw [81] (fun v wr => ∃ k : Nat, k ≤ l3.length ∧ v = .int .i64 (k : Int) ∧ Hid (Below wA.heap.size wA wr)) (fun v _ => l3.length - (intOf v).toNat)
            case atStart => exact ⟨0, Nat.zero_le _, rfl, Below.refl _ _⟩
            case round =>
              obtain ⟨k, hk, rfl, HB⟩ := hrel
              have BW := hide ((unhide B7).trans ((unhide HB).mono (unhide B7).size))
              have BL := hide ((unhide LB).trans ((unhide BW).mono (unhide LB).size))
              by_cases hlt : k < l3.length
              · have hlt2 : (k : Int) < (l3.length : Int) := by omega
                obtain ⟨s, hs⟩ : ∃ s, l3[k]? = some s := ⟨_, List.getElem?_eq_getElem hlt⟩
                have hmem := List.mem_of_getElem? hs
                obtain ⟨b, o, hp, k1⟩ := ((unhide R7).below (unhide HB) (Nat.le_refl _)) (by intro e; subst e; simp at hs)
                have e1 := k1 k s hs
                subst hp
                have hs24 := hnm s hmem
                clear k1 hs hmem
                go_wp2_with fail
                refine (read_k g7 0 D M4 _ s _ ((unhide D7).below (unhide BW)) (by omega) (by unfold maxLen; omega)).mono ?_
                rintro e wB ⟨y, cy, rfl, oy, bB⟩
                go_wp2_with fail
                refine (read_k g7 1 C M1 _ s wB (((unhide C7).below (unhide BW)).below bB) (by omega) (by unfold maxLen; omega)).mono ?_
                rintro e wC ⟨y', cy', rfl, oy', bC⟩
                have OY := hide (oy.below bC (Nat.le_refl _))
                have OY' := hide oy'
                have HBC := hide (((unhide HB).trans (bB.mono (unhide HB).size)).trans (bC.mono (Nat.le_trans (unhide HB).size bB.size)))
                have ONC := hide ((unhide N7).below (((unhide BW).trans (bB.mono (unhide BW).size)).trans (bC.mono (Nat.le_trans (unhide BW).size bB.size))) (Nat.le_refl _))
                clear oy oy' bB bC e1
                by_cases hsn : s = nm
                · subst hsn
                  have HT : Hid (M4.thereE s = 0) := by show _ = _; rw [there_eq (unhide HW (unhide hz)), unhide HT3, unhide hz]
                  have HR4 : Hid (M4.readB s = M3.readB s) := read_eq (unhide HW (unhide hz))
                  rw [unhide HT]
                  go_wp2_with fail
                  refine (equal_any y _ cy (M4.readB s) yn _ cn (M3.readB s) wC (unhide OY).toBs.row (unhide ONC).row rfl rfl).mono ?_
                  rintro e wC' ⟨rfl, rfl⟩
                  rw [show (M4.readB s == M3.readB s) = true by rw [unhide HR4]; simp]
                  go_wp2
                  go_roundw
                  case rel => exact ⟨k + 1, by omega, by go_num, HBC⟩
                  case measure => simp [intOf]; omega
                · have hsn2 : (s == nm) = false := by rw [beq_eq_false_iff_ne]; exact hsn
                  have t1 := toList_str s
                  have t2 := toList_str nm
                  have HT : Hid (M4.thereE s = M1.thereE s) := there_eq (unhide HO s (.inl hsn))
                  have HR4 : Hid (M4.readB s = M1.readB s) := read_eq (unhide HO s (.inl hsn))
                  rw [unhide HT]
                  generalize M1.thereE s = T at *
                  go_wp2_with fail
                  refine (equal_any y _ cy (M4.readB s) y' _ cy' (M1.readB s) wC (unhide OY).toBs.row (unhide OY').toBs.row rfl rfl).mono ?_
                  rintro e wC' ⟨rfl, rfl⟩
                  rw [show (M4.readB s == M1.readB s) = true by rw [unhide HR4]; simp]
                  go_wp2
                  go_roundw
                  case rel => exact ⟨k + 1, by omega, by go_num, HBC⟩
                  case measure => simp [intOf]; omega
              · obtain rfl : k = l3.length := by omega
                go_wp2_with fail
                refine (awake_true _).mono ?_
                rintro e v ⟨rfl, hb⟩
                have hb2 := hide ((unhide BL).trans (hb.mono (unhide BL).size))
                clear hb
                go_wp2
                go_ret
                exact ⟨rfl, unhide hb2⟩
          · have hz := hide hz0
            rw [show (M2.thereE nm == 0) = false by simp [hz0]]
            clear hz0
            go_loopw [81] (fun v wr => ∃ k : Nat, k ≤ l3.length ∧ v = .int .i64 (k : Int) ∧ Hid (Below wA.heap.size wA wr)) (fun v _ => l3.length - (intOf v).toNat)
            case atStart => exact ⟨0, Nat.zero_le _, rfl, Below.refl _ _⟩
            case round =>
              obtain ⟨k, hk, rfl, HB⟩ := hrel
              have BW := hide ((unhide B7).trans ((unhide HB).mono (unhide B7).size))
              have BL := hide ((unhide LB).trans ((unhide BW).mono (unhide LB).size))
              by_cases hlt : k < l3.length
              · have hlt2 : (k : Int) < (l3.length : Int) := by omega
                obtain ⟨s, hs⟩ : ∃ s, l3[k]? = some s := ⟨_, List.getElem?_eq_getElem hlt⟩
                have hmem := List.mem_of_getElem? hs
                obtain ⟨b, o, hp, k1⟩ := ((unhide R7).below (unhide HB) (Nat.le_refl _)) (by intro e; subst e; simp at hs)
                have e1 := k1 k s hs
                subst hp
                have hs24 := hnm s hmem
                clear k1 hs hmem
                go_wp2_with fail
                refine (read_k g7 0 D M4 _ s _ ((unhide D7).below (unhide BW)) (by omega) (by unfold maxLen; omega)).mono ?_
                rintro e wB ⟨y, cy, rfl, oy, bB⟩
                go_wp2_with fail
                refine (read_k g7 1 C M1 _ s wB (((unhide C7).below (unhide BW)).below bB) (by omega) (by unfold maxLen; omega)).mono ?_
                rintro e wC ⟨y', cy', rfl, oy', bC⟩
                have OY := hide (oy.below bC (Nat.le_refl _))
                have OY' := hide oy'
                have HBC := hide (((unhide HB).trans (bB.mono (unhide HB).size)).trans (bC.mono (Nat.le_trans (unhide HB).size bB.size)))
                have ONC := hide ((unhide N7).below (((unhide BW).trans (bB.mono (unhide BW).size)).trans (bC.mono (Nat.le_trans (unhide BW).size bB.size))) (Nat.le_refl _))
                clear oy oy' bB bC e1
                have HT : Hid (M4.thereE s = M1.thereE s) := there_eq (unhide HO s (.inr (unhide hz)))
                have HR4 : Hid (M4.readB s = M1.readB s) := read_eq (unhide HO s (.inr (unhide hz)))
                rw [unhide HT]
                generalize M1.thereE s = T at *
                by_cases hsn : s = nm
                · subst hsn
                  go_wp2_with fail
                  refine (equal_any y _ cy (M4.readB s) y' _ cy' (M1.readB s) wC (unhide OY).toBs.row (unhide OY').toBs.row rfl rfl).mono ?_
                  rintro e wC' ⟨rfl, rfl⟩
                  rw [show (M4.readB s == M1.readB s) = true by rw [unhide HR4]; simp]
                  go_wp2
                  go_roundw
                  case rel => exact ⟨k + 1, by omega, by go_num, HBC⟩
                  case measure => simp [intOf]; omega
                · have hsn2 : (s == nm) = false := by rw [beq_eq_false_iff_ne]; exact hsn
                  have t1 := toList_str s
                  have t2 := toList_str nm
                  go_wp2_with fail
                  refine (equal_any y _ cy (M4.readB s) y' _ cy' (M1.readB s) wC (unhide OY).toBs.row (unhide OY').toBs.row rfl rfl).mono ?_
                  rintro e wC' ⟨rfl, rfl⟩
                  rw [show (M4.readB s == M1.readB s) = true by rw [unhide HR4]; simp]
                  go_wp2
                  go_roundw
                  case rel => exact ⟨k + 1, by omega, by go_num, HBC⟩
                  case measure => simp [intOf]; omega
              · obtain rfl : k = l3.length := by omega
                go_wp2_with fail
                refine (awake_true _).mono ?_
                rintro e v ⟨rfl, hb⟩
                have hb2 := hide ((unhide BL).trans (hb.mono (unhide BL).size))
                clear hb
                go_wp2
                go_ret
                exact ⟨rfl, unhide hb2⟩
#print axioms diskNothing_walk
end Go.Proofs.Ytkgplikcafobmaa
