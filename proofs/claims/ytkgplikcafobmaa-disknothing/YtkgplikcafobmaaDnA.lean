/-
  THE WALK OF DiskApart.
-/
import Derived.Test.YtkgplikcafobmaaDnS
set_option linter.unusedVariables false
namespace Go.Proofs.Ytkgplikcafobmaa
open Go.RowKit Go.Maps

theorem Try.infoS : (Try.prog.info? 9).map (fun i => (i.zero, i.size, i.bytes)) = some (some (.string ⟨#[]⟩), 1, 16) := by kernel_rfl
theorem encs_get (l : List Nm) (j : Nat) (u : Value) (h : (l.map encStr)[j]? = some u) : ∃ s, l[j]? = some s ∧ u = .string (str s) := by
  rw [List.getElem?_map] at h
  cases e : l[j]? with
  | none => rw [e] at h; cases h
  | some s => rw [e] at h; exact ⟨s, rfl, (Option.some.inj h).symm⟩
/-- append(s, x...), both rows of strings, s the call's own. -/
theorem wp_appS (w : World) {ops : Array Oper} {rest : List Oper} {o : Oper} {a : Act} {Q : Exit → Act → World → Prop} (hgd : o.guard = none) (s x : Operand)
    (ho : o.op = .call { callee := .builtin .append, args := #[s, x], argTypes := #[40, 40] })
    (base : Nat) (a1 : Option Addr) (cap1 : Nat) (l1 : List Nm) (hs : a.eval s = .slice a1 l1.length cap1) (hown : OwnS w base a1 cap1 l1)
    (a2 : Option Addr) (cap2 : Nat) (l2 : List Nm) (hx : a.eval x = .slice a2 l2.length cap2) (hsrc : SRow w a2 l2) (hnone : a2 = none → cap2 = 0)
    (hlen : l1.length + l2.length ≤ 1000000) (hbase : base ≤ w.heap.size)
    (h : ∀ a' cap' r w', Hid (r = l1 ++ l2) → OwnS w' base a' cap' r → w.grownBy w' (blk a1) → wpList Try.prog ops Q rest (a.put o.dst (.slice a' r.length cap')) w') : wpList Try.prog ops Q (o :: rest) a w := by
  obtain ⟨i, hi, hz0, hz1, hz2⟩ := info_parts Try.infoS
  have hblk : (Value.slice a1 l1.length cap1).ownBlock = blk a1 := by cases a1 <;> rfl
  cases a2 with
  | none =>
    have hl2 : l2 = [] := by
      apply Classical.byContradiction
      intro hne
      obtain ⟨b, off, hh, _⟩ := hsrc hne
      cases hh
    subst hl2
    have hc0 := hnone rfl
    subst hc0
    refine wpList_append_own_none hgd s x 40 ho base 9 i 1 Try.underlying40 hi _ _ _ hs hown hx ?_
    have := h a1 cap1 l1 w (by show _ = _; simp) hown (World.grownBy.refl _ _)
    exact this
  | some ad =>
    refine wpList_append_own w hgd s x 40 ho base 9 i (.string ⟨#[]⟩) 1 16 Try.underlying40 hi hz0 hz1 hz2 rfl (by decide) _ _ _ hs hown ad l2.length cap2 (l2.map encStr) hx (by simp) ?_ (fun u hu => by obtain ⟨s, _, rfl⟩ := List.mem_map.1 hu; rfl) (by unfold maxLen; omega) (by omega) hbase ?_
    · intro j u hu
      obtain ⟨s', e1, rfl⟩ := encs_get l2 j u hu
      obtain ⟨b, off, hh, hc⟩ := hsrc (by intro e; subst e; simp at e1)
      obtain rfl := Option.some.inj hh
      rw [addr_add]
      exact hc j s' e1
    · intro v' w' h1 h2 _
      have e1 : l1.length + l2.length = (l1 ++ l2).length := by simp
      have e2 : l1.map encStr ++ l2.map encStr = (l1 ++ l2).map encStr := by simp
      rw [e1, e2] at h1
      have hv : ∃ a' cap', v' = .slice a' (l1 ++ l2).length cap' := by
        rcases h1.2 with ⟨hv, hn⟩ | ⟨g, cap, cur, hv, _⟩
        · exact ⟨none, 0, by rw [hv, hn]⟩
        · exact ⟨_, _, hv⟩
      obtain ⟨a', cap', rfl⟩ := hv
      rw [hblk] at h2
      exact h a' cap' (l1 ++ l2) w' rfl h1 h2

theorem perform_seen (M : Md) (a : Ac) {m : Nm} (h : m ≠ a.n) : (M.perform a).seen m = M.seen m := doF_other (f := M.seen) (a := a) h
theorem does_apart (M : Md) (d : Dm) (h7 : d.r ≠ 7) (m : Nm) (h : m ≠ d.n) : (M.does d).seen m = M.seen m := by
  unfold Md.does
  split
  · unfold Md.cut; split
    · exact perform_seen M _ h
    · rfl
  · unfold Md.drop; split
    · exact perform_seen M _ h
    · rfl
  · rw [sync_seen]
  · rw [flush_seen]
  · exact absurd (by assumption) h7
  · unfold Md.write; split
    · exact perform_seen M _ h
    · rfl
theorem cell_keep {w w' : World} (hb : Below w.heap.size w w') {q : Addr} {v : Value} (h : w.cell? q = some v) : w'.cell? q = some v := by
  rw [hb.cell (World.block_lt_of_cell? w _ h)]; exact h

theorem dor_one {w : World} {d : Dm} {a : Da} (h : DoV w d a) : DoR (w.alloc (.cells #[.int .i64 d.o, .string (str d.n), .slice a.x d.b.length a.c, .int .i64 d.z, .slice a.y d.k.length a.m] 25)) (some ⟨w.heap.size, 0, none⟩) [d] := by
  refine ⟨fun _ => ⟨w.heap.size, 0, rfl, fun t d' hd => ?_⟩, by unfold maxLen; simp⟩
  have ht : t = 0 := by have := (List.getElem?_eq_some_iff.1 hd).1; simpa using this
  subst ht
  obtain rfl : d = d' := by simpa using hd
  have hh := heap_alloc_new w (.cells #[.int .i64 d.o, .string (str d.n), .slice a.x d.b.length a.c, .int .i64 d.z, .slice a.y d.k.length a.m] 25)
  refine ⟨a, h.below ((Below.refl _ _).alloc (Nat.le_refl _) _) (Nat.le_refl _), ?_, ?_, ?_, ?_, ?_⟩
  · rw [cell_of_row _ w.heap.size _ _ _ _ hh]; rfl
  · rw [cell_of_row _ w.heap.size _ _ _ _ hh]; rfl
  · rw [cell_of_row _ w.heap.size _ _ _ _ hh]; rfl
  · rw [cell_of_row _ w.heap.size _ _ _ _ hh]; rfl
  · rw [cell_of_row _ w.heap.size _ _ _ _ hh]; rfl

set_option maxRecDepth 20000 in
set_option maxHeartbeats 4000000 in
theorem diskApart_walk (room : Int) (p : Option Addr) (c : Nat) (l : List Dm) (d : Dm) (a : Da) (w : World) (hR : DoR w p l) (hV : DoV w d a) :
    Calls Try.prog 7 #[.int .i64 room, .slice p l.length c, .agg #[.int .i64 d.o, .string (str d.n), .slice a.x d.b.length a.c, .int .i64 d.z, .slice a.y d.k.length a.m]] w fun e w' => e = .returned (.bool true) ∧ Below w.heap.size w w' := by
  obtain ⟨M, hM⟩ : ∃ M, M = (Md.new (room % 1048576)).runs l := ⟨_, rfl⟩
  have hI : Inv M := by rw [hM]; exact (Inv.new _).runs l
  have HM := hide hM
  clear hM
  obtain ⟨w0, hw0⟩ : ∃ w0, w0 = w.alloc (.cells #[.int .i64 d.o, .string (str d.n), .slice a.x d.b.length a.c, .int .i64 d.z, .slice a.y d.k.length a.m] 25) := ⟨_, rfl⟩
  obtain ⟨K, hKe⟩ : ∃ K, K = w.heap.size := ⟨_, rfl⟩
  have b0 : Below w.heap.size w w0 := by rw [hw0]; exact (Below.refl _ _).alloc (Nat.le_refl _) _
  have hK : w0.heap[K]? = some (.cells #[.int .i64 d.o, .string (str d.n), .slice a.x d.b.length a.c, .int .i64 d.z, .slice a.y d.k.length a.m] 25 (0, 0)) := by rw [hw0, hKe]; exact heap_alloc_new w _
  have hR0 := hide (hR.below b0 (Nat.le_refl _))
  have hV0 := hide (hV.below b0 (Nat.le_refl _))
  have B0 := hide b0
  have x0 : w0.cell? ⟨K, 0, none⟩ = some (.int .i64 d.o) := by rw [cell_of_row w0 K 0 _ _ _ hK]; rfl
  have x1 : w0.cell? ⟨K, 1, none⟩ = some (.string (str d.n)) := by rw [cell_of_row w0 K 1 _ _ _ hK]; rfl
  have x2 : w0.cell? ⟨K, 2, none⟩ = some (.slice a.x d.b.length a.c) := by rw [cell_of_row w0 K 2 _ _ _ hK]; rfl
  have x3 : w0.cell? ⟨K, 3, none⟩ = some (.int .i64 d.z) := by rw [cell_of_row w0 K 3 _ _ _ hK]; rfl
  have x4 : w0.cell? ⟨K, 4, none⟩ = some (.slice a.y d.k.length a.m) := by rw [cell_of_row w0 K 4 _ _ _ hK]; rfl
  have X : Hid (∀ w', Below w0.heap.size w0 w' → w'.cell? ⟨K, 0, none⟩ = some (.int .i64 d.o) ∧ w'.cell? ⟨K, 1, none⟩ = some (.string (str d.n)) ∧ w'.cell? ⟨K, 2, none⟩ = some (.slice a.x d.b.length a.c) ∧ w'.cell? ⟨K, 3, none⟩ = some (.int .i64 d.z) ∧ w'.cell? ⟨K, 4, none⟩ = some (.slice a.y d.k.length a.m)) :=
    fun w' hb => ⟨cell_keep hb x0, cell_keep hb x1, cell_keep hb x2, cell_keep hb x3, cell_keep hb x4⟩
  have HW0 := hide hw0
  have HKe := hide hKe
  clear hw0 hKe b0 hK hR hV x0 x1 x2 x3 x4
  go_enter Try.func7, Try.ntmps7
  go_wp2_with fail
  rw [← unhide HW0, ← unhide HKe]
  refine (made_k w0 (fun _ => .o) 0 room p c l w0 (unhide hR0) (LW.start w0)).mono ?_
  rintro e w1 ⟨D, g1, rfl, d1, L1, -⟩
  rw [← unhide HM] at d1
  cases hsb : shortB l with
  | false =>
    have L1' := hide L1
    clear hsb d1 L1 hI
    go_wp2_with fail
    refine (awake_true _).mono ?_
    rintro e v ⟨rfl, hb⟩
    have hb2 := hide ((unhide L1').below.trans (hb.mono (unhide L1').below.size))
    go_wp2
    go_ret
    exact ⟨rfl, (unhide B0).trans ((unhide hb2).mono (unhide B0).size)⟩
  | true =>
    have hlen := (shortB_len hsb).1
    have d1 := d1 hsb
    clear hsb
    obtain ⟨x0, x1, x2, x3, x4⟩ := unhide X w1 L1.below
    go_wp2_with fail
    have bx : Below w1.heap.size w1 (w1.alloc (.cells #[.int .i64 d.o, .string (str d.n), .slice a.x d.b.length a.c, .int .i64 d.z, .slice a.y d.k.length a.m] 25)) := (Below.refl _ _).alloc (Nat.le_refl _) _
    have d2 := d1.below bx
    have L2 := L1.bel bx
    refine (short_any _ 1 [d] _ (dor_one ((unhide hV0).below L1.below (Nat.le_refl _)))).mono ?_
    clear d1 bx x0 x1 x2 x3 x4 L1
    generalize (w1.alloc (.cells #[.int .i64 d.o, .string (str d.n), .slice a.x d.b.length a.c, .int .i64 d.z, .slice a.y d.k.length a.m] 25)) = w2 at *
    rintro e w2' ⟨rfl, rfl⟩
    cases hsd : shortB [d] with
    | false =>
      have L2' := hide L2
      clear hsd d2 L2 hI
      go_wp2_with fail
      refine (awake_true _).mono ?_
      rintro e v ⟨rfl, hb⟩
      have hb2 := hide ((unhide L2').below.trans (hb.mono (unhide L2').below.size))
      go_wp2
      go_ret
      exact ⟨rfl, (unhide B0).trans ((unhide hb2).mono (unhide B0).size)⟩
    | true =>
      have hdb := (shortB_len hsd).2 d List.mem_cons_self
      clear hsd
      obtain ⟨r, h8, hr, h9⟩ := op8 d.o
      have HR : Hid (d.r = r) := h9.symm
      clear h9
      obtain ⟨x0, x1, x2, x3, x4⟩ := unhide X w2' L2.below
      by_cases h7 : r = 7
      · subst h7
        have hr' : wrap64 ((IntKind.u64.wrap d.o).tmod 8) = 7 := hr
        have L2' := hide L2
        clear d2 L2 hI hr
        go_wp2_with fail
        refine (awake_true _).mono ?_
        rintro e v ⟨rfl, hb⟩
        have hb2 := hide ((unhide L2').below.trans (hb.mono (unhide L2').below.size))
        go_wp2
        go_ret
        exact ⟨rfl, (unhide B0).trans ((unhide hb2).mono (unhide B0).size)⟩
      · have hr7 : ((r : Int) == 7) = false := by simp; omega
        have H7 : Hid (d.r ≠ 7) := by show _ ≠ _; rw [unhide HR]; exact h7
        go_wp2_with fail
        refine (clone_k w0 g1 0 1 D M _ w2' (by omega) d2 L2 (by omega)).mono ?_
        rintro e w3 ⟨C, g3, rfl, d3, c3, L3, -, -⟩
        clear d2 L2 x0 x1 x2 x3 x4 hr hr7
        obtain ⟨x0, x1, x2, x3, x4⟩ := unhide X w3 L3.below
        go_wp2_with fail
        refine (does_k g3 0 D M _ d a w3 d3 (by omega) ((unhide hV0).below L3.below (Nat.le_refl _)) (by omega)).mono ?_
        rintro e w4 ⟨rfl, g4, d4, S4⟩
        have c4 := c3.st S4 (by omega)
        have L4 := L3.st S4
        have hI4 := hI.does d
        have HAP := hide (does_apart M d (unhide H7))
        generalize M.doesE d = E4 at *
        generalize M.does d = M4 at *
        clear d3 c3 L3 S4 x0 x1 x2 x3 x4
        go_wp2_with fail
        refine (list_k g4 1 C M _ w4 c4 (by omega)).mono ?_
        rintro e w5 ⟨q1, k1, l1, rfl, n1, o1, hl1, b5⟩
        go_wp2_with fail
        refine (list_k g4 0 D M4 _ w5 (d4.below b5) (by omega)).mono ?_
        rintro e w6 ⟨q2, k2, l2, rfl, n2, o2, hl2, b6⟩
        go_wp2_with (refine wp_appS _ rfl _ _ rfl w4.heap.size q1 k1 l1 rfl (o1.below b6) q2 k2 l2 rfl o2.srow (fun e => by subst e; exact o2.none) (by omega) (Nat.le_trans b5.size b6.size) ?_; rintro q3 k3 l3 w7 HL3 o3 gr3)
        have hll : l3.length ≤ 3000 := by rw [unhide HL3, List.length_append]; omega
        have hnm : ∀ n ∈ l3, n.length ≤ 24 := by
          intro n hn
          rw [unhide HL3, List.mem_append] at hn
          rcases hn with hn | hn
          · exact n1.le hI.seen hn
          · exact n2.le hI4.seen hn
        have B7 : Hid (Below w4.heap.size w4 w7) := below_grown (b5.trans (b6.mono b5.size)) gr3 (Nat.le_refl _) (fun k hk => o1.lt k hk)
        have R7 := hide o3.srow
        have LB := hide L4.below
        have C4 := hide c4
        have D4 := hide d4
        clear n1 n2 o1 o2 o3 b5 b6 gr3 HL3 hl1 hl2 L4 c4 d4
        go_loopw [50] (fun v wr => ∃ k : Nat, k ≤ l3.length ∧ v = .int .i64 (k : Int) ∧ Hid (Below w7.heap.size w7 wr)) (fun v _ => l3.length - (intOf v).toNat)
        case atStart => exact ⟨0, Nat.zero_le _, rfl, Below.refl _ _⟩
        case round =>
          obtain ⟨k, hk, rfl, HB⟩ := hrel
          have BW := hide ((unhide B7).trans ((unhide HB).mono (unhide B7).size))
          have BL := hide ((unhide LB).trans ((unhide BW).mono (unhide LB).size))
          by_cases hlt : k < l3.length
          · have hlt2 : (k : Int) < (l3.length : Int) := by omega
            obtain ⟨s, hs⟩ : ∃ s, l3[k]? = some s := ⟨_, List.getElem?_eq_getElem hlt⟩
            have hmem := List.mem_of_getElem? hs
            obtain ⟨b, o, hp, k1⟩ := ((unhide R7).below (unhide HB) (Nat.le_refl _)) (by intro e; subst e; simp at hs)
            have e1 := k1 k s hs
            subst hp
            have hs24 := hnm s hmem
            clear k1 hs hmem
            go_wp2_with fail
            refine (read_k g4 1 C M _ s wr ((unhide C4).below (unhide BW)) (by omega) (by unfold maxLen; omega)).mono ?_
            rintro e w8 ⟨y, cy, rfl, oy, b8⟩
            go_wp2_with fail
            refine (read_k g4 0 D M4 _ s w8 (((unhide D4).below (unhide BW)).below b8) (by omega) (by unfold maxLen; omega)).mono ?_
            rintro e w9 ⟨y', cy', rfl, oy', b9⟩
            have OY := hide (oy.below b9 (Nat.le_refl _))
            have OY' := hide oy'
            have HB9 := hide (((unhide HB).trans (b8.mono (unhide HB).size)).trans (b9.mono (Nat.le_trans (unhide HB).size b8.size)))
            have x1 := (unhide X w9 (((unhide BL).trans (b8.mono (unhide BL).size)).trans (b9.mono (Nat.le_trans (unhide BL).size b8.size)))).2.1
            clear oy oy' b8 b9 e1
            by_cases hsn : s = d.n
            · subst hsn
              go_wp2
              go_roundw
              case rel => exact ⟨k + 1, by omega, by go_num, HB9⟩
              case measure => simp [intOf]; omega
            · have hsn2 : (s == d.n) = false := by rw [beq_eq_false_iff_ne]; exact hsn
              have t1 := toList_str s
              have t2 := toList_str d.n
              have HT : Hid (M4.thereE s = M.thereE s) := there_eq (unhide HAP s hsn)
              have HR4 : Hid (M4.readB s = M.readB s) := read_eq (unhide HAP s hsn)
              rw [unhide HT]
              generalize M.thereE s = T at *
              go_wp2_with fail
              refine (equal_any y _ cy (M.readB s) y' _ cy' (M4.readB s) w9 (unhide OY).toBs.row (unhide OY').toBs.row rfl rfl).mono ?_
              rintro e w9' ⟨rfl, rfl⟩
              rw [show (M.readB s == M4.readB s) = true by rw [unhide HR4]; simp]
              go_wp2
              go_roundw
              case rel => exact ⟨k + 1, by omega, by go_num, HB9⟩
              case measure => simp [intOf]; omega
          · obtain rfl : k = l3.length := by omega
            go_wp2_with fail
            refine (awake_true _).mono ?_
            rintro e v ⟨rfl, hb⟩
            have hb2 := hide ((unhide BL).trans (hb.mono (unhide BL).size))
            clear hb
            go_wp2
            go_ret
            exact ⟨rfl, (unhide B0).trans ((unhide hb2).mono (unhide B0).size)⟩
#print axioms diskApart_walk
end Go.Proofs.Ytkgplikcafobmaa
