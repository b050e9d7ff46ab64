/-
  LinkApart: THE WALK.
-/
import Derived.Test.YtohlmfiicfoimaaLdQ
import Derived.Deep.DeepCutAuto
import Derived.Deep.RegionHeld3
set_option linter.unusedVariables false
set_option maxRecDepth 100000
namespace Go.Proofs.Ytohlmfiicfoimaa
open Go.RowKit Go.Maps

theorem dlr_one {w : World} {d : Dl} {x : Option Addr} {c : Nat} (h : DlV w d x c) : DlR (w.alloc (.cells #[.int .i64 d.o, .int .i64 d.i, .int .i64 d.a, .int .i64 d.b, .slice x d.l.length c] 33)) (some ⟨w.heap.size, 0, none⟩) [d] := by
  have hb : Below w.heap.size w (w.alloc (.cells #[.int .i64 d.o, .int .i64 d.i, .int .i64 d.a, .int .i64 d.b, .slice x d.l.length c] 33)) := (Below.refl _ _).alloc (Nat.le_refl _) _
  refine ⟨fun _ => ⟨w.heap.size, 0, rfl, fun t d' hd => ?_⟩, by unfold maxLen; simp⟩
  have ht : t = 0 := by have := (List.getElem?_eq_some_iff.1 hd).1; simp at this; omega
  subst ht
  obtain rfl : d = d' := by simpa using hd
  refine ⟨x, c, h.below hb (Nat.le_refl _), ?_, ?_, ?_, ?_, ?_⟩ <;> simp

set_option linter.unusedSimpArgs false in
set_option maxHeartbeats 8000000 in
theorem linkApart_walk (p : Option Addr) (cp : Nat) (l : List Dl) (d : Dl) (x : Option Addr) (c : Nat) (w : World) (h1 : DlR w p l) (h2 : DlV w d x c) :
    Calls Try.prog 4 #[.slice p l.length cp, .agg #[.int .i64 d.o, .int .i64 d.i, .int .i64 d.a, .int .i64 d.b, .slice x d.l.length c]] w fun e w' => e = .returned (.bool true) ∧ Below w.heap.size w w' := by
  have hle := h1.le
  unfold maxLen at hle
  obtain ⟨W, hW⟩ : ∃ W, W = w.alloc (.cells #[.int .i64 d.o, .int .i64 d.i, .int .i64 d.a, .int .i64 d.b, .slice x d.l.length c] 33) := ⟨_, rfl⟩
  have hbW : Below w.heap.size w W := by rw [hW]; exact (Below.refl _ _).alloc (Nat.le_refl _) _
  have hbox : W.heap[w.heap.size]? = some (.cells #[.int .i64 d.o, .int .i64 d.i, .int .i64 d.a, .int .i64 d.b, .slice x d.l.length c] 33 (0, 0)) := by rw [hW]; exact heap_alloc_new w _
  have hwl : w.heap.size < W.heap.size := (Array.getElem?_eq_some_iff.1 hbox).1
  have hbc : ∀ v : World, Below W.heap.size W v → v.heap[w.heap.size]? = some (.cells #[.int .i64 d.o, .int .i64 d.i, .int .i64 d.a, .int .i64 d.b, .slice x d.l.length c] 33 (0, 0)) := fun v hv => (hv.block _ hwl).trans hbox
  have z0 : W.cell? ⟨w.heap.size, 0, none⟩ = some (.int .i64 d.o) := by rw [cell_of_row W _ 0 _ _ _ hbox]; rfl
  have z1 : W.cell? ⟨w.heap.size, 1, none⟩ = some (.int .i64 d.i) := by rw [cell_of_row W _ 1 _ _ _ hbox]; rfl
  have z2 : W.cell? ⟨w.heap.size, 2, none⟩ = some (.int .i64 d.a) := by rw [cell_of_row W _ 2 _ _ _ hbox]; rfl
  have z3 : W.cell? ⟨w.heap.size, 3, none⟩ = some (.int .i64 d.b) := by rw [cell_of_row W _ 3 _ _ _ hbox]; rfl
  have z4 : W.cell? ⟨w.heap.size, 4, none⟩ = some (.slice x d.l.length c) := by rw [cell_of_row W _ 4 _ _ _ hbox]; rfl
  have HBC := hide hbc
  have H1 := hide (h1.below hbW (Nat.le_refl _))
  have H2 := hide (h2.below hbW (Nat.le_refl _))
  have HBW := hide hbW
  clear h1 h2 hbox hbc hbW
  go_enter Try.func4, Try.ntmps4
  go_wp2_with fail
  rw [← hW]
  clear hW
  refine (short_l p cp l W (unhide H1)).mono ?_
  rintro e w1 ⟨hw1, rfl | ⟨rfl, HS1⟩⟩
  · have hw1 := hw1.symm
    subst hw1
    go_wp2_with (go_at_call 7; refine (awake_true W).mono ?_; rintro e w2 ⟨rfl, hb2⟩)
    go_ret
    exact ⟨rfl, (unhide HBW).trans (hb2.mono (unhide HBW).size)⟩
  have hw1 := hw1.symm
  subst hw1
  obtain ⟨V, hV⟩ : ∃ V, V = W.alloc (.cells #[.int .i64 d.o, .int .i64 d.i, .int .i64 d.a, .int .i64 d.b, .slice x d.l.length c] 33) := ⟨_, rfl⟩
  have HV1 : Hid (DlR V (some ⟨W.heap.size, 0, none⟩) [d]) := by rw [hV]; exact dlr_one (unhide H2)
  have HWV : Hid (Below W.heap.size W V) := by rw [hV]; exact (Below.refl _ _).alloc (Nat.le_refl _) _
  have HD1 := hide ((unhide H1).below (unhide HWV) (Nat.le_refl _))
  have HDV := hide ((unhide H2).below (unhide HWV) (Nat.le_refl _))
  have HwV : Hid (Below w.heap.size w V) := (unhide HBW).trans ((unhide HWV).mono (unhide HBW).size)
  go_wp2_with fail
  rw [← hV]
  clear hV z0 z1 z2 z3 z4
  refine (short_l (some ⟨W.heap.size, 0, none⟩) 1 [d] V (unhide HV1)).mono ?_
  rintro e w1 ⟨hw1, rfl | ⟨rfl, HS2⟩⟩
  · have hw1 := hw1.symm
    subst hw1
    go_wp2_with (go_at_call 7; refine (awake_true V).mono ?_; rintro e w2 ⟨rfl, hb2⟩)
    go_ret
    exact ⟨rfl, (unhide HwV).trans (hb2.mono (unhide HwV).size)⟩
  have hw1 := hw1.symm
  subst hw1
  have hdl : d.l.length ≤ 262144 := (unhide HS2).2 0 d rfl
  go_wp2_with fail
  refine (new_net V).mono ?_
  rintro e w1 ⟨N, bm, rfl, n1, n2, n3, n4, n5⟩
  have HN0 : Hid (NQ V (w1.alloc (.cells #[.slice none 0 0, .int .i64 0] 30)) N bm w1.heap.size ⟨[], 0⟩ ⟨[], 0⟩ ((0 + 0) * 262144) (fun _ => False)) := nq_init n1 n2 n3 n4 n5
  obtain ⟨X, hX⟩ : ∃ X, X = w1.heap.size := ⟨_, rfl⟩
  rw [← hX] at HN0
  clear n1 n2 n3 n4 n5
  go_wp2_with fail
  rw [← hX]
  clear hX
  go_loopw [31] (fun v wr => ∃ (k : Nat) (Mk : Nm), k ≤ l.length ∧ v = .int .i64 (k : Int) ∧ Hid (NQ V wr N bm X Mk Mk ((0 + k) * 262144) (fun _ => False)) ∧ Hid (Mok Mk ∧ Mk.last ≤ 0 + k )) (fun v _ => l.length - (intOf v).toNat)
  case atStart => exact ⟨0, ⟨[], 0⟩, Nat.zero_le _, rfl, HN0, hide ⟨mok_empty, Nat.le_refl _⟩⟩
  case round =>
    obtain ⟨k, Mk, hk, rfl, HN, HOK⟩ := hrel
    by_cases hlt : k < l.length
    · obtain ⟨d', hd⟩ : ∃ d', l[k]? = some d' := ⟨_, List.getElem?_eq_getElem hlt⟩
      have hk200 : k < 200 := by have := (unhide HS1).1; omega
      have hbl := (unhide HS1).2 k d' hd
      have hbel := (unhide HN).bel
      obtain ⟨b, off, hpe, hc⟩ := (unhide HD1).mem (by intro e; subst e; simp at hd)
      subst hpe
      obtain ⟨x', cx, hv, a0, a1, a2, a3, a4⟩ := hc k d' hd
      have cc : ∀ {q : Addr} {v : Value}, V.cell? q = some v → wr.cell? q = some v := fun {q v} e => by rw [hbel.cell (World.block_lt_of_cell? V _ e)]; exact e
      have c0 := cc a0
      have c1 := cc a1
      have c2 := cc a2
      have c3 := cc a3
      have c4 := cc a4
      have HV := hide hv
      have hlt' : (k : Int) < (l.length : Int) := by omega
      clear a0 a1 a2 a3 a4 cc hc hd hbel hv
      go_wp2_with fail
      refine (does_round (unhide HN) (unhide HOK).1 (by have := (unhide HOK).2; omega) (by omega) d' x' cx (unhide HV) hbl _).mono ?_
      rintro e w5 ⟨rfl, HN5, HZ5⟩
      have HN6 : Hid (NQ V w5 N bm X (stM Mk d') (stM Mk d') ((0 + (k + 1)) * 262144) (fun _ => False)) := unhide HN5
      have HOK6 : Hid (Mok (stM Mk d') ∧ (stM Mk d').last ≤ 0 + (k + 1) ) := by
        have hk3 := unhide HOK
        have hk4 := stM_last Mk d'
        exact ⟨stM_ok hk3.1 (by omega) d', by omega⟩
      clear c0 c1 c2 c3 c4 HN HN5 HOK
      go_wp2
      go_roundw
      case rel => exact ⟨k + 1, stM Mk d', by omega, by go_num, HN6, HOK6⟩
      case measure => simp [intOf]; omega
    · obtain rfl : k = l.length := by omega
      clear hlt hk
      have hMl := (unhide HOK).2
      have HOKM := hide (unhide HOK).1
      have hl200 : l.length ≤ 200 := (unhide HS1).1
      have HBOX : Hid (∀ v : World, Below V.heap.size V v → v.heap[w.heap.size]? = some (.cells #[.int .i64 d.o, .int .i64 d.i, .int .i64 d.a, .int .i64 d.b, .slice x d.l.length c] 33 (0, 0))) := fun v hv => unhide HBC v ((unhide HWV).trans (hv.mono (unhide HWV).size))
      have hb0 := unhide HBOX _ (unhide HN).bel
      have y0 : wr.cell? ⟨w.heap.size, 0, none⟩ = some (.int .i64 d.o) := by rw [cell_of_row wr _ 0 _ _ _ hb0]; rfl
      obtain ⟨r8, hr8⟩ : ∃ r8, (d.o % 8).toNat = r8 := ⟨_, rfl⟩
      have hop : wrap64 ((IntKind.u64.wrap d.o).tmod 8) = (r8 : Int) := by rw [(op8e d.o).1, hr8]
      have h88 : r8 < 8 := by rw [← hr8]; exact (op8e d.o).2
      have HR8 := hide hr8
      clear hb0 hr8
      by_cases h7 : r8 = 7
      · subst h7
        have hop : wrap64 ((IntKind.u64.wrap d.o).tmod 8) = 7 := hop
        have HBF := hide (unhide HN).bel
        go_wp2_with (go_at_call 7; refine (awake_true _).mono ?_; rintro e wz ⟨rfl, hbz⟩)
        go_ret
        exact ⟨rfl, (unhide HwV).trans (((unhide HBF).trans (hbz.mono (unhide HBF).size)).mono (unhide HwV).size)⟩
      have h7b : ((r8 : Int) == 7) = false := by simp; omega
      clear h7
      go_wp2_with fail
      refine (np_connsl (unhide HN) (unhide HOKM)).mono ?_
      rintro e wa ⟨a1, cc1, ids, rfl, HID, HIR, HBa, HLOC⟩
      clear y0
      have hidl : ids.length ≤ 64 := by rw [unhide HID]; unfold Nm.ids; rw [List.length_map]; exact (unhide HOKM).few
      have HNa := hide ((unhide HN).fresh (unhide HBa))
      have HIL : Hid (ids.length = Mk.cs.length) := by show _ = _; rw [unhide HID]; simp [Nm.ids]
      go_wp2_with fail
      go_loopw [11, 53] (fun g v wr => ∃ (k : Nat) (a2 : Option Addr) (c2 : Nat) (r : List Td), k ≤ ids.length ∧ v = .int .i64 (k : Int) ∧ g = .slice a2 r.length c2 ∧ Hid (r = (ids.take k).map (tdM Mk)) ∧ Hid (OwnD wr wa.heap.size a2 c2 r) ∧ Hid (Below wa.heap.size wa wr)) (fun _ v _ => ids.length - (intOf v).toNat)
      case atStart => exact ⟨0, none, 0, [], Nat.zero_le _, rfl, rfl, rfl, OwnD.nil _ _, Below.refl _ _⟩
      case round =>
        obtain ⟨k, a2, c2, r, hk, rfl, rfl, HR, HO, HB⟩ := hrel
        have hrl : r.length ≤ 64 := by
          rw [unhide HR, List.length_map]
          have h2 := List.length_take_le k ids
          omega
        by_cases hlt : k < ids.length
        · obtain ⟨z, hz⟩ : ∃ z, ids[k]? = some z := ⟨_, List.getElem?_eq_getElem hlt⟩
          have hwf : (Lit.int .i64 z).wf = true := by
            have hm := List.mem_of_getElem? hz
            rw [unhide HID] at hm
            obtain ⟨c', hc', rfl⟩ := List.mem_map.1 hm
            exact wf_id (unhide HOKM) hc'
          obtain ⟨b1, off1, hb1, hcell⟩ := unhide HIR (by intro e; subst e; simp at hlt)
          have ck := (unhide HB).cell (World.block_lt_of_cell? wa _ (hcell k _ hz)) |>.trans (hcell k _ hz)
          subst hb1
          have hlt' : (k : Int) < (ids.length : Int) := by omega
          have HTk : Hid (ids.take (k + 1) = ids.take k ++ [z]) := by
            show _ = _
            rw [List.take_add_one, hz]; rfl
          have HTL := hide (tells_any ((unhide HNa).below (unhide HB)) (unhide HOKM) z hwf)
          obtain ⟨t, ht⟩ : ∃ t, t = tdM Mk z := ⟨_, rfl⟩
          rw [← ht] at HTL
          have HT := hide ht
          clear hcell hz ht hwf
          obtain ⟨A, B, C, D, E, F, G⟩ := t
          go_wp2_with fail
          refine (unhide HTL).mono ?_
          rintro e wc ⟨rfl, HBc⟩
          simp only [tdV]
          have HBw := hide ((unhide HB).trans ((unhide HBc).mono (unhide HB).size))
          have HOc := hide ((unhide HO).below (unhide HBc) (Nat.le_refl _))
          clear HTL
          go_wp2_with (at_builtin; refine wp_appd _ rfl _ _ rfl wa.heap.size a2 c2 r rfl ((unhide HOc).alloc _) wc.heap.size 1 ⟨A, B, C, D, E, F, G⟩ rfl (heap_alloc_new wc _) ?c5 ?c6 ?_)
          case c5 => omega
          case c6 => have := (unhide HBw).size; first | omega | (simp; omega)
          intro a3 c3 r3 w5 hr3 HO5 hg5
          have HB5 : Hid (Below wa.heap.size wa w5) := below_grown ((unhide HBw).alloc (unhide HBw).size _) (unhide hg5) (Nat.le_refl _) (fun j hj => ((unhide HOc).lt j hj).1)
          have HR7 : Hid (r3 = (ids.take (k + 1)).map (tdM Mk)) := by show _ = _; rw [unhide hr3, unhide HR, unhide HTk, List.map_append, unhide HT]; rfl
          clear hr3 hg5
          go_wp2
          go_roundw
          case rel => exact ⟨k + 1, a3, c3, r3, by omega, by go_num, rfl, HR7, HO5, HB5⟩
          case measure => simp [intOf]; omega
        · have hk9 : k = ids.length := by omega
          subst hk9
          have HR6 : Hid (r = ids.map (tdM Mk)) := by show _ = _; rw [unhide HR, List.take_length]
          have HRL : Hid (r.length = ids.length) := by show _ = _; rw [unhide HR6, List.length_map]
          clear hlt hk
          obtain ⟨Z, hZ⟩ : ∃ Z : Nat → Prop, Z = fun b => blk a2 = some b ∨ blk a1 = some b := ⟨_, rfl⟩
          have HNb : Hid (NQ V wr N bm X Mk Mk (l.length * 262144) Z) := by
            have h3 := ((unhide HNa).fresh (unhide HB)).up (T' := l.length * 262144) (by omega)
            refine h3.sub (fun b hb => ?_)
            rw [hZ] at hb
            rcases hb with hb | hb
            · exact .inr ((unhide HO).lt b hb)
            · exact .inl (.inr (unhide HLOC b hb))
          have HIRb := hide ((unhide HIR).zs (Z := fun b => b < wa.heap.size) ⟨(unhide HB).size, fun b hb => (unhide HB).block b hb⟩ (fun b hb => (unhide HLOC b hb).2))
          have HZa : Hid (∀ b, blk a2 = some b → Z b) := fun b hb => by rw [hZ]; exact .inl hb
          have HZb : Hid (∀ b, blk a1 = some b → Z b) := fun b hb => by rw [hZ]; exact .inr hb
          clear hZ
          have hbb := unhide HBOX _ (unhide HNb).bel
          have y0 : wr.cell? ⟨w.heap.size, 0, none⟩ = some (.int .i64 d.o) := by rw [cell_of_row wr _ 0 _ _ _ hbb]; rfl
          have y1 : wr.cell? ⟨w.heap.size, 1, none⟩ = some (.int .i64 d.i) := by rw [cell_of_row wr _ 1 _ _ _ hbb]; rfl
          have y2 : wr.cell? ⟨w.heap.size, 2, none⟩ = some (.int .i64 d.a) := by rw [cell_of_row wr _ 2 _ _ _ hbb]; rfl
          have y3 : wr.cell? ⟨w.heap.size, 3, none⟩ = some (.int .i64 d.b) := by rw [cell_of_row wr _ 3 _ _ _ hbb]; rfl
          have y4 : wr.cell? ⟨w.heap.size, 4, none⟩ = some (.slice x d.l.length c) := by rw [cell_of_row wr _ 4 _ _ _ hbb]; rfl
          clear hbb
          go_wp2_with fail
          refine (does_any (unhide HNb) (unhide HOKM) (by omega) (by omega) d x c (unhide HDV) hdl).mono ?_
          rintro e wd ⟨rfl, HN7, HZ7⟩
          have HO7 := hide ((unhide HO).zs (unhide HZ7) (unhide HZa))
          have HI7 := hide ((unhide HIRb).zs (unhide HZ7) (unhide HZb))
          have HOK7 := hide (stM_ok (unhide HOKM) (by omega) d)
          clear y0 y1 y2 y3 y4 HNb HO HB HIRb HZ7
          go_wp2_with fail
          go_loopw [71] (fun v we => ∃ (k : Nat), k ≤ ids.length ∧ v = .int .i64 (k : Int) ∧ Hid (Below wd.heap.size wd we)) (fun v _ => ids.length - (intOf v).toNat)
          case atStart => exact ⟨0, Nat.zero_le _, rfl, Below.refl _ _⟩
          case round =>
            obtain ⟨k, hk, rfl, HBe⟩ := hrel
            by_cases hlt : k < ids.length
            · obtain ⟨z, hz⟩ : ∃ z, ids[k]? = some z := ⟨_, List.getElem?_eq_getElem hlt⟩
              obtain ⟨c', hc', hci⟩ : ∃ c', c' ∈ Mk.cs ∧ (c'.id : Int) = z := by
                have hm := List.mem_of_getElem? hz
                rw [unhide HID] at hm
                exact List.mem_map.1 hm
              have hwf : (Lit.int .i64 z).wf = true := by rw [← hci]; exact wf_id (unhide HOKM) hc'
              obtain ⟨b1, off1, hb1, hcell⟩ := IRow.belowq (unhide HI7) (unhide HBe) (Nat.le_refl _) (by intro e; subst e; simp at hlt)
              have ck := hcell k _ hz
              subst hb1
              have hrk : r[k]? = some (tdM Mk z) := by rw [unhide HR6, List.getElem?_map, hz]; rfl
              obtain ⟨g2, hg2, hcell2⟩ := ((unhide HO7).below (unhide HBe) (Nat.le_refl _)).at hrk
              subst hg2
              have hlt' : (k : Int) < (ids.length : Int) := by omega
              have HST : Hid (r8 = 0 ∨ z ≠ d.i → tdM (stM Mk d) z = tdM Mk z) := fun hor => by
                refine tdM_congr ?_
                rw [← hci]
                exact stM_stays (unhide HOKM) (by omega) d hc' (by rw [unhide HR8]; intro e; subst e; simp at h7b) (by rw [unhide HR8, hci]; exact hor)
              have HTL := hide (tells_any ((unhide HN7).below (unhide HBe)) (unhide HOK7) z hwf)
              obtain ⟨t, ht⟩ : ∃ t, t = tdM Mk z := ⟨_, rfl⟩
              rw [← ht] at HST hcell2
              obtain ⟨A, B, C, D, E, F, G⟩ := t
              have d0 : wr.cell? ⟨g2, k * 7, none⟩ = some (.int .i64 A) := hcell2 0 _ rfl
              have d1 := hcell2 1 _ rfl
              have d2 := hcell2 2 _ rfl
              have d3 := hcell2 3 _ rfl
              have d4 := hcell2 4 _ rfl
              have d5 := hcell2 5 _ rfl
              have d6 := hcell2 6 _ rfl
              have hbb := unhide HBOX _ ((unhide HN7).below (unhide HBe)).bel
              have y1 : wr.cell? ⟨w.heap.size, 1, none⟩ = some (.int .i64 d.i) := by rw [cell_of_row wr _ 1 _ _ _ hbb]; rfl
              have hkr : k < r.length := by rw [unhide HRL]; exact hlt
              have hkr' : (k : Int) < (r.length : Int) := by omega
              have HWF := hide hwf
              clear hcell hcell2 hz hrk ht hwf hbb hc' hci HTL
              go_upto_region 25 with fail
              have HTD := hide (tells_any (((unhide HN7).below (unhide HBe)).below ((Below.refl wr.heap.size wr).drew)) (unhide HOK7) z (unhide HWF))
              go_cut [93] (fun s wx => s = .bool false ∧ Hid (Below wd.heap.size wd wx))
              case first =>
                by_cases h0 : r8 = 0
                · subst h0
                  rw [unhide HST (.inl rfl)] at HTD
                  have q0 : (((0 : Nat) : Int) == 0) = true := rfl
                  rw [show ((0 : Nat) : Int) = 0 from rfl]
                  simp only [tdV] at HTD
                  refine wp_region_held_drew (S := (fun w' => w'.cell? ⟨g2, k * 7, none⟩ = some (.int .i64 A) ∧ w'.cell? ⟨g2, k * 7 + 1, none⟩ = some (.int .i64 B) ∧ w'.cell? ⟨g2, k * 7 + 2, none⟩ = some (.int .i64 C) ∧ w'.cell? ⟨g2, k * 7 + 3, none⟩ = some (.int .i64 D) ∧ w'.cell? ⟨g2, k * 7 + 4, none⟩ = some (.int .i64 E) ∧ w'.cell? ⟨g2, k * 7 + 5, none⟩ = some (.bool F) ∧ w'.cell? ⟨g2, k * 7 + 6, none⟩ = some (.bool G))) (by kernel_rfl) ⟨d0, d1, d2, d3, d4, d5, d6⟩ (fun hHeld => ?_)
                  refine wpAnyH_take (i := 0) (oi := ?_) (v := ?_) ?_ (by kernel_rfl) ?_ ?_ ?_ ?_ hHeld ?_
                  rotate_left 2
                  · (simp only [List.getElem?_toArray, List.getElem?_cons_succ, List.getElem?_cons_zero]) <;> with_reducible rfl
                  · kernel_rfl
                  · kernel_rfl
                  · exact fun _ _ _ h => h
                  · exact Or.inl ⟨by rfl, by (intro w hSw; (try dsimp only at hSw); go_simp <;> with_reducible rfl)⟩
                  simp only [Act.put, List.setIfInBounds_toArray, List.set_cons_zero, List.set_cons_succ]
                  refine wpAnyH_take (i := 1) (oi := ?_) (v := ?_) ?_ (by kernel_rfl) ?_ ?_ ?_ ?_ hHeld ?_
                  rotate_left 2
                  · (simp only [List.getElem?_toArray, List.getElem?_cons_succ, List.getElem?_cons_zero]) <;> with_reducible rfl
                  · kernel_rfl
                  · kernel_rfl
                  · exact fun _ _ _ h => h
                  · exact Or.inl ⟨by rfl, by (intro w hSw; (try dsimp only at hSw); go_simp <;> with_reducible rfl)⟩
                  simp only [Act.put, List.setIfInBounds_toArray, List.set_cons_zero, List.set_cons_succ]
                  refine wpAnyH_take (i := 2) (oi := ?_) (v := ?_) ?_ (by kernel_rfl) ?_ ?_ ?_ ?_ hHeld ?_
                  rotate_left 2
                  · (simp only [List.getElem?_toArray, List.getElem?_cons_succ, List.getElem?_cons_zero]) <;> with_reducible rfl
                  · kernel_rfl
                  · kernel_rfl
                  · exact fun _ _ _ h => h
                  · exact Or.inl ⟨by rfl, by (intro w hSw; (try dsimp only at hSw); go_simp <;> with_reducible rfl)⟩
                  simp only [Act.put, List.setIfInBounds_toArray, List.set_cons_zero, List.set_cons_succ]
                  refine wpAnyH_take (i := 3) (oi := ?_) (v := undef) ?_ (by kernel_rfl) ?_ ?_ ?_ ?_ hHeld ?_
                  rotate_left 1
                  · (simp only [List.getElem?_toArray, List.getElem?_cons_succ, List.getElem?_cons_zero]) <;> with_reducible rfl
                  · kernel_rfl
                  · kernel_rfl
                  · exact fun _ _ _ h => h
                  · exact Or.inr ⟨by rfl, rfl⟩
                  simp only [Act.put, List.setIfInBounds_toArray, List.set_cons_zero, List.set_cons_succ]
                  refine wpAnyH_take (i := 4) (oi := ?_) (v := undef) ?_ (by kernel_rfl) ?_ ?_ ?_ ?_ hHeld ?_
                  rotate_left 1
                  · (simp only [List.getElem?_toArray, List.getElem?_cons_succ, List.getElem?_cons_zero]) <;> with_reducible rfl
                  · kernel_rfl
                  · kernel_rfl
                  · exact fun _ _ _ h => h
                  · exact Or.inr ⟨by rfl, rfl⟩
                  simp only [Act.put, List.setIfInBounds_toArray, List.set_cons_zero, List.set_cons_succ]
                  refine wpAnyH_take (i := 5) (oi := ?_) (v := undef) ?_ (by kernel_rfl) ?_ ?_ ?_ ?_ hHeld ?_
                  rotate_left 1
                  · (simp only [List.getElem?_toArray, List.getElem?_cons_succ, List.getElem?_cons_zero]) <;> with_reducible rfl
                  · kernel_rfl
                  · kernel_rfl
                  · exact fun _ _ _ h => h
                  · exact Or.inr ⟨by rfl, rfl⟩
                  simp only [Act.put, List.setIfInBounds_toArray, List.set_cons_zero, List.set_cons_succ]
                  refine wpAnyH_take (i := 6) (oi := ?_) (v := undef) ?_ (by kernel_rfl) ?_ ?_ ?_ ?_ hHeld ?_
                  rotate_left 1
                  · (simp only [List.getElem?_toArray, List.getElem?_cons_succ, List.getElem?_cons_zero]) <;> with_reducible rfl
                  · kernel_rfl
                  · kernel_rfl
                  · exact fun _ _ _ h => h
                  · exact Or.inr ⟨by rfl, rfl⟩
                  simp only [Act.put, List.setIfInBounds_toArray, List.set_cons_zero, List.set_cons_succ]
                  refine wpAnyH_take (i := 7) (oi := ?_) (v := ?_) ?_ (by kernel_rfl) ?_ ?_ ?_ ?_ hHeld ?_
                  rotate_left 2
                  · (simp only [List.getElem?_toArray, List.getElem?_cons_succ, List.getElem?_cons_zero]) <;> with_reducible rfl
                  · kernel_rfl
                  · kernel_rfl
                  · exact fun _ _ _ h => h
                  · exact Or.inl ⟨by rfl, by (intro w hSw; (try dsimp only at hSw); go_simp <;> with_reducible rfl)⟩
                  simp only [Act.put, List.setIfInBounds_toArray, List.set_cons_zero, List.set_cons_succ]
                  refine wpAnyH_take (i := 8) (oi := ?_) (v := ?_) ?_ (by kernel_rfl) ?_ ?_ ?_ ?_ hHeld ?_
                  rotate_left 2
                  · (simp only [List.getElem?_toArray, List.getElem?_cons_succ, List.getElem?_cons_zero]) <;> with_reducible rfl
                  · kernel_rfl
                  · kernel_rfl
                  · exact fun _ _ _ h => h
                  · exact Or.inl ⟨by rfl, by (intro w hSw; (try dsimp only at hSw); go_simp <;> with_reducible rfl)⟩
                  simp only [Act.put, List.setIfInBounds_toArray, List.set_cons_zero, List.set_cons_succ]
                  refine wpAnyH_take (i := 9) (oi := ?_) (v := ?_) ?_ (by kernel_rfl) ?_ ?_ ?_ ?_ hHeld ?_
                  rotate_left 2
                  · (simp only [List.getElem?_toArray, List.getElem?_cons_succ, List.getElem?_cons_zero]) <;> with_reducible rfl
                  · kernel_rfl
                  · kernel_rfl
                  · exact fun _ _ _ h => h
                  · exact Or.inl ⟨by rfl, by (intro w hSw; (try dsimp only at hSw); go_simp <;> with_reducible rfl)⟩
                  simp only [Act.put, List.setIfInBounds_toArray, List.set_cons_zero, List.set_cons_succ]
                  refine wpAnyH_take (i := 10) (oi := ?_) (v := ?_) ?_ (by kernel_rfl) ?_ ?_ ?_ ?_ hHeld ?_
                  rotate_left 2
                  · (simp only [List.getElem?_toArray, List.getElem?_cons_succ, List.getElem?_cons_zero]) <;> with_reducible rfl
                  · kernel_rfl
                  · kernel_rfl
                  · exact fun _ _ _ h => h
                  · exact Or.inl ⟨by rfl, by (intro w hSw; (try dsimp only at hSw); go_simp <;> with_reducible rfl)⟩
                  simp only [Act.put, List.setIfInBounds_toArray, List.set_cons_zero, List.set_cons_succ]
                  refine wpAnyH_take (i := 12) (oi := ?_) (v := ?_) ?_ (by kernel_rfl) ?_ ?_ ?_ ?_ hHeld ?_
                  rotate_left 2
                  · (simp only [List.getElem?_toArray, List.getElem?_cons_succ, List.getElem?_cons_zero]) <;> with_reducible rfl
                  · kernel_rfl
                  · kernel_rfl
                  · exact fun _ _ _ h => h
                  · exact Or.inl ⟨by rfl, by (intro w hSw; (try dsimp only at hSw); go_simp <;> with_reducible rfl)⟩
                  simp only [Act.put, List.setIfInBounds_toArray, List.set_cons_zero, List.set_cons_succ]
                  refine wpAnyH_take (i := 13) (oi := ?_) (v := ?_) ?_ (by kernel_rfl) ?_ ?_ ?_ ?_ hHeld ?_
                  rotate_left 2
                  · (simp only [List.getElem?_toArray, List.getElem?_cons_succ, List.getElem?_cons_zero]) <;> with_reducible rfl
                  · kernel_rfl
                  · kernel_rfl
                  · exact fun _ _ _ h => h
                  · exact Or.inl ⟨by rfl, by (intro w hSw; (try dsimp only at hSw); go_simp <;> with_reducible rfl)⟩
                  simp only [Act.put, List.setIfInBounds_toArray, List.set_cons_zero, List.set_cons_succ]
                  refine wpAnyH_take (i := 14) (oi := ?_) (v := ?_) ?_ (by kernel_rfl) ?_ ?_ ?_ ?_ hHeld ?_
                  rotate_left 2
                  · (simp only [List.getElem?_toArray, List.getElem?_cons_succ, List.getElem?_cons_zero]) <;> with_reducible rfl
                  · kernel_rfl
                  · kernel_rfl
                  · exact fun _ _ _ h => h
                  · exact Or.inl ⟨by rfl, by (intro w hSw; (try dsimp only at hSw); go_simp <;> with_reducible rfl)⟩
                  simp only [Act.put, List.setIfInBounds_toArray, List.set_cons_zero, List.set_cons_succ]
                  refine wpAnyH_take (i := 15) (oi := ?_) (v := ?_) ?_ (by kernel_rfl) ?_ ?_ ?_ ?_ hHeld ?_
                  rotate_left 2
                  · (simp only [List.getElem?_toArray, List.getElem?_cons_succ, List.getElem?_cons_zero]) <;> with_reducible rfl
                  · kernel_rfl
                  · kernel_rfl
                  · exact fun _ _ _ h => h
                  · exact Or.inl ⟨by rfl, by (intro w hSw; (try dsimp only at hSw); go_simp <;> with_reducible rfl)⟩
                  simp only [Act.put, List.setIfInBounds_toArray, List.set_cons_zero, List.set_cons_succ]
                  refine wpAnyH_ready (rs := [11]) (by kernel_rfl) (by simp) (AllReadyH.cons (o := ?_) ?_ (fun K hK => ?_) AllReadyH.nil)
                  rotate_left 1
                  · (simp only [List.getElem?_toArray, List.getElem?_cons_succ, List.getElem?_cons_zero]) <;> with_reducible rfl
                  go_simp
                  refine (unhide HTD).mono ?_
                  rintro e w2 ⟨rfl, HB2⟩
                  have cc2 : ∀ {q : Addr} {v : Value}, wr.cell? q = some v → w2.cell? q = some v := fun {q v} e => (by rw [(unhide HB2).cell (World.block_lt_of_cell? wr _ e)]; exact e)
                  clear hHeld
                  refine hK.out _ _ ⟨cc2 d0, cc2 d1, cc2 d2, cc2 d3, cc2 d4, cc2 d5, cc2 d6⟩ (fun hHeld => ?_)
                  clear hK K
                  (try simp only [Act.put, List.setIfInBounds_toArray, List.set_cons_zero, List.set_cons_succ])
                  refine wpAnyH_take (i := 16) (oi := ?_) (v := ?_) ?_ (by kernel_rfl) ?_ ?_ ?_ ?_ hHeld ?_
                  rotate_left 2
                  · (simp only [List.getElem?_toArray, List.getElem?_cons_succ, List.getElem?_cons_zero]) <;> with_reducible rfl
                  · kernel_rfl
                  · kernel_rfl
                  · exact fun _ _ _ h => h
                  · exact Or.inl ⟨by rfl, by (intro w hSw; (try dsimp only at hSw); go_simp <;> with_reducible rfl)⟩
                  simp only [Act.put, List.setIfInBounds_toArray, List.set_cons_zero, List.set_cons_succ]
                  refine wpAnyH_take (i := 17) (oi := ?_) (v := ?_) ?_ (by kernel_rfl) ?_ ?_ ?_ ?_ hHeld ?_
                  rotate_left 2
                  · (simp only [List.getElem?_toArray, List.getElem?_cons_succ, List.getElem?_cons_zero]) <;> with_reducible rfl
                  · kernel_rfl
                  · kernel_rfl
                  · exact fun _ _ _ h => h
                  · exact Or.inl ⟨by rfl, by (intro w hSw; (try dsimp only at hSw); go_simp <;> with_reducible rfl)⟩
                  simp only [Act.put, List.setIfInBounds_toArray, List.set_cons_zero, List.set_cons_succ]
                  refine wpAnyH_done (by kernel_rfl) ?_ _
                  go_wp2_with fail
                  go_meet
                  exact ⟨rfl, ((unhide HBe).drew).trans ((unhide HB2).mono (unhide HBe).size)⟩
                · have q0 : ((r8 : Int) == 0) = false := by simp; omega
                  by_cases hzi : z = d.i
                  · have q1 : (z != d.i) = false := by simp [hzi]
                    clear hzi
                    go_quiet (fail)
                    all_goals go_wp2_with fail
                    all_goals go_meet
                    all_goals exact ⟨rfl, ⟨(unhide HBe).os, (unhide HBe).tape, (unhide HBe).output, (unhide HBe).size, (unhide HBe).block⟩⟩
                  · have q1 : (z != d.i) = true := by simp [hzi]
                    rw [unhide HST (.inr hzi)] at HTD
                    clear hzi
                    simp only [tdV] at HTD
                    go_region_held3 (fun w' => w'.cell? ⟨w.heap.size, 1, none⟩ = some (.int .i64 d.i) ∧ w'.cell? ⟨g2, k * 7, none⟩ = some (.int .i64 A) ∧ w'.cell? ⟨g2, k * 7 + 1, none⟩ = some (.int .i64 B) ∧ w'.cell? ⟨g2, k * 7 + 2, none⟩ = some (.int .i64 C) ∧ w'.cell? ⟨g2, k * 7 + 3, none⟩ = some (.int .i64 D) ∧ w'.cell? ⟨g2, k * 7 + 4, none⟩ = some (.int .i64 E) ∧ w'.cell? ⟨g2, k * 7 + 5, none⟩ = some (.bool F) ∧ w'.cell? ⟨g2, k * 7 + 6, none⟩ = some (.bool G)) (first | exact S2 | exact ⟨y1, d0, d1, d2, d3, d4, d5, d6⟩ | go_keep) ((go_at_call 12; refine (unhide HTD).mono ?_; rintro e w2 ⟨rfl, HB2⟩; have cc2 : ∀ {q : Addr} {v : Value}, wr.cell? q = some v → w2.cell? q = some v := fun {q v} e => (by rw [(unhide HB2).cell (World.block_lt_of_cell? wr _ e)]; exact e); have S2 := And.intro (cc2 y1) (And.intro (cc2 d0) (And.intro (cc2 d1) (And.intro (cc2 d2) (And.intro (cc2 d3) (And.intro (cc2 d4) (And.intro (cc2 d5) (cc2 d6)))))))))
                    all_goals
                      go_wp2_with fail
                      go_meet
                      exact ⟨rfl, ((unhide HBe).drew).trans ((unhide HB2).mono (unhide HBe).size)⟩
              case rest =>
                obtain ⟨rfl, HBx⟩ := hcut
                go_wp2
                go_roundw
                case rel => exact ⟨k + 1, by omega, by go_num, HBx⟩
                case measure => simp [intOf]; omega
            · have hk9 : k = ids.length := by omega
              subst hk9
              have HBF := hide ((unhide HN7).below (unhide HBe)).bel
              go_wp2_with (go_at_call 7; refine (awake_true _).mono ?_; rintro e wz ⟨rfl, hbz⟩)
              go_ret
              exact ⟨rfl, (unhide HwV).trans (((unhide HBF).trans (hbz.mono (unhide HBF).size)).mono (unhide HwV).size)⟩
#print axioms linkApart_walk
end Go.Proofs.Ytohlmfiicfoimaa
