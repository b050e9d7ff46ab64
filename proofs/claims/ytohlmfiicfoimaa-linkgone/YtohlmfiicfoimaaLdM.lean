/-
  LinkGone: THE WALK.
-/
import Derived.Test.YtohlmfiicfoimaaLdL
set_option linter.unusedVariables false
set_option maxRecDepth 100000
namespace Go.Proofs.Ytohlmfiicfoimaa
open Go.RowKit Go.Maps

set_option maxHeartbeats 8000000 in
theorem linkGone_walk (p : Option Addr) (cp : Nat) (l : List Dl) (q : Option Addr) (cq : Nat) (m : List Dl) (node : Int) (w : World) (h1 : DlR w p l) (h2 : DlR w q m) :
    Calls Try.prog 5 #[.slice p l.length cp, .slice q m.length cq, .int .i64 node] w fun e w' => e = .returned (.bool true) ∧ Below w.heap.size w w' := by
  have hle := h1.le
  have hme := h2.le
  unfold maxLen at hle hme
  have H1 := hide h1
  have H2 := hide h2
  clear h1 h2
  go_enter Try.func5, Try.ntmps5
  go_wp2_with fail
  refine (short_l p cp l w (unhide H1)).mono ?_
  rintro e w1 ⟨hw1, rfl | ⟨rfl, HS1⟩⟩
  · have hw1 := hw1.symm
    subst hw1
    go_wp2_with (go_at_call 7; refine (awake_true w).mono ?_; rintro e w2 ⟨rfl, hb2⟩)
    go_ret
    exact ⟨rfl, hb2⟩
  have hw1 := hw1.symm
  subst hw1
  go_wp2_with fail
  refine (short_l q cq m w (unhide H2)).mono ?_
  rintro e w1 ⟨hw1, rfl | ⟨rfl, HS2⟩⟩
  · have hw1 := hw1.symm
    subst hw1
    go_wp2_with (go_at_call 7; refine (awake_true w).mono ?_; rintro e w2 ⟨rfl, hb2⟩)
    go_ret
    exact ⟨rfl, hb2⟩
  have hw1 := hw1.symm
  subst hw1
  go_wp2_with fail
  refine (new_net w).mono ?_
  rintro e w1 ⟨N, bm, rfl, n1, n2, n3, n4, n5⟩
  have HN0 : Hid (NQ w (w1.alloc (.cells #[.slice none 0 0, .int .i64 0] 30)) N bm w1.heap.size ⟨[], 0⟩ ⟨[], 0⟩ ((0 + 0) * 262144) (fun _ => False)) := nq_init n1 n2 n3 n4 n5
  obtain ⟨X, hX⟩ : ∃ X, X = w1.heap.size := ⟨_, rfl⟩
  rw [← hX] at HN0
  clear n1 n2 n3 n4 n5
  go_wp2_with fail
  rw [← hX]
  clear hX
  go_loopw [37] (fun v wr => ∃ (k : Nat) (Mk : Nm), k ≤ l.length ∧ v = .int .i64 (k : Int) ∧ Hid (NQ w wr N bm X Mk Mk ((0 + k) * 262144) (fun _ => False)) ∧ Hid (Mok Mk ∧ Mk.last ≤ 0 + k )) (fun v _ => l.length - (intOf v).toNat)
  case atStart => exact ⟨0, ⟨[], 0⟩, Nat.zero_le _, rfl, HN0, hide ⟨mok_empty, Nat.le_refl _⟩⟩
  case round =>
    obtain ⟨k, Mk, hk, rfl, HN, HOK⟩ := hrel
    by_cases hlt : k < l.length
    · obtain ⟨d, hd⟩ : ∃ d, l[k]? = some d := ⟨_, List.getElem?_eq_getElem hlt⟩
      have hk200 : k < 200 := by have := (unhide HS1).1; omega
      have hbl := (unhide HS1).2 k d hd
      have hbel := (unhide HN).bel
      obtain ⟨b, off, hpe, hc⟩ := (unhide H1).mem (by intro e; subst e; simp at hd)
      subst hpe
      obtain ⟨x, cx, hv, a0, a1, a2, a3, a4⟩ := hc k d hd
      have cc : ∀ {q : Addr} {v : Value}, w.cell? q = some v → wr.cell? q = some v := fun {q v} e => by rw [hbel.cell (World.block_lt_of_cell? w _ e)]; exact e
      have c0 := cc a0
      have c1 := cc a1
      have c2 := cc a2
      have c3 := cc a3
      have c4 := cc a4
      have HV := hide hv
      have hlt' : (k : Int) < (l.length : Int) := by omega
      clear a0 a1 a2 a3 a4 cc hc hd hbel hv
      go_wp2_with fail
      refine (does_round (unhide HN) (unhide HOK).1 (by have := (unhide HOK).2; omega) (by omega) d x cx (unhide HV) hbl _).mono ?_
      rintro e w5 ⟨rfl, HN5, HZ5⟩
      have HN6 : Hid (NQ w w5 N bm X (stM Mk d) (stM Mk d) ((0 + (k + 1)) * 262144) (fun _ => False)) := unhide HN5
      have HOK6 : Hid (Mok (stM Mk d) ∧ (stM Mk d).last ≤ 0 + (k + 1) ) := by
        have hk3 := unhide HOK
        have hk4 := stM_last Mk d
        exact ⟨stM_ok hk3.1 (by omega) d, by omega⟩
      clear c0 c1 c2 c3 c4 HN HN5 HOK
      go_wp2
      go_roundw
      case rel => exact ⟨k + 1, stM Mk d, by omega, by go_num, HN6, HOK6⟩
      case measure => simp [intOf]; omega
    · obtain rfl : k = l.length := by omega
      clear hlt hk
      have hMl := (unhide HOK).2
      have HOKM := hide (unhide HOK).1
      have hl200 : l.length ≤ 200 := (unhide HS1).1
      go_wp2_with fail
      refine (np_conns (unhide HN) (unhide HOKM)).mono ?_
      rintro e wa ⟨a1, cc1, ids, rfl, HID, HIR, HBa⟩
      have hidl : ids.length ≤ 64 := by rw [unhide HID]; unfold Nm.ids; rw [List.length_map]; exact (unhide HOKM).few
      have HNa := hide ((unhide HN).below (unhide HBa))
      have HIL : Hid (ids.length = Mk.cs.length) := by show _ = _; rw [unhide HID]; simp [Nm.ids]
      go_wp2_with fail
      go_loopw [11, 50] (fun g v wb => ∃ (k : Nat) (a2 : Option Addr) (c2 : Nat) (r : List Nat), k ≤ ids.length ∧ v = .int .i64 (k : Int) ∧ g = .slice a2 r.length c2 ∧ Hid (r = goneL (Mk.cs.take k) node) ∧ Hid (OwnI wb wa.heap.size a2 c2 r) ∧ Hid (Below wa.heap.size wa wb)) (fun _ v _ => ids.length - (intOf v).toNat)
      case atStart => exact ⟨0, none, 0, [], Nat.zero_le _, rfl, rfl, rfl, OwnI.nil _ _, Below.refl _ _⟩
      case round =>
        obtain ⟨k, a2, c2, r, hk, rfl, rfl, HR, HO, HB⟩ := hrel
        rename_i wb _
        have hrl : r.length ≤ 64 := by
          rw [unhide HR]
          have h1 := goneL_len (Mk.cs.take k) node
          have h2 := List.length_take_le k Mk.cs
          omega
        by_cases hlt : k < ids.length
        · obtain ⟨c, hc⟩ : ∃ c, Mk.cs[k]? = some c := ⟨_, List.getElem?_eq_getElem (by rw [← unhide HIL]; exact hlt)⟩
          have hcm := List.mem_of_getElem? hc
          have hck : ids[k]? = some (c.id : Int) := by rw [unhide HID]; unfold Nm.ids; rw [List.getElem?_map, hc]; rfl
          obtain ⟨b1, off1, hb1, hcell⟩ := unhide HIR (by intro e; subst e; simp at hlt)
          subst hb1
          have ck := (unhide HB).cell (World.block_lt_of_cell? wa _ (hcell k _ hck)) |>.trans (hcell k _ hck)
          have hlt' : (k : Int) < (ids.length : Int) := by omega
          have HTk : Hid (Mk.cs.take (k + 1) = Mk.cs.take k ++ [c]) := by
            show _ = _
            rw [List.take_add_one, hc]; rfl
          have hgc : Mk.get (c.id : Int) = some c := (unhide HOKM).get hcm rfl
          have e1 : enP Mk c.id = c.p := by unfold enP; rw [hgc]
          have e2 : enQ Mk c.id = c.q := by unfold enQ; rw [hgc]
          have HEN := hide (np_ends ((unhide HNa).below (unhide HB)) (unhide HOKM) (c.id : Int) (wf_id (unhide HOKM) hcm))
          rw [e1, e2] at HEN
          clear hcell hck hc hgc e1 e2
          go_wp2_with fail
          refine (unhide HEN).mono ?_
          rintro e wc ⟨rfl, HBc⟩
          have HBw := hide ((unhide HB).trans ((unhide HBc).mono (unhide HB).size))
          have HOc := hide ((unhide HO).below (unhide HBc) (Nat.le_refl _))
          have hsi := side_iff c node
          cases hf : (!decide (c.side node < 0)) with
          | true =>
            rw [hf] at hsi
            have HR5 : Hid (r ++ [c.id] = goneL (Mk.cs.take (k + 1)) node) := by show _ = _; rw [unhide HTk, goneL_snoc, if_pos hf, unhide HR]
            have hor : (c.p == node) = true ∨ ((c.p == node) = false ∧ (c.q == node) = true) := by
              cases h1 : (c.p == node)
              · right; rw [h1] at hsi; simpa using hsi.symm
              · left; rfl
            clear hf hsi
            rcases hor with hp | ⟨hp, hq⟩
            · go_wp2_with (at_builtin; refine wp_appi _ rfl _ _ rfl wa.heap.size a2 c2 r rfl ((unhide HOc).alloc _) wc.heap.size 1 c.id rfl (cell_liti _ _ _ rfl) ?c5 ?c6 ?_)
              case c5 => omega
              case c6 => have := (unhide HBw).size; first | omega | (simp; omega)
              intro a3 c3 r3 w5 hr3 ho5 hg5
              have HB5 : Hid (Below wa.heap.size wa w5) := below_grown ((unhide HBw).alloc (unhide HBw).size _) hg5 (Nat.le_refl _) (fun j hj => ((unhide HOc).lt j hj).1)
              have HR7 : Hid (r3 = goneL (Mk.cs.take (k + 1)) node) := by show _ = _; rw [unhide hr3]; exact unhide HR5
              have HO5 := hide ho5
              clear hr3 ho5 hg5
              go_wp2
              go_roundw
              case rel => exact ⟨k + 1, a3, c3, r3, by omega, by go_num, rfl, HR7, HO5, HB5⟩
              case measure => simp [intOf]; omega
            · go_wp2_with (at_builtin; refine wp_appi _ rfl _ _ rfl wa.heap.size a2 c2 r rfl ((unhide HOc).alloc _) wc.heap.size 1 c.id rfl (cell_liti _ _ _ rfl) ?c5 ?c6 ?_)
              case c5 => omega
              case c6 => have := (unhide HBw).size; first | omega | (simp; omega)
              intro a3 c3 r3 w5 hr3 ho5 hg5
              have HB5 : Hid (Below wa.heap.size wa w5) := below_grown ((unhide HBw).alloc (unhide HBw).size _) hg5 (Nat.le_refl _) (fun j hj => ((unhide HOc).lt j hj).1)
              have HR7 : Hid (r3 = goneL (Mk.cs.take (k + 1)) node) := by show _ = _; rw [unhide hr3]; exact unhide HR5
              have HO5 := hide ho5
              clear hr3 ho5 hg5
              go_wp2
              go_roundw
              case rel => exact ⟨k + 1, a3, c3, r3, by omega, by go_num, rfl, HR7, HO5, HB5⟩
              case measure => simp [intOf]; omega
          | false =>
            rw [hf] at hsi
            have HR5 : Hid (r = goneL (Mk.cs.take (k + 1)) node) := by show _ = _; rw [unhide HTk, goneL_snoc, if_neg (by rw [hf]; simp), List.append_nil, unhide HR]
            have hp : (c.p == node) = false := by cases h1 : (c.p == node); rfl; rw [h1] at hsi; simp at hsi
            have hq : (c.q == node) = false := by cases h1 : (c.q == node); rfl; rw [h1] at hsi; simp at hsi
            clear hf hsi
            go_wp2
            go_roundw
            case rel => exact ⟨k + 1, a2, c2, r, by omega, by go_num, rfl, HR5, HOc, HBw⟩
            case measure => simp [intOf]; omega
        · have hk9 : k = ids.length := by omega
          subst hk9
          have HR6 : Hid (r = goneL Mk.cs node) := by show _ = _; rw [unhide HR, unhide HIL, List.take_length]
          clear hlt hk
          have HNb := hide (((unhide HNa).fresh (unhide HB)).sub (Z' := fun b => blk a2 = some b) (fun b hb => by have := (unhide HO).lt b hb; exact .inr this))
          have hdn : drN Mk node = (r.length : Int) := by
            unfold drN
            have h1 := goneL_len Mk.cs node
            rw [unhide HR6]
            omega
          have HND := hide (np_drop (unhide HNb) (unhide HOKM) node)
          rw [hdn] at HND
          have hneq : ((r.length : Int) != (r.length : Int)) = false := by simp
          clear hdn
          go_wp2_with fail
          refine (unhide HND).mono ?_
          rintro e wd ⟨rfl, HN7, HZ7⟩
          have HO7 := hide ((unhide HO).zs (unhide HZ7) (fun g hg => hg))
          go_wp2_with fail
          refine (nr_drop (unhide HN7) (unhide HOKM) (by omega) node).mono ?_
          rintro e we ⟨rfl, HN8, HZ8⟩
          have HO8 := hide ((unhide HO7).zs (unhide HZ8) (fun g hg => hg))
          have HGN : Hid (∀ i ∈ r, Gn (drM Mk node) (i : Int)) := fun i hi => goneL_drop Mk (unhide HOKM) node (by rw [← unhide HR6]; exact hi)
          obtain ⟨M2, hM2⟩ : ∃ M2, M2 = drM Mk node := ⟨_, rfl⟩
          have HOK2 : Hid (Mok M2 ∧ M2.last ≤ l.length) := by rw [hM2]; refine ⟨drM_ok (unhide HOKM) node, ?_⟩; show Mk.last ≤ l.length; omega
          rw [← hM2] at HN8 HGN
          have HN9 : Hid (NQ w we N bm X M2 M2 ((l.length + 0) * 262144) (fun b => blk a2 = some b)) := (unhide HN8).up (by omega)
          clear hM2 HN7 HN8 HO HO7 HND HNb HB HZ7 HZ8
          go_wp2_with fail
          go_loopw [85] (fun v wr => ∃ (k : Nat) (Mk : Nm), k ≤ m.length ∧ v = .int .i64 (k : Int) ∧ Hid (NQ w wr N bm X Mk Mk ((l.length + k) * 262144) (fun b => blk a2 = some b)) ∧ Hid (Mok Mk ∧ Mk.last ≤ l.length + k ∧ (∀ i ∈ r, Gn Mk (i : Int))) ∧ Hid (OwnI wr wa.heap.size a2 c2 r)) (fun v _ => m.length - (intOf v).toNat)
          case atStart => exact ⟨0, M2, Nat.zero_le _, rfl, HN9, hide ⟨(unhide HOK2).1, (unhide HOK2).2, unhide HGN⟩, HO8⟩
          case round =>
            obtain ⟨k, Mk, hk, rfl, HN, HOK, HOg⟩ := hrel
            by_cases hlt : k < m.length
            · obtain ⟨d, hd⟩ : ∃ d, m[k]? = some d := ⟨_, List.getElem?_eq_getElem hlt⟩
              have hk200 : k < 200 := by have := (unhide HS2).1; omega
              have hbl := (unhide HS2).2 k d hd
              have hbel := (unhide HN).bel
              obtain ⟨b, off, hpe, hc⟩ := (unhide H2).mem (by intro e; subst e; simp at hd)
              subst hpe
              obtain ⟨x, cx, hv, a0, a1, a2, a3, a4⟩ := hc k d hd
              have cc : ∀ {q : Addr} {v : Value}, w.cell? q = some v → wr.cell? q = some v := fun {q v} e => by rw [hbel.cell (World.block_lt_of_cell? w _ e)]; exact e
              have c0 := cc a0
              have c1 := cc a1
              have c2' := cc a2
              have c3 := cc a3
              have c4 := cc a4
              have HV := hide hv
              have hlt' : (k : Int) < (m.length : Int) := by omega
              clear a0 a1 a2 a3 a4 cc hc hd hbel hv
              go_wp2_with fail
              refine (does_round (unhide HN) (unhide HOK).1 (by have := (unhide HOK).2.1; omega) (by omega) d x cx (unhide HV) hbl _).mono ?_
              rintro e w5 ⟨rfl, HN5, HZ5⟩
              have HN6 : Hid (NQ w w5 N bm X (stM Mk d) (stM Mk d) ((l.length + (k + 1)) * 262144) (fun b => blk a2 = some b)) := unhide HN5
              have HOK6 : Hid (Mok (stM Mk d) ∧ (stM Mk d).last ≤ l.length + (k + 1) ∧ (∀ i ∈ r, Gn (stM Mk d) (i : Int))) := by
                have hk3 := unhide HOK
                have hk4 := stM_last Mk d
                exact ⟨stM_ok hk3.1 (by omega) d, by omega, fun i hi => stM_gone d (hk3.2.2 i hi)⟩
              have HO9 := hide ((unhide HOg).zs (unhide HZ5) (fun g hg => hg))
              clear c0 c1 c2' c3 c4 HN HN5 HOK HOg
              go_wp2
              go_roundw
              case rel => exact ⟨k + 1, stM Mk d, by omega, by go_num, HN6, HOK6, HO9⟩
              case measure => simp [intOf]; omega
            · obtain rfl : k = m.length := by omega
              clear hlt hk
              have HGf := hide (unhide HOK).2.2
              have HOKf := hide (unhide HOK).1
              have hrl9 : r.length ≤ 64 := hrl
              obtain ⟨T9, hT9⟩ : ∃ T9, T9 = (l.length + m.length) * 262144 := ⟨_, rfl⟩
              rw [← hT9] at HN
              clear hT9
              go_wp2_with fail
              go_loopw [97] (fun v wr => ∃ (k : Nat), k ≤ r.length ∧ v = .int .i64 (k : Int) ∧ Hid (NQ w wr N bm X Mk Mk T9 (fun b => blk a2 = some b)) ∧ Hid (OwnI wr wa.heap.size a2 c2 r)) (fun v _ => r.length - (intOf v).toNat)
              case atStart => exact ⟨0, Nat.zero_le _, rfl, HN, HOg⟩
              case round =>
                obtain ⟨k, hk, rfl, HNk, HOk⟩ := hrel
                by_cases hlt : k < r.length
                · obtain ⟨gg, hgg, hg1, hg2, hcell⟩ := (unhide HOk).some (by omega)
                  subst hgg
                  have ck := hcell k hlt
                  have hmem : r.getD k 0 ∈ r := by rw [List.getD_eq_getElem?_getD, List.getElem?_eq_getElem hlt]; exact List.getElem_mem hlt
                  obtain ⟨i0, hi0⟩ : ∃ i0, i0 = r.getD k 0 := ⟨_, rfl⟩
                  rw [← hi0] at ck hmem
                  have hgn := unhide HGf i0 hmem
                  have hwf : (Lit.int .i64 (i0 : Int)).wf = true := wf_i64 _ (by omega) (by have := hgn.2; have := (unhide HOKf).lim; omega)
                  have e1 : crE Mk (i0 : Int) node 9 = 30 := by unfold crE; rw [hgn.1]
                  have e2 : crM Mk (i0 : Int) node 9 = Mk := by unfold crM; rw [hgn.1]
                  have e3 : cuE Mk (i0 : Int) = 30 := by unfold cuE; rw [hgn.1]
                  have e4 : cuM Mk (i0 : Int) = Mk := by unfold cuM; rw [hgn.1]
                  have e5 : dnB Mk (i0 : Int) node = true := by unfold dnB; rw [hgn.1]
                  have hni : (i0 : Int) ∉ Mk.ids := fun hm => by
                    obtain ⟨c, hc, e⟩ := List.mem_map.1 hm
                    exact Nm.get_none hgn.1 c hc e
                  have hlt' : (k : Int) < (r.length : Int) := by omega
                  have HCR := hide (np_carry (unhide HNk) (unhide HOKf) (i0 : Int) node 9 hwf (by omega))
                  rw [e1, e2] at HCR
                  have HWF := hide hwf
                  have HNI := hide hni
                  have HE34 := hide (And.intro e3 (And.intro e4 e5))
                  clear hcell hi0 hmem hgn e1 e2 e3 e4 e5 hwf hni
                  go_wp2_with fail
                  refine (unhide HCR).mono ?_
                  rintro e wA ⟨xA, kA, rA, rfl, _, _, HNA, HZA⟩
                  have HNA2 := hide ((unhide HNA).sub (Z' := fun b => blk (some (⟨gg, 0, none⟩ : Addr)) = some b) (fun b hb => .inl hb))
                  have HOA := hide ((unhide HOk).zs (unhide HZA) (fun g hg => hg))
                  have HCU := hide (np_cut (unhide HNA2) (unhide HOKf) (i0 : Int) (unhide HWF))
                  rw [(unhide HE34).1, (unhide HE34).2.1] at HCU
                  clear HCR HNA HZA ck
                  go_wp2_with fail
                  refine (unhide HCU).mono ?_
                  rintro e wB ⟨rfl, HNB, HZB⟩
                  have HOB := hide ((unhide HOA).zs (unhide HZB) (fun g hg => hg))
                  have HDN := hide (np_done (unhide HNB) (unhide HOKf) (i0 : Int) node (unhide HWF))
                  rw [(unhide HE34).2.2] at HDN
                  go_wp2_with fail
                  refine (unhide HDN).mono ?_
                  rintro e wC ⟨rfl, HBC⟩
                  have HNC := hide ((unhide HNB).below (unhide HBC))
                  have HOC := hide ((unhide HOB).below (unhide HBC) (Nat.le_refl _))
                  go_wp2_with fail
                  refine (np_conns (unhide HNC) (unhide HOKf)).mono ?_
                  rintro e wD ⟨aD, cD, iD, rfl, HID2, HIR2, HBD⟩
                  have HND2 := hide ((unhide HNC).below (unhide HBD))
                  have HOD := hide ((unhide HOC).below (unhide HBD) (Nat.le_refl _))
                  go_wp2_with fail
                  refine (contains_out aD cD iD (i0 : Int) wD (unhide HIR2) (by rw [unhide HID2]; unfold Nm.ids; rw [List.length_map]; have := (unhide HOKf).few; omega) (by rw [unhide HID2]; exact unhide HNI)).mono ?_
                  rintro e wE ⟨rfl, hwE⟩
                  have hwE := hwE.symm
                  subst hwE
                  go_wp2
                  go_roundw
                  case rel => exact ⟨k + 1, by omega, by go_num, HND2, HOD⟩
                  case measure => simp [intOf]; omega
                · obtain rfl : k = r.length := by omega
                  have HBF := hide (unhide HNk).bel
                  go_wp2_with (go_at_call 7; refine (awake_true _).mono ?_; rintro e wz ⟨rfl, hbz⟩)
                  go_ret
                  exact ⟨rfl, (unhide HBF).trans (hbz.mono (unhide HBF).size)⟩

#print axioms linkGone_walk
end Go.Proofs.Ytohlmfiicfoimaa
