/-
  seglog's statements: SeglogRefused.
-/
import Derived.Test.YtneclcihjbkhlaaGreatDoorPkSsedbd
import Derived.Laws.OwnMore
section
set_option linter.unusedVariables false
set_option maxRecDepth 1000000
namespace Go.Proofs.YtneclcihjbkhlaaGreatDoor
open Go.RowKit Go.Maps

/-- make([]byte, n). -/
theorem mkB (n : Nat) (hn : n ≤ 1000000) : ∃ M, (∀ W : World, (Instr.makeSlice 39 (.int .i64 (n : Int)) (.int .i64 (n : Int))).run Tryz.prog W = .ok (.slice (some ⟨W.heap.size, 0, none⟩) n n) (W.alloc (.cells M 5))) ∧ ∀ W : World, OwnB (W.alloc (.cells M 5)) W.heap.size (some ⟨W.heap.size, 0, none⟩) n (List.replicate n 0) := by
  obtain ⟨i0, hi, hz0, hz1, hz2⟩ := info_parts Tryz.infoB
  refine ⟨madeCells (Value.int .u8 0).cells (((n : Nat) : Int).toNat * i0.size), fun W => ?_, fun W => ?_⟩
  · have h := run_make (P := Tryz.prog) W 39 5 i0 (.int .u8 0) Tryz.underlying39 hi hz0 .i64 .i64 (n : Int) (n : Int) (by omega) (by omega) (by rw [hz2]; omega) (by omega)
    simpa using h
  · have hl : (madeCells (Value.int .u8 0).cells (((n : Nat) : Int).toNat * i0.size)).toList = bs (List.replicate n 0) := by
      have e : (Value.int .u8 0).cells = #[.int .u8 0] := rfl
      rw [e, toList_madeCells_one, hz1]
      simp [bs]
    have hr : (List.replicate n (0 : UInt8)).length = n := List.length_replicate
    refine ⟨by simp [bs], .inr ⟨W.heap.size, n, _, by rw [hr], Nat.le_refl _, heap_alloc_new W _, by rw [hr]; exact Nat.le_refl _, by unfold maxLen; omega, ?_, ?_⟩⟩
    · rw [← Array.length_toList, hl, bs_length, hr]; omega
    · rw [hl, hr]
      exact List.take_of_length_le (by rw [bs_length, hr]; omega)
/-- A row that was made since a world, behind a call that leaves what was made since. -/
theorem sr_keep {w w' : World} {b : Nat} {a : Option Addr} {c : Nat} {vs : List Sl} {ps : List (List UInt8)} (h1 : OwnS w b a c vs) (h2 : Pays w b vs ps) (hk : ∀ j, b ≤ j → j < w.heap.size → w'.heap[j]? = w.heap[j]?) : SR w' a vs ps := by
  have h3 := h1.same9 (fun k e => hk k (h1.lt k e).1 (h1.lt k e).2)
  refine ⟨h2.len, fun hne => ?_, fun i q hq => ?_⟩
  · obtain ⟨g, rfl, _, _, _, hc⟩ := h3.some (List.length_pos_iff.2 hne)
    exact ⟨g, 0, rfl, fun i x hx => by rw [Nat.zero_add]; exact hc i x hx⟩
  · obtain ⟨c, cap, q1, q2⟩ := h2.own i q hq
    exact ⟨c, cap, q1, (q2.toBs.same9 (fun k e => hk k (q2.lt k e).1 (q2.lt k e).2)).row⟩
theorem SR.below {w w' : World} {a : Option Addr} {vs : List Sl} {ps : List (List UInt8)} (h : SR w a vs ps) (hb : Below w.heap.size w w') : SR w' a vs ps := by
  have kk : ∀ {q : Addr} {v : Value}, w.cell? q = some v → w'.cell? q = some v := fun {q v} e => by
    rw [hb.cell (World.block_lt_of_cell? w _ e)]; exact e
  refine ⟨h.len, fun hne => ?_, fun i p hp => ?_⟩
  · obtain ⟨b, off, e, hc⟩ := h.row hne
    exact ⟨b, off, e, fun i x hx => kk (hc i x hx)⟩
  · obtain ⟨c, cap, h1, h2⟩ := h.pay i p hp
    refine ⟨c, cap, h1, fun hne => ?_⟩
    obtain ⟨b, off, e, hc⟩ := h2 hne
    exact ⟨b, off, e, fun i hi => kk (hc i hi)⟩
/-- Append of a record that is too long. -/
theorem append_long (w0 w wb : World) (B D : Nat) (S : List Sg) (a : Option Addr) (c : Nat) (vs : List Sl) (all : List (List UInt8)) (k y : Nat) (x : Option Addr) (xc : Nat) (r : List UInt8) (hE : EnvS w0) (h : PlS w0 wb B D S a c vs all k y) (hb : Below wb.heap.size wb w) (hk : k ≤ 100) (hx : OwnB w wb.heap.size x xc r) (hr0 : 65536 ≤ r.length) (hr : r.length ≤ 200000) :
    Calls Tryz.prog 22 #[.pointer (some ⟨B, 0, none⟩), .slice x r.length xc] w fun e w' => e = .returned (.tuple #[.int .i64 0, .int .i64 4]) ∧ Hid (PlS w0 w' B D S a c vs all (k + 1) y) ∧ Hid (∀ j, wb.heap.size ≤ j → j < w.heap.size → w'.heap[j]? = w.heap[j]?) := by
  obtain ⟨M, N, g, P, pc, l, h1, h2, h3, h4, h5, h6, q0, hdu, hy⟩ := h
  obtain ⟨g1, hg1⟩ : ∃ g1 : Nat → Tg, g1 = fun b => if b < wb.heap.size then g b else .o := ⟨_, rfl⟩
  have st1 : St wb w g g1 (fun _ => False) := (St.ofBelow g _ hb).tag (fun k hk => by rw [hg1]; exact if_pos hk)
  have hgo : ∀ j, wb.heap.size ≤ j → g1 j = .o := fun j hj => by rw [hg1]; exact if_neg (by omega)
  have hL1 := h3.st2 st1 (fun e => e)
  have hR1 := h4.st st1 (fun e => e) (fun e => e)
  have hok := h5.ok hk
  have hsl := h5.sl
  have hrc : (S.flatMap (·.recs)).length ≤ all.length := by rw [h5.rc]; simp
  have hal := h5.al
  have hsz := h5.sz
  have hzb := szB_le hk
  have hape : apE M S r = 4 := by
    unfold apE
    have hnx := h5.nx
    have hf := (form_len (nxS S) (by omega)).2
    rw [if_neg (by omega), if_pos (by rw [List.length_append]; omega)]
  refine (append5 w0 g1 B D P pc l S M N x xc r w hE hL1 (h1.keep st1 (fun t _ e => e)) (h2.keep1 (st1.mono (fun t e => e.elim))) hok h5.wf (by omega) hx.toBs (fun j hj => ?_) (by omega) (by omega) (by omega) (by omega) (fun _ => h5.th.syE)).mono ?_
  · obtain ⟨q1, q2⟩ := hx.lt j hj
    exact ⟨q2, by rw [hgo j q1]; exact x01o⟩
  · rintro e w' ⟨n', E, rfl, hE', hr'⟩
    rw [hape] at hE'
    subst hE'
    rcases hr' with ⟨h0, _, _⟩ | ⟨h0, hn0, M', hM', hr'⟩
    · exact absurd h0 (by decide)
    · subst hn0
      obtain ⟨g', P', pc', l', q1, q2, q3⟩ := hr'
      refine ⟨rfl, ⟨M', _, g', P', pc', l', q1, q2, hL1.st2 q3 x01o, hR1.st q3 x01o x01p, h5.seen ?_, by omega, ?_⟩, fun j j1 j2 => q3.block j j2 (by rw [hgo j j1]; exact x01o)⟩
      · rcases hM' with e | e
        · rw [e]
        · rw [e, apD_seen]
      · rcases hM' with e | e
        · rw [e]; exact ⟨q0, hdu, hy⟩
        · rw [e]
          obtain ⟨qn, hd2, hd3⟩ := hdu.apd h5.th h5.wf.sz
          exact ⟨qn, hd2, Nat.lt_of_lt_of_le hy hd3⟩
theorem mod_i (o : Int) (m : Nat) (hm : 0 < m) (hmm : m ≤ 1000000) : ∃ z : Nat, z < m ∧ wrap64 ((IntKind.u64.wrap o).tmod (m : Int)) = (z : Int) ∧ IntKind.i64.wrap ((IntKind.u64.wrap o).tmod (m : Int)) = (z : Int) := by
  have e : IntKind.u64.wrap o = o % 18446744073709551616 := by simp [IntKind.wrap, IntKind.bits, IntKind.signed]
  have h0 : 0 ≤ o % 18446744073709551616 := Int.emod_nonneg _ (by omega)
  have e2 : (o % 18446744073709551616).tmod (m : Int) = o % 18446744073709551616 % (m : Int) := Int.tmod_eq_emod_of_nonneg h0
  have h1 : 0 ≤ o % 18446744073709551616 % (m : Int) := Int.emod_nonneg _ (by omega)
  have h2 : o % 18446744073709551616 % (m : Int) < (m : Int) := Int.emod_lt_of_pos _ (by omega)
  rw [e, e2]
  generalize o % 18446744073709551616 % (m : Int) = t at h1 h2
  obtain ⟨z, rfl⟩ : ∃ z : Nat, t = (z : Int) := ⟨t.toNat, by omega⟩
  refine ⟨z, by omega, IntWalk.wrap64_in _ (by omega), ?_⟩
  rw [IntKind.wrap_i64]
  omega
set_option maxHeartbeats 8000000 in
theorem refused5 (room : Int) (p : Option Addr) (pc : Nat) (l : List D5) (long : Int) (w : World) (hp : DR5 w p l) (hE : EnvS w) (hs : shr5 l = true) :
    Calls Tryz.prog 8 #[.int .i64 room, .slice p l.length pc, .int .i64 long] w fun e w' => e = .returned (.bool true) ∧ Hid (Below w.heap.size w w') := by
  obtain ⟨z, z1, hz, hz'⟩ := mod_i room 9000 (by omega) (by omega)
  have hz2 : wrap64 ((IntKind.u64.wrap room).tmod 9000) = (z : Int) := hz
  have hz3 : IntKind.i64.wrap ((IntKind.u64.wrap room).tmod 9000) = (z : Int) := hz'
  obtain ⟨u, u1, hu, hu'⟩ := mod_i long 100 (by omega) (by omega)
  have hu2 : wrap64 ((IntKind.u64.wrap long).tmod 100) = (u : Int) := hu
  have hu3 : IntKind.i64.wrap ((IntKind.u64.wrap long).tmod 100) = (u : Int) := hu'
  obtain ⟨n, hn⟩ : ∃ n : Nat, n = 65536 + u := ⟨_, rfl⟩
  have hn2 : 65536 + (u : Int) = (n : Int) := by omega
  have hn3 : IntKind.i64.wrap (65536 + (u : Int)) = (n : Int) := by rw [IntKind.wrap_i64]; omega
  have hn4 : IntKind.i64.wrap (n : Int) = (n : Int) := by rw [IntKind.wrap_i64]; omega
  obtain ⟨MK, hmk, hmk2⟩ := mkB n (by omega)
  have HMK2 := hide hmk2
  have HSH := hide (short5 p pc l w hp)
  have HBG := hide (begun5 w (fun _ => .o) (z : Int) w hE (LW.start w) (by omega) (by omega))
  have hl80 := (shr5_len hs).1
  rw [hs] at HSH
  have HS := hide hs
  have HP := hide hp
  have HE := hide hE
  have HUN : Hid (65536 ≤ n ∧ n ≤ 200000) := ⟨by omega, by omega⟩
  clear hp hE hs hz hz' hu hu' hn hmk2 u1
  go_enter Tryz.func8, Tryz.ntmps8
  go_wp2_with fail
  refine (unhide HSH).mono ?_
  rintro e v0 ⟨rfl, hv0⟩
  have hv1 := hv0.symm
  subst hv1
  clear hv0 HSH
  go_wp2_with fail
  refine (unhide HBG).mono ?_
  rintro e w1 ⟨D, B, rfl, HB1⟩
  have HPL := hide (play5 w B D p pc l w1 (unhide HE) (unhide HB1).pl (unhide HP) (unhide HS))
  clear HBG HB1
  go_wp2_with fail
  refine (unhide HPL).mono ?_
  rintro e w2 ⟨a, c, vs, all, y, S, rfl, H2⟩
  clear HPL
  have hfa := (unhide H2).facts
  obtain ⟨F, hF⟩ : ∃ F : Nat, F = vs.length + 1 := ⟨_, rfl⟩
  have hvl : vs.length ≤ 100 := by omega
  have hFw : IntKind.i64.wrap ((vs.length : Int) + 1) = (F : Int) := by rw [IntKind.wrap_i64]; omega
  have hFi : (vs.length : Int) + 1 = (F : Int) := by omega
  have HNF : Hid (nxS S = F ∧ all.length + 1 = F) := ⟨by omega, by omega⟩
  have HFR : Hid (frS S 0 = S.flatMap (·.recs)) := frS_all hfa.2.2.2.2.1 0 (by omega)
  have HRD := hide (read_pl w w2 B D S a c vs all l.length y 0 (unhide H2) (by omega) (by omega) (by omega))
  have hlf : (frS S 0).length ≤ 100 := by rw [unhide HFR, hfa.2.2.2.1, List.length_drop]; omega
  clear hfa hF
  go_wp2_with fail
  refine (unhide HRD).mono ?_
  rintro e w3 ⟨a1, c1, v1, rfl, HO1, HP1, H3, HB3⟩
  clear HRD H3
  have hv1 : v1.length ≤ 100 := by rw [(unhide HP1).len]; exact hlf
  obtain ⟨n1, hn1⟩ : ∃ n1, n1 = v1.length := ⟨_, rfl⟩
  rw [← hn1]
  have hn1b : n1 ≤ 1000000000 := by omega
  have HN1 := hide hn1
  obtain ⟨W, hW⟩ : ∃ W, W = w3.alloc (.cells MK 5) := ⟨_, rfl⟩
  have hbW : Below w3.heap.size w3 W := by rw [hW]; exact (Below.refl _ _).alloc (Nat.le_refl _) _
  have hbW2 : Below w2.heap.size w2 W := (unhide HB3).trans (hbW.mono (unhide HB3).size)
  have hoW : OwnB W w2.heap.size (some ⟨w3.heap.size, 0, none⟩) n (List.replicate n 0) := by rw [hW]; exact (unhide HMK2 w3).base (unhide HB3).size
  have hrl : (List.replicate n (0 : UInt8)).length = n := List.length_replicate
  have HAP : Hid (Calls Tryz.prog 22 #[.pointer (some ⟨B, 0, none⟩), .slice (some ⟨w3.heap.size, 0, none⟩) n n] W fun e w' => e = .returned (.tuple #[.int .i64 0, .int .i64 4]) ∧ Hid (PlS w w' B D S a c vs all (l.length + 1) y) ∧ Hid (∀ j, w2.heap.size ≤ j → j < W.heap.size → w'.heap[j]? = W.heap[j]?)) := by
    have := append_long w W w2 B D S a c vs all l.length y (some ⟨w3.heap.size, 0, none⟩) n (List.replicate n 0) (unhide HE) (unhide H2) hbW2 (by omega) hoW (by rw [hrl]; exact (unhide HUN).1) (by rw [hrl]; exact (unhide HUN).2)
    rw [hrl] at this
    exact this
  have HSW : Hid (OwnS W w2.heap.size a1 c1 v1 ∧ Pays W w2.heap.size v1 (frS S 0)) := ⟨(unhide HO1).below hbW (Nat.le_refl _), (unhide HP1).below hbW (Nat.le_refl _)⟩
  clear hbW hbW2 hoW hrl hv1 hn1 HO1 HP1 HB3 H2 HMK2
  go_wp2_with fail
  rw [← hW]
  clear hW
  refine (unhide HAP).mono ?_
  rintro e w4 ⟨rfl, H4, HK4⟩
  have HSR4 := hide (sr_keep (unhide HSW).1 (unhide HSW).2 (unhide HK4))
  clear HAP HK4 HSW
  have HRD2 := hide (read_pl w w4 B D S a c vs all (l.length + 1) y 0 (unhide H4) (by omega) (by omega) (by omega))
  go_wp2_with fail
  refine (unhide HRD2).mono ?_
  rintro e w5 ⟨a2, c2, v2, rfl, HO2, HP2, H5, HB5⟩
  have hv2 : v2.length ≤ 1000000000 := by rw [(unhide HP2).len]; omega
  have HEF := hide (eqfunc_n a2 c2 v2 (frS S 0) a1 c1 v1 (frS S 0) w5 v2.length n1 rfl HN1 (SR.of (unhide HO2) (unhide HP2)) ((unhide HSR4).below (unhide HB5)) hv2 hn1b)
  simp only [BEq.rfl] at HEF
  clear HRD2 HO2 HP2 HSR4 HB5 H4 hv2
  go_wp2_with fail
  refine (unhide HEF).mono ?_
  rintro e w6 ⟨rfl, hw6⟩
  have hw7 := hw6.symm
  subst hw7
  clear hw6 HEF
  have HNX := hide (next_pl w w5 B D S a c vs all (l.length + 1) y (unhide H5) (by omega))
  rw [(unhide HNF).1] at HNX
  go_wp2_with fail
  refine (unhide HNX).mono ?_
  rintro e w7 ⟨rfl, H7, _⟩
  clear HNX H5
  go_wp2_with fail
  refine (sync_pl w w7 B D S a c vs all (l.length + 1) y (unhide HE) (unhide H7) (by omega)).mono ?_
  rintro e w8 ⟨rfl, H8⟩
  clear H7
  have HCR := hide (crash_pl w w8 B D S a c vs all (l.length + 1 + 1) all.length none [] 0 0 0 (unhide H8) (by omega) rfl (fun h => absurd rfl h) (by unfold maxLen; omega))
  go_wp2_with fail
  refine (unhide HCR).mono ?_
  rintro e w9 ⟨rfl, S', H9, HF9⟩
  clear HCR H8
  have HOP := hide (open_cr w w9 B D S S' a c vs all _ 600 (unhide HE) (unhide H9) (by omega))
  go_wp2_with fail
  refine (unhide HOP).mono ?_
  rintro e w10 ⟨B', rfl, H10⟩
  clear HOP H9
  have HNX := hide (next_op w w10 B' D S' a c vs all _ _ (unhide H10))
  have hnF : nxS S' = F := by have h1 := unhide HF9; have h2 := unhide HNF; omega
  rw [hnF] at HNX
  clear hnF
  go_wp2_with fail
  refine (unhide HNX).mono ?_
  rintro e w11 ⟨rfl, H11, _⟩
  clear HNX
  have HAW := hide (awake5 w (fun _ => .o) w11 (unhide HE) (lw_of (unhide H11).facts.2.2.2.2.2.2.2.2))
  go_wp2_with fail
  refine (unhide HAW).mono ?_
  rintro e w12 ⟨rfl, HB12⟩
  clear HAW
  go_wp2_with fail
  go_ret
  exact ⟨rfl, HB12⟩
set_option maxHeartbeats 1000000 in
theorem refused5_long (room : Int) (p : Option Addr) (pc : Nat) (l : List D5) (tear : Int) (w : World) (hp : DR5 w p l) (hE : EnvS w) (hs : shr5 l = false) :
    Calls Tryz.prog 8 #[.int .i64 room, .slice p l.length pc, .int .i64 tear] w fun e w' => e = .returned (.bool true) ∧ Hid (Below w.heap.size w w') := by
  have HSH := hide (short5 p pc l w hp)
  have HAW := hide (awake5 w (fun _ => .o) w hE (LW.start w))
  rw [hs] at HSH
  clear hp hE hs
  go_enter Tryz.func8, Tryz.ntmps8
  go_wp2_with fail
  refine (unhide HSH).mono ?_
  rintro e v0 ⟨rfl, hv0⟩
  have hv1 := hv0.symm
  subst hv1
  clear hv0 HSH
  go_wp2_with fail
  refine (unhide HAW).mono ?_
  rintro e w1 ⟨rfl, HB1⟩
  clear HAW
  go_wp2_with fail
  go_ret
  exact ⟨rfl, HB1⟩
theorem seglogRefused_walk (room : Int) (p : Option Addr) (pc : Nat) (l : List D5) (long : Int) (w : World) (hp : DR5 w p l) (hE : EnvS w) :
    Calls Tryz.prog 8 #[.int .i64 room, .slice p l.length pc, .int .i64 long] w fun e w' => e = .returned (.bool true) ∧ Below w.heap.size w w' := by
  cases hs : shr5 l with
  | false => exact (refused5_long room p pc l long w hp hE hs).mono fun e w' h => ⟨h.1, unhide h.2⟩
  | true => exact (refused5 room p pc l long w hp hE hs).mono fun e w' h => ⟨h.1, unhide h.2⟩
#print axioms seglogRefused_walk
end Go.Proofs.YtneclcihjbkhlaaGreatDoor
end
