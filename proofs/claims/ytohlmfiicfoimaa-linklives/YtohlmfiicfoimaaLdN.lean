/-
  link: THE WALK of alike: both nets tell the same.
-/
import Derived.Test.YtohlmfiicfoimaaLrK
set_option linter.unusedVariables false
set_option maxRecDepth 100000
namespace Go.Proofs.Ytohlmfiicfoimaa
open Go.RowKit Go.Maps Go.Sort

theorem IRow.below {w w' : World} {B : Nat} {a : Option Addr} {l : List Int} (h : IRow w a l) (hb : Below B w w') (hB : w.heap.size ≤ B) : IRow w' a l := by
  intro hne
  obtain ⟨b, off, rfl, hc⟩ := h hne
  exact ⟨b, off, rfl, fun i s hi => by rw [hb.cell (Nat.lt_of_lt_of_le (World.block_lt_of_cell? w _ (hc i s hi)) hB)]; exact hc i s hi⟩
theorem OwnI.irow {w : World} {base : Nat} {a : Option Addr} {cap : Nat} {l : List Nat} (h : OwnI w base a cap l) : IRow w a (l.map fun (n : Nat) => (n : Int)) := by
  intro hne
  obtain ⟨g, rfl, _, _, hc⟩ := h.some (by cases l; simp at hne; simp)
  refine ⟨g, 0, rfl, fun i s hi => ?_⟩
  have hlt : i < l.length := by have := (List.getElem?_eq_some_iff.1 hi).1; simpa using this
  rw [Nat.zero_add, hc i hlt]
  rw [List.getElem?_map, List.getElem?_eq_getElem hlt] at hi
  simp at hi
  rw [List.getD_eq_getElem?_getD, List.getElem?_eq_getElem hlt, ← hi]
  rfl
/-- append(l, three ints). -/
theorem wp_appz (w : World) {ops : Array Oper} {rest : List Oper} {o : Oper} {a : Act} {Q : Exit → Act → World → Prop} (hgd : o.guard = none) (s x : Operand)
    (ho : o.op = .call { callee := .builtin .append, args := #[s, x], argTypes := #[37, 37] })
    (base : Nat) (a1 : Option Addr) (cap1 : Nat) (l1 : List Nat) (hs : a.eval s = .slice a1 l1.length cap1) (hown : OwnI w base a1 cap1 l1)
    (b cap2 : Nat) (z0 z1 z2 : Int) (hx : a.eval x = .slice (some ⟨b, 0, none⟩) 3 cap2) (h0 : w.cell? ⟨b, 0, none⟩ = some (.int .i64 z0)) (h1 : w.cell? ⟨b, 1, none⟩ = some (.int .i64 z1)) (h2 : w.cell? ⟨b, 2, none⟩ = some (.int .i64 z2))
    (hlen : l1.length ≤ 100000000) (hbase : base ≤ w.heap.size)
    (h : ∀ a' cap' (r : List Int) w', Hid (r = (l1.map fun (n : Nat) => (n : Int)) ++ [z0, z1, z2]) → Hid (IRow w' a' r) → Hid (w.grownBy w' (blk a1)) → wpList Try.prog ops Q rest (a.put o.dst (.slice a' r.length cap')) w') : wpList Try.prog ops Q (o :: rest) a w := by
  obtain ⟨i, hi, hz0, hz1, hz2⟩ := info_parts Try.infoI
  have hblk : (Value.slice a1 l1.length cap1).ownBlock = blk a1 := by cases a1 <;> rfl
  refine wpList_append_own w hgd s x 37 ho base 3 i (.int .i64 0) 1 8 Try.underlying37 hi hz0 hz1 hz2 rfl (by decide) _ _ _ hs hown ⟨b, 0, none⟩ 3 cap2 [.int .i64 z0, .int .i64 z1, .int .i64 z2] hx (by simp) ?_ (by simp [Value.oneCell']) (by unfold maxLen; omega) (by omega) hbase ?_
  · intro j u hu
    rw [addr_add]
    match j, hu with
    | 0, hu => simp at hu; rw [← hu]; exact h0
    | 1, hu => simp at hu; rw [← hu]; exact h1
    | 2, hu => simp at hu; rw [← hu]; exact h2
    | (j + 3), hu => simp at hu
  · intro v' w' k1 k2 _
    have e2 : is l1 ++ [.int .i64 z0, .int .i64 z1, .int .i64 z2] = ((l1.map fun (n : Nat) => (n : Int)) ++ [z0, z1, z2]).map encZ := by simp [is, encZ]
    rw [e2] at k1
    obtain ⟨a', c', rfl, hir⟩ := irow_of k1
    rw [hblk] at k2
    exact h a' c' _ w' rfl hir k2

set_option maxHeartbeats 1000000 in
theorem eqi_same (a1 : Option Addr) (c1 : Nat) (a2 : Option Addr) (c2 : Nat) (l : List Int) (n : Nat) (w : World) (h1 : IRow w a1 l) (h2 : IRow w a2 l) (HN : Hid (n = l.length)) (hl : n ≤ 1000000) :
    Calls Try.prog 31 #[.slice a1 n c1, .slice a2 n c2] w fun e w' => e = .returned (.bool true) ∧ Below w.heap.size w w' := by
  have H1 := hide h1
  have H2 := hide h2
  clear h1 h2
  have hnn : ((n : Int) != (n : Int)) = false := by simp
  go_enter Try.func31, Try.ntmps31
  go_wp2
  go_loopw [13] (fun v wr => ∃ k : Nat, k ≤ n ∧ v = .int .i64 (k : Int) ∧ Hid (Below w.heap.size w wr)) (fun v _ => n + 1 - (intOf v).toNat)
  case atStart => exact ⟨0, Nat.zero_le _, rfl, Below.refl _ _⟩
  case round =>
    obtain ⟨k, hk, rfl, HB⟩ := hrel
    by_cases hlt : k < n
    · have hkl2 : k < l.length := by rw [← unhide HN]; exact hlt
      obtain ⟨z, hz⟩ : ∃ z, l[k]? = some z := ⟨l[k]'hkl2, List.getElem?_eq_getElem hkl2⟩
      obtain ⟨b1, o1, e1, k1⟩ := ((unhide H1).below (unhide HB) (Nat.le_refl _)) (by intro e; subst e; simp at hkl2)
      obtain ⟨b2, o2, e2, k2⟩ := ((unhide H2).below (unhide HB) (Nat.le_refl _)) (by intro e; subst e; simp at hkl2)
      subst e1 e2
      have c1 := k1 k z hz
      have c2 := k2 k z hz
      have hkl : (k : Int) < (n : Int) := by omega
      have hzz : (z != z) = false := by simp
      clear k1 k2 hz hkl2
      go_wp2_with fail
      go_region
      go_wp2
      go_roundw
      case rel => exact ⟨k + 1, by omega, by go_num, (unhide HB).drew⟩
      case measure => simp [intOf]; omega
    · obtain rfl : k = n := by omega
      go_wp2
      go_ret
      exact ⟨rfl, unhide HB⟩
#print axioms eqi_same

set_option maxHeartbeats 8000000 in
theorem alike_any {w0 w : World} {N bm X : Nat} {M : Nm} {T : Nat} {Z : Nat → Prop} (h : NQ w0 w N bm X M M T Z) (hM : Mok M) (hT : T ≤ 120000000) :
    Calls Try.prog 10 #[.pointer (some ⟨N, 0, none⟩), .pointer (some ⟨X, 0, none⟩)] w fun e w' => e = .returned (.bool true) ∧ Hid (Below w.heap.size w w') := by
  have HQ := hide h
  have HM := hide hM
  have hfew := hM.few
  have hlim := hM.lim
  have hc1 : ∀ v : World, Below w.heap.size w v → v.cell? ⟨X, 1, none⟩ = some (.int .i64 (M.last : Int)) := fun v hv => by
    obtain ⟨g, P, R, _, ⟨la, lc, h2⟩, _⟩ := h
    exact (hv.cell h2.lt).trans h2.n1
  have HC1 := hide hc1
  clear h hM hc1
  go_enter Try.func10, Try.ntmps10
  go_wp2_with fail
  refine (nr_conns (unhide HQ) (unhide HM) hT).mono ?_
  rintro e w1 ⟨a1, c1, r, rfl, HR, HO1, HB1⟩
  go_wp2_with fail
  refine (np_conns ((unhide HQ).below (unhide HB1)) (unhide HM)).mono ?_
  rintro e w2 ⟨a2, c2, ids, rfl, HID, HIR2, HB2⟩
  have HRI : Hid ((r.map fun (n : Nat) => (n : Int)) = ids) := by show _ = _; rw [unhide HR, unhide HID]; unfold Nm.ids; rw [List.map_map]; rfl
  have hil : ids.length = r.length := by rw [← unhide HRI, List.length_map]
  have hrl : r.length ≤ 64 := by rw [unhide HR, List.length_map]; exact hfew
  have HB12 := hide ((unhide HB1).trans ((unhide HB2).mono (unhide HB1).size))
  have HO2 := hide ((unhide HO1).below (unhide HB2) (Nat.le_refl _))
  rw [hil]
  have HIL := hide hil
  clear hil
  go_wp2_with fail
  refine (eqi_same a2 c2 a1 c1 ids r.length w2 (unhide HIR2) (by rw [← unhide HRI]; exact (unhide HO2).irow) (unhide HIL).symm (by omega)).mono ?_
  rintro e w3 ⟨rfl, hb3⟩
  have HB13 := hide ((unhide HB12).trans (hb3.mono (unhide HB12).size))
  have HO3 := hide ((unhide HO2).below hb3 (Nat.le_refl _))
  have d1 := unhide HC1 w3 (unhide HB13)
  have hsz3 := (unhide HB13).size
  clear hb3
  go_wp2_with (at_builtin; refine wp_appz _ rfl _ _ rfl w.heap.size a1 c1 r rfl ((unhide HO3).alloc _) w3.heap.size 3 0 (-1) ((M.last : Int) + 1) rfl ?c2 ?c3 ?c4 ?c5 ?c6 ?_)
  case c2 => simp
  case c3 => simp
  case c4 => simp
  case c5 => omega
  case c6 => first | omega | (simp; omega)
  intro a4 c4 l4 w4 HL4 HI4 hg4
  have HB4 : Hid (Below w.heap.size w w4) := below_grown ((unhide HB13).alloc (unhide HB13).size _) (unhide hg4) (Nat.le_refl _) (fun j hj => ((unhide HO3).lt j hj).1)
  have hl4 : l4.length ≤ 67 := by rw [unhide HL4]; simp; omega
  have HW4 : Hid (∀ z ∈ l4, (Lit.int .i64 z).wf = true) := by
    intro z hz
    rw [unhide HL4] at hz
    rcases List.mem_append.1 hz with hz | hz
    · rw [unhide HRI, unhide HID] at hz
      obtain ⟨c, hc, rfl⟩ := List.mem_map.1 hz
      exact wf_id (unhide HM) hc
    · simp [Lit.wf, IntKind.min, IntKind.max, IntKind.bits, IntKind.signed] at hz ⊢
      omega
  clear hg4 HL4 d1
  go_wp2_with fail
  go_loopw [36] (fun v wr => ∃ k : Nat, k ≤ l4.length ∧ v = .int .i64 (k : Int) ∧ Hid (Below w4.heap.size w4 wr)) (fun v _ => l4.length + 1 - (intOf v).toNat)
  case atStart => exact ⟨0, Nat.zero_le _, rfl, Below.refl _ _⟩
  case round =>
    obtain ⟨k, hk, rfl, HBr⟩ := hrel
    by_cases hlt : k < l4.length
    · obtain ⟨z, hz⟩ : ∃ z, l4[k]? = some z := ⟨l4[k]'hlt, List.getElem?_eq_getElem hlt⟩
      have hwf := unhide HW4 z (List.mem_of_getElem? hz)
      obtain ⟨b1, o1, e1, k1⟩ := ((unhide HI4).below (unhide HBr) (Nat.le_refl _)) (by intro e; subst e; simp at hlt)
      subst e1
      have ck := k1 k z hz
      have hkl : (k : Int) < (l4.length : Int) := by omega
      have HBw := hide ((unhide HB4).trans ((unhide HBr).mono (unhide HB4).size))
      have HNr := hide ((unhide HQ).below (unhide HBw))
      clear k1 hz
      go_wp2_with fail
      refine (np_ends (unhide HNr) (unhide HM) z hwf).mono ?_
      rintro e wa ⟨rfl, HBa⟩
      have HNa := hide ((unhide HNr).below (unhide HBa))
      go_wp2_with fail
      refine (nr_ends (unhide HNa) (unhide HM) hT z).mono ?_
      rintro e wb ⟨rfl, HBb⟩
      have HNb := hide ((unhide HNa).below (unhide HBb))
      have HBab := hide ((unhide HBa).trans ((unhide HBb).mono (unhide HBa).size))
      generalize enP M z = P1
      generalize enQ M z = Q1
      generalize cuE M z = E1
      have q1 : (P1 != P1) = false := by simp
      have q2 : (Q1 != Q1) = false := by simp
      have q3 : (E1 != E1) = false := by simp
      obtain ⟨W, hW⟩ : ∃ W, W = wb.alloc (.cells #[.int .i64 P1, .int .i64 Q1, .int .i64 15, .int .i64 (-1)] 3) := ⟨_, rfl⟩
      have hrow : W.heap[wb.heap.size]? = some (.cells #[.int .i64 P1, .int .i64 Q1, .int .i64 15, .int .i64 (-1)] 3 (0, 0)) := by rw [hW]; exact heap_alloc_new wb _
      have HIRW : Hid (IRow W (some ⟨wb.heap.size, 0, none⟩) [P1, Q1, 15, -1]) := fun _ => ⟨wb.heap.size, 0, rfl, fun i s hi => by
        rw [Nat.zero_add, cell_of_row W _ i _ _ _ hrow]
        match i, hi with
        | 0, hi => simp at hi; rw [← hi]; rfl
        | 1, hi => simp at hi; rw [← hi]; rfl
        | 2, hi => simp at hi; rw [← hi]; rfl
        | 3, hi => simp at hi; rw [← hi]; rfl
        | (i + 4), hi => simp at hi⟩
      have HBW : Hid (Below wb.heap.size wb W) := by rw [hW]; exact (Below.refl _ _).alloc (Nat.le_refl _) _
      have HBrW := hide ((unhide HBr).trans (((unhide HBab).trans ((unhide HBW).mono (unhide HBab).size)).mono (unhide HBr).size))
      have HNW := hide ((unhide HNb).below (unhide HBW))
      clear hrow
      go_wp2_with fail
      rw [← hW]
      clear hW
      go_loopw [71] (fun v wr => ∃ j : Nat, j ≤ 4 ∧ v = .int .i64 (j : Int) ∧ Hid (Below W.heap.size W wr)) (fun v _ => 4 + 1 - (intOf v).toNat)
      case atStart => exact ⟨0, Nat.zero_le _, rfl, Below.refl _ _⟩
      case round =>
        obtain ⟨j, hj, rfl, HBj⟩ := hrel
        by_cases hjl : j < 4
        · obtain ⟨t, ht⟩ : ∃ t, ([P1, Q1, 15, -1] : List Int)[j]? = some t := ⟨_, List.getElem?_eq_getElem (by simpa using hjl)⟩
          obtain ⟨b2, o2, e2, k2⟩ := ((unhide HIRW).below (unhide HBj) (Nat.le_refl _)) (by simp)
          have cj := k2 j t ht
          obtain ⟨rfl, rfl⟩ : wb.heap.size = b2 ∧ 0 = o2 := by simpa using e2
          have hjl2 : (j : Int) < 4 := by omega
          rw [Nat.zero_add] at cj
          have HNj := hide ((unhide HNW).below (unhide HBj))
          clear k2 ht e2
          go_wp2_with fail
          refine (np_wait (unhide HNj) (unhide HM) z t hwf).mono ?_
          rintro e v1 ⟨rfl, HV1⟩
          have HN1 := hide ((unhide HNj).below (unhide HV1))
          go_wp2_with fail
          refine (nr_wait (unhide HN1) (unhide HM) hT z t).mono ?_
          rintro e v2 ⟨rfl, HV2⟩
          have HN2 := hide ((unhide HN1).below (unhide HV2))
          generalize waN M z t = A1
          generalize waE M z t = A2
          have s1 : (A1 != A1) = false := by simp
          have s2 : (A2 != A2) = false := by simp
          go_wp2_with fail
          refine (np_done (unhide HN2) (unhide HM) z t hwf).mono ?_
          rintro e v3 ⟨rfl, HV3⟩
          have HN3 := hide ((unhide HN2).below (unhide HV3))
          go_wp2_with fail
          refine (nr_done (unhide HN3) (unhide HM) hT z t).mono ?_
          rintro e v4 ⟨rfl, HV4⟩
          generalize dnB M z t = A3
          have s3 : (A3 != A3) = false := by simp
          have HBz : Hid (Below W.heap.size W v4) := by
            have g1 := (unhide HBj).trans ((unhide HV1).mono (unhide HBj).size)
            have g2 := g1.trans ((unhide HV2).mono g1.size)
            have g3 := g2.trans ((unhide HV3).mono g2.size)
            exact g3.trans ((unhide HV4).mono g3.size)
          clear cj
          go_wp2
          go_roundw
          case rel => exact ⟨j + 1, by omega, by go_num, HBz⟩
          case measure => simp [intOf]; omega
        · obtain rfl : j = 4 := by omega
          have HBend : Hid (Below w4.heap.size w4 wr) := (unhide HBrW).trans ((unhide HBj).mono (unhide HBrW).size)
          go_wp2
          go_roundw
          case rel => exact ⟨k + 1, by omega, by go_num, HBend⟩
          case measure => simp [intOf]; omega
    · obtain rfl : k = l4.length := by omega
      go_wp2
      go_ret
      exact ⟨rfl, (unhide HB4).trans ((unhide HBr).mono (unhide HB4).size)⟩
#print axioms alike_any
end Go.Proofs.Ytohlmfiicfoimaa
