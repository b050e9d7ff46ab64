/-
  disk: kept.
-/
import Derived.Test.YtkhpjlgbiicdcaaDskK
set_option linter.unusedVariables false
namespace Go.Proofs.Ytkhpjlgbiicdcaa
open Go.RowKit Go.Maps

theorem torn_k (a : Ac) (z : Int) : (a.torn z).k = a.k := by unfold Ac.torn; split <;> rfl
theorem torn_n (a : Ac) (z : Int) : (a.torn z).n = a.n := by unfold Ac.torn; split <;> rfl
theorem torn_p (a : Ac) (z : Int) : (a.torn z).p = a.p := by unfold Ac.torn; split <;> rfl
theorem torn_b (a : Ac) (z : Int) : (a.torn z).b.length ≤ a.b.length := by unfold Ac.torn; split <;> simp <;> omega
theorem BRow.at {w : World} {a : Option Addr} {l : List Bool} (h : BRow w a l) {i : Nat} (hi : i < l.length) : ∃ b off, a = some ⟨b, off, none⟩ ∧ w.cell? ⟨b, off + i, none⟩ = some (.bool (l.getD i false)) := by
  obtain ⟨b, off, e, hc⟩ := h (by intro e; subst e; simp at hi)
  exact ⟨b, off, e, hc i hi⟩

set_option maxRecDepth 20000 in
set_option maxHeartbeats 4000000 in
theorem kept_any (P : Option Addr) (pc : Nat) (l : List At) (kp : Option Addr) (kl : List Bool) (kc : Nat) (z : Int) (L KL : Nat) (w : World) (HL : Hid (L = l.length)) (HKL : Hid (KL = kl.length)) (ho : OwnA w P pc l) (hk : BRow w kp kl) (hl : L ≤ 1000000) (hkm : KL ≤ maxLen) (h3 : ∀ t ∈ l, Bs w t.2.1 t.2.2 t.1.b ∧ t.1.b.length ≤ 1000000000) :
    Calls Try.prog 39 #[.slice P L pc, .slice kp KL kc, .int .i64 z] w fun e w' => ∃ Q qc lo, e = .returned (.slice Q lo.length qc) ∧ OwnA w' Q qc lo ∧ Hid (lo.map (·.1) = tornLast (keptL (l.map (·.1)) kl) z) ∧ Hid (∀ t ∈ lo, ∃ u ∈ l, blk t.2.1 = blk u.2.1 ∧ ∀ W, Bs W u.2.1 u.2.2 u.1.b → Bs W t.2.1 t.2.2 t.1.b) ∧ Hid (∀ k, blk Q = some k → w.heap.size ≤ k) ∧ Below w.heap.size w w' := by
  unfold maxLen at hkm
  have H3 := hide h3
  clear h3
  go_enter Try.func39, Try.ntmps39
  go_wp2
  go_loopw [7, 13] (fun s v wr => ∃ (k : Nat) (Q : Option Addr) (qc : Nat) (lo : List At) (n : Nat), k ≤ L ∧ v = .int .i64 (k : Int) ∧ s = .slice Q n qc ∧ Hid (n = lo.length) ∧ n ≤ k ∧ Hid (lo = keptL (l.take k) kl) ∧ Hid (OwnA wr Q qc lo) ∧ Hid (∀ j, blk Q = some j → w.heap.size ≤ j) ∧ Hid (Below w.heap.size w wr)) (fun _ v _ => L - (intOf v).toNat)
  case atStart => exact ⟨0, none, 0, [], 0, Nat.zero_le _, rfl, rfl, rfl, Nat.le_refl _, rfl, OwnA.nil _, (fun j hj => by cases hj), Below.refl _ _⟩
  case round =>
    obtain ⟨k, Q, qc, lo, n, hkL, rfl, rfl, HN, hnk, HLo, HO, HQ, HB⟩ := hrel
    by_cases hlt : k < L
    · have hlt2 : (k : Int) < (L : Int) := by omega
      have hlw := ho.below (unhide HB)
      obtain ⟨t, ht⟩ : ∃ t, l[k]? = some t := ⟨_, List.getElem?_eq_getElem (by have := unhide HL; omega)⟩
      obtain ⟨G, hG, a0, a1, a2, a3⟩ := hlw.at ht
      have HT := hide ht
      have HG := hide hG
      have hkw := hk.below (unhide HB) (Nat.le_refl _)
      clear hlw ht
      by_cases hkk : k < KL
      · have hkk2 : (k : Int) < (KL : Int) := by omega
        obtain ⟨b1, o1, hkp, hc1⟩ := hkw.at (i := k) (by have := unhide HKL; omega)
        have hc2 : ∀ o, (wr.alloc o).cell? ⟨b1, o1 + k, none⟩ = some (.bool (kl.getD k false)) := fun o => by
          rw [((Below.refl wr.heap.size wr).alloc (Nat.le_refl _) o).cell (World.block_lt_of_cell? _ _ hc1)]; exact hc1
        have HKP := hide hkp
        cases hb : kl.getD k false with
        | true =>
          rw [hb] at hc1 hc2
          have HBt := hide hb
          clear hb hkw
          have hown := ((unhide HO).below (w' := wr.alloc (.cells (acC t).toArray 63)) ((Below.refl _ _).alloc (Nat.le_refl _) _)).below (w' := (wr.alloc (.cells (acC t).toArray 63)).alloc (.cells (acC t).toArray 63)) ((Below.refl _ _).alloc (Nat.le_refl _) _)
          have hsrc : ((wr.alloc (.cells (acC t).toArray 63)).alloc (.cells (acC t).toArray 63)).heap[wr.heap.size + 1]? = some (.cells (acC t).toArray 63 (0, 0)) := by
            have := heap_alloc_new (wr.alloc (.cells (acC t).toArray 63)) (.cells (acC t).toArray 63)
            simpa using this
          have hnl : lo.length ≤ 1000000 := by have := unhide HN; omega
          go_wp2_with (at_builtin; refine wp_appa _ rfl _ _ rfl Q qc lo n rfl (unhide HN) hown (wr.heap.size + 1) 1 t rfl hsrc hnl ?_)
          intro G2 cap2 w2 ho2 hg2 hloc2
          rw [← unhide HG, ← unhide HKP]
          clear hG hkp hc1 hc2 a0 a1 a2 a3 hown hsrc
          have HB2 : Hid (Below w.heap.size w w2) := by
            have hb0 := unhide HB
            have := ((hb0.alloc hb0.size (.cells (acC t).toArray 63)).alloc (by simp; have := hb0.size; omega) (.cells (acC t).toArray 63))
            exact this.grown hg2 (by simp; have := hb0.size; omega) (fun j hj => unhide HQ j hj)
          have HQ2 : Hid (∀ j, blk (some ⟨G2, 0, none⟩) = some j → w.heap.size ≤ j) := by
            intro j hj
            obtain rfl : G2 = j := by simpa [blk] using hj
            rcases unhide hloc2 with e | e
            · exact unhide HQ G2 e
            · have := (unhide HB).size
              first | omega | (simp at e; omega)
          have HLo2 : Hid (lo ++ [t] = keptL (l.take (k + 1)) kl) := by
            show _ = _
            rw [take_snoc (unhide HT), keptL_snoc, unhide HLo, List.length_take, Nat.min_eq_left (by have := unhide HL; omega), unhide HBt]
            rfl
          have HN2 : Hid (n + 1 = (lo ++ [t]).length) := by show _ = _; rw [unhide HN]; simp
          go_wp2
          go_roundw
          case rel => exact ⟨k + 1, _, _, lo ++ [t], n + 1, by omega, by go_num, rfl, HN2, by omega, HLo2, ho2, HQ2, HB2⟩
          case measure => simp [intOf]; omega
        | false =>
          rw [hb] at hc1 hc2
          have HBt := hide hb
          clear hb hkw
          have HO2 : Hid (OwnA (wr.alloc (.cells (acC t).toArray 63)) Q qc lo) := (unhide HO).below ((Below.refl _ _).alloc (Nat.le_refl _) _)
          have HB2 : Hid (Below w.heap.size w (wr.alloc (.cells (acC t).toArray 63))) := (unhide HB).alloc (unhide HB).size _
          have HLo2 : Hid (lo = keptL (l.take (k + 1)) kl) := by
            show _ = _
            rw [take_snoc (unhide HT), keptL_snoc, ← unhide HLo, List.length_take, Nat.min_eq_left (by have := unhide HL; omega), unhide HBt]
            simp
          go_wp2
          exact ⟨⟨k + 1, Q, qc, lo, n, by omega, by go_num, rfl, HN, by omega, HLo2, HO2, HQ, HB2⟩, by simp [intOf]; omega⟩
      · have hkk2 : (KL : Int) ≤ (k : Int) := by omega
        have HO2 : Hid (OwnA (wr.alloc (.cells (acC t).toArray 63)) Q qc lo) := (unhide HO).below ((Below.refl _ _).alloc (Nat.le_refl _) _)
        have HB2 : Hid (Below w.heap.size w (wr.alloc (.cells (acC t).toArray 63))) := (unhide HB).alloc (unhide HB).size _
        have HLo2 : Hid (lo = keptL (l.take (k + 1)) kl) := by
          show _ = _
          have hnone : kl.getD k false = false := by rw [List.getD_eq_getElem?_getD, List.getElem?_eq_none (by have := unhide HKL; omega)]; rfl
          rw [take_snoc (unhide HT), keptL_snoc, ← unhide HLo, List.length_take, Nat.min_eq_left (by have := unhide HL; omega), hnone]
          simp
        clear hkk hkw
        go_wp2_with fail
        rw [← unhide HG]
        clear hG a0 a1 a2 a3
        go_wp2
        go_roundw
        case rel => exact ⟨k + 1, Q, qc, lo, n, by omega, by go_num, rfl, HN, by omega, HLo2, HO2, HQ, HB2⟩
        case measure => simp [intOf]; omega
    · obtain rfl : k = L := by omega
      have HLo2 : Hid (lo = keptL l kl) := by show _ = _; rw [unhide HLo, List.take_of_length_le (by have := unhide HL; omega)]
      clear HLo
      by_cases hn0 : n = 0
      · subst hn0
        have HE : Hid (lo = []) := by show _ = _; exact List.eq_nil_of_length_eq_zero (unhide HN).symm
        go_wp2
        go_ret
        refine ⟨Q, qc, lo, by rw [unhide HE]; rfl, unhide HO, ?_, ?_, HQ, unhide HB⟩
        · show _ = _
          rw [keptL_map, ← unhide HLo2, unhide HE]; rfl
        · intro t ht
          rw [unhide HE] at ht
          simp at ht
      · obtain ⟨r, t, hrt⟩ : ∃ r t, lo = r ++ [t] := by
          rcases List.eq_nil_or_concat lo with e | ⟨r, t, e⟩
          · exact absurd (by rw [unhide HN, e]; rfl) hn0
          · exact ⟨r, t, by rw [e, List.concat_eq_append]⟩
        subst hrt
        obtain ⟨R, hR⟩ : ∃ R, R = r.length := ⟨_, rfl⟩
        obtain rfl : n = R + 1 := by rw [unhide HN, hR]; simp
        have hown := unhide HO
        obtain ⟨G, hG, a0, a1, a2, a3⟩ := hown.at (i := r.length) (t := t) (by simp)
        subst hG
        rw [← hR] at a0 a1 a2 a3
        have hu : t ∈ l := keptL_mem _ _ _ (by rw [← unhide HLo2]; simp)
        have hbt := unhide H3 t hu
        have hbw := hbt.1.below (unhide HB) (Nat.le_refl _)
        have HR := hide hR
        have HUt := hide hu
        have HBt := hide hbt
        have hbl9 := hbt.2
        clear hR hn0 hu hown hbt
        go_wp2_with fail
        refine (torn_any t.1 (t.1.k : Int) (t.1.p : Int) z t.2.1 t.2.2 wr rfl hbw hbl9).mono ?_
        rintro e w2 ⟨y, rfl, hy1, hy2, hb2⟩
        have hown2 := (unhide HO).below hb2
        obtain ⟨G', hG', q0, q1, q2, q3⟩ := hown2.at (i := r.length) (t := t) (by simp)
        obtain rfl : G = G' := by simpa using hG'
        rw [← unhide HR] at q0 q1 q2 q3
        have hfz : ∀ j, w2.frozen? ⟨G, j, none⟩ = false := by
          rcases hown2.cases with ⟨e, _⟩ | ⟨g, cur, e, hg, _⟩
          · cases e
          · obtain rfl : G = g := by simpa using e
            exact fun j => frozen_of_row w2 G j _ _ hg
        have f0 := hfz (R * 4)
        have f1 := hfz (R * 4 + 1)
        have f2 := hfz (R * 4 + 2)
        have f3 := hfz (R * 4 + 3)
        have hset := hown2.setLast (t.1.torn z, y, t.2.2)
        simp only [torn_k, torn_n, torn_p] at hset
        rw [← unhide HR] at hset
        have HSet := hide hset
        have hgG : ∀ (v : World) (j : Nat) (u : Value), v.grownBy (v.setCell ⟨G, j, none⟩ u) (some G) := fun v j u => grownBy_setCell v ⟨G, j, none⟩ u
        have HB3 : Hid (Below w.heap.size w ((((w2.setCell ⟨G, R * 4, none⟩ (.int .i64 (t.1.k : Int))).setCell ⟨G, R * 4 + 1, none⟩ (.string (str t.1.n))).setCell ⟨G, R * 4 + 2, none⟩ (.int .i64 (t.1.p : Int))).setCell ⟨G, R * 4 + 3, none⟩ (.slice y (t.1.torn z).b.length t.2.2))) := by
          have hbb := (unhide HB).trans (hb2.mono (unhide HB).size)
          exact hbb.grown ((((hgG _ _ _).trans (hgG _ _ _)).trans (hgG _ _ _)).trans (hgG _ _ _)) (Nat.le_trans (Nat.le_refl _) hbb.size) (fun j hj => unhide HQ j hj)
        have HY := hide (And.intro hy1 hy2)
        clear hset hgG hown2 hfz hy1 hy2 hG' a0 a1 a2 a3 hb2
        go_wp2
        go_ret
        refine ⟨some ⟨G, 0, none⟩, qc, r ++ [(t.1.torn z, y, t.2.2)], ?_, unhide HSet, ?_, ?_, HQ, unhide HB3⟩
        · rw [show (r ++ [(t.1.torn z, y, t.2.2)]).length = R + 1 by rw [unhide HR]; simp]
          rfl
        · show _ = _
          rw [keptL_map, ← unhide HLo2, List.map_append, List.map_append]
          show _ = tornLast (r.map (·.1) ++ [t.1]) z
          rw [tornLast_snoc]
          rfl
        · intro s hs
          rcases List.mem_append.1 hs with h' | h'
          · exact ⟨s, keptL_mem _ _ _ (by rw [← unhide HLo2]; exact List.mem_append_left _ h'), rfl, fun W hW => hW⟩
          · rw [List.mem_singleton.1 h']
            exact ⟨t, unhide HUt, (unhide HY).2, (unhide HY).1⟩
#print axioms kept_any
end Go.Proofs.Ytkhpjlgbiicdcaa
