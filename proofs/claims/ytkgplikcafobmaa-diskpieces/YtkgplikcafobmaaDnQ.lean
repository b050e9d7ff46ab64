/-
  THE WALK OF DiskPieces.
-/
import Derived.Test.YtkgplikcafobmaaDnP
import Derived.Test.YtkgplikcafobmaaDnS
import Derived.Test.YtkgplikcafobmaaCat
set_option linter.unusedVariables false
namespace Go.Proofs.Ytkgplikcafobmaa
open Go.RowKit Go.Maps

theorem DK.sn {w : World} {g : Nat → Tg} {i D : Nat} {M : Md} {N : Nat} (h : DK w g i D M N) : M.seenN ≤ N := by
  obtain ⟨J, h1, h2, h3⟩ := h
  exact h2.sn
theorem two_cellsB (w : World) (u v : Value) : (w.alloc (.cells #[u, v] 22)).cell? ⟨w.heap.size, 0, none⟩ = some u ∧ (w.alloc (.cells #[u, v] 22)).cell? ⟨w.heap.size, 1, none⟩ = some v :=
  ⟨by rw [cell_of_row _ w.heap.size 0 _ _ _ (heap_alloc_new w _)]; rfl, by rw [cell_of_row _ w.heap.size 1 _ _ _ (heap_alloc_new w _)]; rfl⟩

theorem bad_cases {M M' : Md} {n : Nm} {i j k : Nat} (hg : ¬ M.writeE n k = 0) (hor : ¬ (M.writeE n i = 0 ∧ M'.writeE n j = 0)) :
    (M.writeE n k = 6 ∧ M.writeE n i = 6) ∨ (M.writeE n k = 7 ∧ M.writeE n i = 7) ∨ (M.writeE n k = 7 ∧ M.writeE n i = 0 ∧ M'.writeE n j = 7) := by
  unfold Md.writeE at hg hor ⊢
  by_cases h1 : isName n = true
  · simp only [h1, if_true] at hg hor ⊢
    by_cases a : M.room? n k = true <;> by_cases b : M.room? n i = true <;> by_cases c : M'.room? n j = true <;> simp [a, b, c] at hg hor ⊢
  · simp only [if_neg h1] at hg hor ⊢
    exact .inl ⟨trivial, trivial⟩

set_option maxRecDepth 20000 in
set_option maxHeartbeats 600000 in
theorem diskPieces_walk (room : Int) (p : Option Addr) (c : Nat) (l : List Dm) (nm : Nm) (pa : Option Addr) (ca : Nat) (la : List UInt8) (pb : Option Addr) (cb : Nat) (lb : List UInt8) (w : World) (hR : DoR w p l) (hn : nm.length ≤ maxLen) (hA : Bs w pa ca la) (hB : Bs w pb cb lb) (hla : la.length ≤ 1048576) (hlb : lb.length ≤ 1048576) :
    Calls Try.prog 6 #[.int .i64 room, .slice p l.length c, .string (str nm), .slice pa la.length ca, .slice pb lb.length cb] w fun e w' => e = .returned (.bool true) ∧ Below w.heap.size w w' := by
  obtain ⟨M, hM⟩ : ∃ M, M = (Md.new (room % 1048576)).runs l := ⟨_, rfl⟩
  have hI : Inv M := by rw [hM]; exact (Inv.new _).runs l
  have HM := hide hM
  clear hM
  go_enter Try.func6, Try.ntmps6
  go_wp2_with fail
  refine (made_k w (fun _ => .o) 0 room p c l w hR (LW.start w)).mono ?_
  rintro e w1 ⟨D, g1, rfl, d1, L1, -⟩
  rw [← unhide HM] at d1
  cases hsb : shortB l with
  | false =>
    have L1' := hide L1
    clear hsb d1 L1 hI
    go_wp2_with fail
    refine (awake_true _).mono ?_
    rintro e v ⟨rfl, hb⟩
    have hb2 := hide ((unhide L1').below.trans (hb.mono (unhide L1').below.size))
    go_wp2
    go_ret
    exact ⟨rfl, unhide hb2⟩
  | true =>
    obtain ⟨hlen, hbs⟩ := shortB_len hsb
    have d1 := d1 hsb
    clear hsb
    by_cases hbig : 32768 < la.length + lb.length
    · have hbig' : (32768 : Int) < (la.length : Int) + (lb.length : Int) := by omega
      have L1' := hide L1
      clear d1 L1 hI
      go_wp2_with fail
      refine (awake_true _).mono ?_
      rintro e v ⟨rfl, hb⟩
      have hb2 := hide ((unhide L1').below.trans (hb.mono (unhide L1').below.size))
      go_wp2
      go_ret
      exact ⟨rfl, unhide hb2⟩
    · have hbig' : (la.length : Int) + (lb.length : Int) ≤ 32768 := by omega
      have hAcc : Acc M := by
        rw [unhide HM]
        exact (Acc.new (by omega) (by omega)).runs (Inv.new _) l (fun d hd => by have := hbs d hd; omega)
      have hsn := d1.sn
      have HP := hide (pieces hAcc (by omega) nm la lb (by omega))
      go_wp2_with fail
      refine (clone_k w g1 0 1 D M _ w1 (by omega) d1 L1 (by omega)).mono ?_
      rintro e w2 ⟨C, g2, rfl, d2, c2, L2, -, -⟩
      clear d1 L1
      go_wp2_with fail
      refine (write_k g2 0 D M _ nm pa ca la w2 d2 (by omega) hn (hA.below L2.below (Nat.le_refl _)) (by omega)).mono ?_
      rintro e w3 ⟨rfl, g3, d3, S3⟩
      have c3 := c2.st S3 (by omega)
      have L3 := L2.st S3
      clear d2 c2 L2 S3
      go_wp2_with fail
      refine (write_k g3 0 D (M.write nm la) _ nm pb cb lb w3 d3 (by omega) hn (hB.below L3.below (Nat.le_refl _)) (by omega)).mono ?_
      rintro e w4 ⟨rfl, g4, d4, S4⟩
      have c4 := c3.st S4 (by omega)
      have L4 := L3.st S4
      clear d3 c3 L3 S4
      obtain ⟨v1, v2⟩ := two_cellsB w4 (.slice pa la.length ca) (.slice pb lb.length cb)
      have bx : Below w4.heap.size w4 (w4.alloc (.cells #[.slice pa la.length ca, .slice pb lb.length cb] 22)) := (Below.refl _ _).alloc (Nat.le_refl _) _
      have L4x : LW w (w4.alloc (.cells #[.slice pa la.length ca, .slice pb lb.length cb] 22)) g4 := L4.bel bx
      have hA4 : Bs (w4.alloc (.cells #[.slice pa la.length ca, .slice pb lb.length cb] 22)) pa ca la := hA.below L4x.below (Nat.le_refl _)
      have hB4 : Bs (w4.alloc (.cells #[.slice pa la.length ca, .slice pb lb.length cb] 22)) pb cb lb := hB.below L4x.below (Nat.le_refl _)
      have hla7 : la.length ≤ 10000000 := by omega
      have hlb7 : lb.length ≤ 10000000 := by omega
      have cc := hide (concat_two w4.heap.size pa ca la pb cb lb _ hA4 hB4 v1 v2 hla7 hlb7)
      go_wp2_with fail
      refine (unhide cc).mono ?_
      clear cc hA4 hB4 hla7 hlb7
      rintro e w5 ⟨pr, cr, r, rfl, HR, or, b5⟩
      have hr : r = la ++ lb := unhide HR
      have hr65 : r.length ≤ 65536 := by rw [hr, List.length_append]; omega
      have d5 := (d4.below bx).below b5
      have c5 := (c4.below bx).below b5
      have L5 := L4x.bel b5
      clear v1 v2 bx b5 d4 c4 L4 L4x
      have HRR := hide hr
      clear hr
      go_wp2_with fail
      refine (write_k g4 1 C M _ nm pr cr r w5 c5 (by omega) hn or.toBs hr65).mono ?_
      rintro e w6 ⟨rfl, g6, c6, S6⟩
      have d6 := d5.st S6 (by omega)
      have L6 := L5.st S6
      clear d5 c5 L5 S6 or hr65
      rw [unhide HRR] at c6 ⊢
      obtain ⟨pi, px⟩ := unhide HP
      by_cases hg : M.writeE nm (la ++ lb).length = 0
      · obtain ⟨he, hf⟩ := pi.1 hg
        obtain ⟨hse, hus⟩ := px hg
        rw [hg, he, hf]
        have HI2 : Inv (M.write nm (la ++ lb)) := hI.write _ _
        have HSE := hide hse
        have HUS := hide hus
        clear hse hus pi px he hf hg
        go_wp2_with fail
        refine (same_k g6 1 0 C D (M.write nm (la ++ lb)) ((M.write nm la).write nm lb) _ _ w6 c6 d6 (by omega) (by omega) HI2 (unhide HSE)).mono ?_
        rintro e w7 ⟨rfl, b7⟩
        have c7 := c6.below b7
        have d7 := d6.below b7
        have L7 := L6.bel b7
        clear c6 d6 L6 b7
        go_wp2_with fail
        refine (used_k g6 1 C _ _ w7 c7).mono ?_
        rintro e wx ⟨rfl, rfl⟩
        go_wp2_with fail
        refine (used_k g6 0 D _ _ _ d7).mono ?_
        rintro e wy ⟨rfl, rfl⟩
        rw [unhide HUS]
        generalize ((M.write nm la).write nm lb).used = U at *
        go_wp2_with fail
        refine (awake_true _).mono ?_
        rintro e v ⟨rfl, hb⟩
        have hb2 := hide (L7.below.trans (hb.mono L7.below.size))
        clear hb
        go_wp2
        go_ret
        exact ⟨rfl, unhide hb2⟩
      · have hc := bad_cases (M := M) (M' := M.write nm la) (n := nm) (i := la.length) (j := lb.length) (k := (la ++ lb).length) hg (fun h => hg (pi.2 h))
        have L6' := hide L6
        clear pi px c6 d6 L6 HP hg
        generalize M.writeE nm (la ++ lb).length = G at *
        generalize (M.write nm la).writeE nm lb.length = F at *
        generalize M.writeE nm la.length = E at *
        rcases hc with ⟨rfl, rfl⟩ | ⟨rfl, rfl⟩ | ⟨rfl, rfl, rfl⟩
        · go_wp2_with fail
          refine (awake_true _).mono ?_
          rintro e v ⟨rfl, hb⟩
          have hb2 := hide ((unhide L6').below.trans (hb.mono (unhide L6').below.size))
          clear hb
          go_wp2
          go_ret
          exact ⟨rfl, unhide hb2⟩
        · go_wp2_with fail
          refine (awake_true _).mono ?_
          rintro e v ⟨rfl, hb⟩
          have hb2 := hide ((unhide L6').below.trans (hb.mono (unhide L6').below.size))
          clear hb
          go_wp2
          go_ret
          exact ⟨rfl, unhide hb2⟩
        · go_wp2_with fail
          refine (awake_true _).mono ?_
          rintro e v ⟨rfl, hb⟩
          have hb2 := hide ((unhide L6').below.trans (hb.mono (unhide L6').below.size))
          clear hb
          go_wp2
          go_ret
          exact ⟨rfl, unhide hb2⟩
#print axioms diskPieces_walk
end Go.Proofs.Ytkgplikcafobmaa
