/-
  wsock: the reference's Read.
-/
import Derived.Test.YtiiafkjdeoabaaaDoorWsrA
import Derived.Deep.QuietTactic
import Derived.BigQuiet
set_option linter.unusedVariables false
set_option maxRecDepth 1000000
namespace Go.Proofs.YtiiafkjdeoabaaaDoor
open Go.RowKit


set_option linter.unusedSimpArgs false in
set_option maxHeartbeats 2000000 in
theorem rrd_any (a : Option Addr) (cap : Nat) (B : List UInt8) (mask : Bool) (w : World) (hB : Bs w a cap B) :
    Calls Tryd.prog 7 #[.slice a B.length cap, .bool mask] w fun e w' => Hid (Below w.heap.size w w') ∧
      ((Hid (rdY B mask ≠ 0) ∧ e = .returned (.tuple #[.agg #[.bool false, .int .i64 0, .slice none 0 0], .int .i64 0, .int .i64 (rdY B mask : Nat)])) ∨
       (Hid (rdY B mask = 0) ∧ ∃ a' c' r, e = .returned (.tuple #[.agg #[.bool (kFin B), .int .i64 (kOp B : Nat), .slice a' r.length c'], .int .i64 (rdEnd B mask : Nat), .int .i64 0]) ∧ Hid (r = rdL B mask) ∧ Hid (OwnB w' w.heap.size a' c' r))) := by
  have hmost := hB.most
  have hle := hB.le
  unfold maxLen at hmost
  have HBd := hide hB
  obtain ⟨W, hW⟩ : ∃ W, W = (w.alloc (.cells #[.bool false, .int .i64 0, .slice none 0 0] 26)).alloc (.cells #[.bool false, .int .i64 0, .slice none 0 0] 26) := ⟨_, rfl⟩
  have hb1 : Below w.heap.size w W := by rw [hW]; exact ((Below.refl _ _).alloc (Nat.le_refl _) _).alloc (by simp) _
  have hR : W.heap[w.heap.size]? = some (.cells #[.bool false, .int .i64 0, .slice none 0 0] 26 (0, 0)) := by rw [hW]; exact (Below.heap_alloc _ _ w.heap.size (by simp)).trans (heap_alloc_new w _)
  have hZ : W.heap[w.heap.size + 1]? = some (.cells #[.bool false, .int .i64 0, .slice none 0 0] 26 (0, 0)) := by
    have := heap_alloc_new (w.alloc (.cells #[.bool false, .int .i64 0, .slice none 0 0] 26)) (.cells #[.bool false, .int .i64 0, .slice none 0 0] 26)
    rw [show (w.alloc (.cells #[.bool false, .int .i64 0, .slice none 0 0] 26)).heap.size = w.heap.size + 1 by simp] at this
    rw [hW]; exact this
  have HWB := hide hb1
  have HWR := hide hR
  have HWZ := hide hZ
  clear hb1 hR hZ
  go_enter Tryd.func7, Tryd.ntmps7
  go_upto_region 2 with fail
  rw [← hW]
  clear hW
  have r0 : W.cell? ⟨w.heap.size, 0, none⟩ = some (.bool false) := by rw [cell_of_row W w.heap.size 0 _ _ _ (unhide HWR)]; rfl
  have r1 : W.cell? ⟨w.heap.size, 1, none⟩ = some (.int .i64 0) := by rw [cell_of_row W w.heap.size 1 _ _ _ (unhide HWR)]; rfl
  have r2 : W.cell? ⟨w.heap.size, 2, none⟩ = some (.slice none 0 0) := by rw [cell_of_row W w.heap.size 2 _ _ _ (unhide HWR)]; rfl
  have g0 : W.frozen? ⟨w.heap.size, 0, none⟩ = false := frozen_of_row W w.heap.size 0 _ _ (unhide HWR)
  have g1 : W.frozen? ⟨w.heap.size, 1, none⟩ = false := frozen_of_row W w.heap.size 1 _ _ (unhide HWR)
  have g2 : W.frozen? ⟨w.heap.size, 2, none⟩ = false := frozen_of_row W w.heap.size 2 _ _ (unhide HWR)
  have z0 : W.cell? ⟨w.heap.size + 1, 0, none⟩ = some (.bool false) := by rw [cell_of_row W (w.heap.size + 1) 0 _ _ _ (unhide HWZ)]; rfl
  have z1 : W.cell? ⟨w.heap.size + 1, 1, none⟩ = some (.int .i64 0) := by rw [cell_of_row W (w.heap.size + 1) 1 _ _ _ (unhide HWZ)]; rfl
  have z2 : W.cell? ⟨w.heap.size + 1, 2, none⟩ = some (.slice none 0 0) := by rw [cell_of_row W (w.heap.size + 1) 2 _ _ _ (unhide HWZ)]; rfl
  by_cases h1 : B.length < 1
  · have h1' : (B.length : Int) = 0 := by omega
    have HY : Hid (rdY B mask = 1) := by show _ = _; unfold rdY kY; rw [if_pos h1]; rfl
    clear h1
    go_wp2
    refine bodyPost_ret (v := .tuple #[.agg #[.bool false, .int .i64 0, .slice none 0 0], .int .i64 0, .int .i64 1]) (by simp [results, Tryd.results7, go_sem, r0, r1, r2]) rfl ⟨below3 (unhide HWB) (Nat.le_refl _) (Nat.le_refl _) _ _ _, .inl ⟨?_, ?_⟩⟩
    · show _ ≠ _
      rw [unhide HY]; omega
    · rw [unhide HY]; rfl
  have h1' : ¬ (B.length : Int) = 0 := by omega
  have hp : (0 : Int) < (B.length : Int) := by omega
  obtain ⟨b, off, rfl, hc⟩ := ((unhide HBd).below (unhide HWB) (Nat.le_refl _)).row (by intro e; subst e; simp at h1)
  have c0 := hc 0 (by omega)
  obtain ⟨y, hyy⟩ : ∃ y, B.getD 0 0 = y := ⟨_, rfl⟩
  rw [hyy, Nat.add_zero] at c0
  obtain ⟨fin, hfin⟩ : ∃ fin, fin = kFin B := ⟨_, rfl⟩
  obtain ⟨op, hop⟩ : ∃ op, op = kOp B := ⟨_, rfl⟩
  have a128 : decide ((128 : Int) ≤ (y.toNat : Int)) = fin := by rw [hfin]; unfold kFin; rw [hyy]; exact decide_eq_decide.2 (by omega)
  have a15 : (y.toNat : Int).tmod 16 = (op : Int) := by rw [hop]; unfold kOp; rw [hyy]; rfl
  obtain ⟨sp, hsp⟩ : ∃ sp : Bool, sp = decide (y.toNat / 16 % 8 ≠ 0) := ⟨_, rfl⟩
  obtain ⟨d, hd⟩ : ∃ d, d = y.toNat / 16 := ⟨_, rfl⟩
  obtain ⟨d8, hd8⟩ : ∃ d8, d8 = d % 8 := ⟨_, rfl⟩
  have d1 : (y.toNat : Int).tdiv 16 = (d : Int) := by rw [hd]; rfl
  have d2 : (y.toNat : Int) / 16 = (d : Int) := by rw [hd]; rfl
  have d3 : (d : Int).tmod 8 = (d8 : Int) := by rw [hd8]; rfl
  have d4 : (d : Int) % 8 = (d8 : Int) := by rw [hd8]; rfl
  have a112 : ((d8 : Int) != 0) = sp := by rw [hsp, ← hd, ← hd8]; by_cases h : d8 = 0 <;> simp [h]
  have a113 : ((d8 : Int) == 0) = !sp := by rw [← a112]; simp [bne]
  have hd16 : d < 16 := by have := y.toNat_lt; omega
  have hd88 : d8 < 8 := by omega
  have hop16 : op < 16 := by rw [hop]; unfold kOp; omega
  have hy256 := y.toNat_lt
  have HFE := hide hfin
  have HOE := hide hop
  have HY1 : Hid (kY B mask = if (sp || !(mayB (op : Nat) fin 0)) = true then 1002 else if B.length < 2 then 1 else if ((decide (128 ≤ (B.getD 1 0).toNat) != mask) || !(mayB (op : Nat) fin (((B.getD 1 0).toNat % 128 : Nat) : Int))) = true then 1002 else 0) := by
    show _ = _
    unfold kY
    rw [if_neg h1, hyy, hfin, hop, hsp]
  clear hfin hop hsp hd hd8
  go_upto_region 4 with fail
  go_quiet (fail)
  have HDQ := hide (below_drewN (Below.refl W.heap.size W) nq)
  have hRl := (Array.getElem?_eq_some_iff.1 (unhide HWR)).1
  have hZl := (Array.getElem?_eq_some_iff.1 (unhide HWZ)).1
  have HVB := hide (below_drewN (unhide HWB) nq)
  have HVR := hide (((unhide HDQ).block _ hRl).trans (unhide HWR))
  have HVZ := hide (((unhide HDQ).block _ hZl).trans (unhide HWZ))
  generalize W.drewN nq = V at *
  clear r0 r1 r2 g0 g1 g2 z0 z1 z2 c0 HDQ hRl hZl HWB HWR HWZ hc
  obtain ⟨b', off', hbo, hc⟩ := ((unhide HBd).below (unhide HVB) (Nat.le_refl _)).row (by intro e; subst e; simp at h1)
  obtain ⟨rfl, rfl⟩ : b = b' ∧ off = off' := by cases hbo; exact ⟨rfl, rfl⟩
  clear hbo
  have HC := hide hc
  have c0 := hc 0 (by omega)
  rw [hyy, Nat.add_zero] at c0
  have r0 : V.cell? ⟨w.heap.size, 0, none⟩ = some (.bool false) := by rw [cell_of_row V w.heap.size 0 _ _ _ (unhide HVR)]; rfl
  have r1 : V.cell? ⟨w.heap.size, 1, none⟩ = some (.int .i64 0) := by rw [cell_of_row V w.heap.size 1 _ _ _ (unhide HVR)]; rfl
  have r2 : V.cell? ⟨w.heap.size, 2, none⟩ = some (.slice none 0 0) := by rw [cell_of_row V w.heap.size 2 _ _ _ (unhide HVR)]; rfl
  have g0 : V.frozen? ⟨w.heap.size, 0, none⟩ = false := frozen_of_row V w.heap.size 0 _ _ (unhide HVR)
  have g1 : V.frozen? ⟨w.heap.size, 1, none⟩ = false := frozen_of_row V w.heap.size 1 _ _ (unhide HVR)
  have g2 : V.frozen? ⟨w.heap.size, 2, none⟩ = false := frozen_of_row V w.heap.size 2 _ _ (unhide HVR)
  have z0 : V.cell? ⟨w.heap.size + 1, 0, none⟩ = some (.bool false) := by rw [cell_of_row V (w.heap.size + 1) 0 _ _ _ (unhide HVZ)]; rfl
  have z1 : V.cell? ⟨w.heap.size + 1, 1, none⟩ = some (.int .i64 0) := by rw [cell_of_row V (w.heap.size + 1) 1 _ _ _ (unhide HVZ)]; rfl
  have z2 : V.cell? ⟨w.heap.size + 1, 2, none⟩ = some (.slice none 0 0) := by rw [cell_of_row V (w.heap.size + 1) 2 _ _ _ (unhide HVZ)]; rfl
  clear hc
  have HKN := hide (known_any op V)
  have HMK := hide (may_kn op fin hop16)
  obtain ⟨kn, hkn⟩ : ∃ kn, knB op = kn := ⟨_, rfl⟩
  rw [hkn] at HKN HMK
  obtain ⟨ct, hct⟩ : ∃ ct, decide (8 ≤ op) = ct := ⟨_, rfl⟩
  have hct' : decide ((8 : Int) ≤ (op : Int)) = ct := by rw [← hct]; exact decide_eq_decide.2 (by omega)
  rw [hct] at HMK
  have HCT := hide hct
  clear hkn hct
  by_cases hmay : (sp || !(mayB (op : Int) fin 0)) = true
  · have HY : Hid (rdY B mask = 1002) := by show _ = _; unfold rdY; rw [unhide HY1, if_pos hmay]; rfl
    have HM := hide hmay
    rw [unhide HMK] at HM
    clear HY1 hmay HMK
    cases sp with
    | true =>
      go_wp2
      refine bodyPost_ret (v := .tuple #[.agg #[.bool false, .int .i64 0, .slice none 0 0], .int .i64 0, .int .i64 1002]) (by simp [results, Tryd.results7, go_sem, r0, r1, r2]) rfl ⟨below3 (unhide HVB) (Nat.le_refl _) (Nat.le_refl _) _ _ _, .inl ⟨?_, ?_⟩⟩
      · show _ ≠ _
        rw [unhide HY]; omega
      · rw [unhide HY]; rfl
    | false =>
      cases kn with
      | false =>
        go_wp2_with (go_at_call 15; refine (unhide HKN).mono ?_; rintro e w5 ⟨rfl, rfl⟩)
        refine bodyPost_ret (v := .tuple #[.agg #[.bool false, .int .i64 0, .slice none 0 0], .int .i64 0, .int .i64 1002]) (by simp [results, Tryd.results7, go_sem, r0, r1, r2]) rfl ⟨below3 (unhide HVB) (Nat.le_refl _) (Nat.le_refl _) _ _ _, .inl ⟨?_, ?_⟩⟩
        · show _ ≠ _
          rw [unhide HY]; omega
        · rw [unhide HY]; rfl
      | true =>
        obtain ⟨rfl, rfl⟩ : ct = true ∧ fin = false := by
          have := unhide HM
          cases ct <;> cases fin <;> simp at this <;> exact ⟨rfl, rfl⟩
        go_wp2_with (go_at_call 15; refine (unhide HKN).mono ?_; rintro e w5 ⟨rfl, rfl⟩)
        refine bodyPost_ret (v := .tuple #[.agg #[.bool false, .int .i64 0, .slice none 0 0], .int .i64 0, .int .i64 1002]) (by simp [results, Tryd.results7, go_sem, r0, r1, r2]) rfl ⟨below3 (unhide HVB) (Nat.le_refl _) (Nat.le_refl _) _ _ _, .inl ⟨?_, ?_⟩⟩
        · show _ ≠ _
          rw [unhide HY]; omega
        · rw [unhide HY]; rfl
  have hsp0 : sp = false := by cases sp <;> simp at hmay ⊢
  subst hsp0
  have hm0 : mayB (op : Int) fin 0 = true := by simpa using hmay
  have HM := hide hm0
  rw [unhide HMK] at HM
  have hkt : kn = true := by have := unhide HM; cases kn <;> simp at this ⊢
  subst hkt
  have HY2 : Hid (kY B mask = if B.length < 2 then 1 else if ((decide (128 ≤ (B.getD 1 0).toNat) != mask) || !(mayB (op : Nat) fin (((B.getD 1 0).toNat % 128 : Nat) : Int))) = true then 1002 else 0) := by
    show _ = _
    rw [unhide HY1, if_neg hmay]
  have HM0 := hide hm0
  clear HY1 hmay HMK hm0
  cases ct with
  | true =>
    obtain rfl : fin = true := by have := unhide HM; cases fin <;> simp at this ⊢
    go_upto_region 7 with (go_at_call 15; refine (unhide HKN).mono ?_; rintro e w5 ⟨rfl, hw5⟩; have hw5 := hw5.symm; subst hw5)
    clear HKN
    by_cases h2 : B.length < 2
    · have h2' : (B.length : Int) = 1 := by omega
      have HY : Hid (rdY B mask = 1) := by show _ = _; unfold rdY; rw [unhide HY2, if_pos h2]; rfl
      clear h2
      go_wp2
      refine bodyPost_ret (v := .tuple #[.agg #[.bool false, .int .i64 0, .slice none 0 0], .int .i64 0, .int .i64 1]) (by simp [results, Tryd.results7, go_sem, r0, r1, r2]) rfl ⟨below3 (unhide HVB) (Nat.le_refl _) (Nat.le_refl _) _ _ _, .inl ⟨?_, ?_⟩⟩
      · show _ ≠ _
        rw [unhide HY]; omega
      · rw [unhide HY]; rfl
    have h2' : ¬ (B.length : Int) = 1 := by omega
    have hp1 : (1 : Int) < (B.length : Int) := by omega
    have c1 := unhide HC 1 (by omega)
    obtain ⟨y1, hy1⟩ : ∃ y1, B.getD 1 0 = y1 := ⟨_, rfl⟩
    rw [hy1] at c1
    obtain ⟨mk, hmk⟩ : ∃ mk : Bool, mk = decide (128 ≤ y1.toNat) := ⟨_, rfl⟩
    have e128 : decide ((128 : Int) ≤ (y1.toNat : Int)) = mk := by rw [hmk]; exact decide_eq_decide.2 (by omega)
    obtain ⟨s, hs⟩ : ∃ s, s = y1.toNat % 128 := ⟨_, rfl⟩
    have s1 : (y1.toNat : Int).tmod 128 = (s : Int) := by rw [hs]; rfl
    have s2 : (y1.toNat : Int) % 128 = (s : Int) := by rw [hs]; rfl
    have hs128 : s < 128 := by omega
    have hy1256 := y1.toNat_lt
    have HS := hide hs
    have HY3 : Hid (kY B mask = if ((mk != mask) || !(!(true && decide (125 < (s : Int))))) = true then 1002 else 0) := by
      show _ = _
      rw [unhide HY2, if_neg h2, hy1, may_sz op true _ hop16 (unhide HM0), unhide HCT, hmk, hs]
    clear hs hmk HY2
    cases mk with
    | false =>
      cases mask with
      | false =>
        by_cases h125 : 125 < s
        · have h125' : decide ((125 : Int) < (s : Int)) = true := decide_eq_true (by omega)
          have HY : Hid (rdY B false = 1002) := by show _ = _; unfold rdY; rw [unhide HY3, h125']; rfl
          clear HY3 h125
          go_wp2
          refine bodyPost_ret (v := .tuple #[.agg #[.bool false, .int .i64 0, .slice none 0 0], .int .i64 0, .int .i64 1002]) (by simp [results, Tryd.results7, go_sem, r0, r1, r2]) rfl ⟨below3 (unhide HVB) (Nat.le_refl _) (Nat.le_refl _) _ _ _, .inl ⟨?_, ?_⟩⟩
          · show _ ≠ _
            rw [unhide HY]; omega
          · rw [unhide HY]; rfl
        have h125' : decide ((125 : Int) < (s : Int)) = false := decide_eq_false (by omega)
        have HRY : Hid (rdY B false = if szY B ≠ 0 then szY B else if B.length < rdEnd B false then 1 else 0) := by show _ = _; unfold rdY; rw [unhide HY3, h125']; rfl
        have HSZ := hide (sz_short B s (by omega) (by rw [hy1]; exact unhide HS) (by omega))
        clear HY3
        obtain ⟨en, hen⟩ : ∃ en : Nat, en = 2 + s := ⟨_, rfl⟩
        have e2 : (2 : Int) + (s : Int) = (en : Int) := by omega
        have HEN : Hid (en = rdEnd B false) := by show _ = _; unfold rdEnd; rw [(unhide HSZ).2.1, (unhide HSZ).2.2, hen]; rfl
        by_cases hlen : B.length < en
        · have hlen' : (B.length : Int) - 2 < (s : Int) := by omega
          have HY : Hid (rdY B false = 1) := by show _ = _; rw [unhide HRY, if_neg (by rw [(unhide HSZ).1]; omega), if_pos (by rw [← unhide HEN]; omega)]
          clear hlen hen
          go_wp2
          refine bodyPost_ret (v := .tuple #[.agg #[.bool false, .int .i64 0, .slice none 0 0], .int .i64 0, .int .i64 1]) (by simp [results, Tryd.results7, go_sem, r0, r1, r2]) rfl ⟨below3 (unhide HVB) (Nat.le_refl _) (Nat.le_refl _) _ _ _, .inl ⟨?_, ?_⟩⟩
          · show _ ≠ _
            rw [unhide HY]; omega
          · rw [unhide HY]; rfl
        have hlen' : ¬ (B.length : Int) - 2 < (s : Int) := by omega
        have HY : Hid (rdY B false = 0) := by show _ = _; rw [unhide HRY, if_neg (by rw [(unhide HSZ).1]; omega), if_neg (by rw [← unhide HEN]; omega)]
        have HYo : Hid (rdY B false = 0) ∨ False := .inl HY
        clear HY
        have hB3 := (unhide HBd).below (unhide HVB) (Nat.le_refl _)
        obtain ⟨a1, hsl1, hbs1⟩ := cut_mid (some ⟨b, off, none⟩) cap 2 en B hle (by omega) (by omega) (fun _ => ⟨b, off, rfl⟩)
        have hl1 : ((B.take en).drop 2).length = en - 2 := by simp; omega
        rw [← hl1] at hsl1
        have hsl1' : ∀ w, (Instr.slice 22 (.slice (some ⟨b, off, none⟩) B.length cap) (some (.int .i64 2)) (some (.int .i64 (en : Int))) none).run Tryd.prog w = .ok (.slice a1 ((B.take en).drop 2).length (cap - 2)) w := hsl1
        have HL1 := hide (hbs1 V hB3)
        have hl1l : ((B.take en).drop 2).length ≤ 16384 := by rw [hl1]; omega
        have HRD : Hid (rdL B false = (B.take en).drop 2) := by
          show _ = _
          unfold rdL
          rw [(unhide HSZ).2.1, ← unhide HEN]
          unfold xm
          rw [if_pos (by simp)]
          rfl
        generalize (B.take en).drop 2 = L1 at *
        have hRl := (Array.getElem?_eq_some_iff.1 (unhide HVR)).1
        clear hsl1 hbs1 hB3 hl1 hlen hen HSZ HRY
        go_wp2_with (at_builtin; refine wp_app _ rfl _ _ rfl V.heap.size (some ⟨V.heap.size, 0, none⟩) 0 [] rfl (own_empty _ _ (Nat.le_refl _)) a1 (cap - 2) L1 _ rfl rfl ?c2 ?c5 ?c3 ?c4 ?_)
        case c2 => exact (unhide HL1).row.alloc _
        case c5 => exact (unhide HL1).nz
        case c3 => (try simp only [List.length_nil]); omega
        intro a6 c6 r6 w6 hr6 ho6 hg6
        obtain rfl : r6 = L1 := by rw [hr6.out]
        have hb6 : Below V.heap.size V w6 := below_grown (a := some ⟨V.heap.size, 0, none⟩) ((Below.refl _ _).alloc (Nat.le_refl _) _) hg6 (Nat.le_refl _) (fun k hk => by simp [blk] at hk; omega)
        have HO6 := hide ho6
        have HB6 := hide hb6
        clear hr6 hg6 ho6 hb6 r0 r1 r2 g0 g1 g2 z0 z1 z2 hsl1'
        go_wp2
        go_loop [150] (fun i => ∃ k : Nat, k ≤ r6.length ∧ i = .int .i64 (k : Int)) (fun i => r6.length - (intOf i).toNat)
        case atStart => exact ⟨0, Nat.zero_le _, rfl⟩
        case round =>
          obtain ⟨k, hk, rfl⟩ := hrel
          by_cases hlt : k < r6.length
          · have hlt' : (k : Int) < (r6.length : Int) := by omega
            go_wp2
            go_round
            case rel => exact ⟨k + 1, by omega, by go_num⟩
            case measure => simp [intOf]; omega
          · have hlt' : ¬ (k : Int) < (r6.length : Int) := by omega
            have HXR := hide (((unhide HB6).block _ hRl).trans (unhide HVR))
            have HXB := hide ((unhide HVB).trans ((unhide HB6).mono (unhide HVB).size))
            have HXO := HO6
            have r0 : w6.cell? ⟨w.heap.size, 0, none⟩ = some (.bool false) := by rw [cell_of_row w6 w.heap.size 0 _ _ _ (unhide HXR)]; rfl
            have r1 : w6.cell? ⟨w.heap.size, 1, none⟩ = some (.int .i64 0) := by rw [cell_of_row w6 w.heap.size 1 _ _ _ (unhide HXR)]; rfl
            have r2 : w6.cell? ⟨w.heap.size, 2, none⟩ = some (.slice none 0 0) := by rw [cell_of_row w6 w.heap.size 2 _ _ _ (unhide HXR)]; rfl
            have g0 : w6.frozen? ⟨w.heap.size, 0, none⟩ = false := frozen_of_row w6 w.heap.size 0 _ _ (unhide HXR)
            have g1 : w6.frozen? ⟨w.heap.size, 1, none⟩ = false := frozen_of_row w6 w.heap.size 1 _ _ (unhide HXR)
            have g2 : w6.frozen? ⟨w.heap.size, 2, none⟩ = false := frozen_of_row w6 w.heap.size 2 _ _ (unhide HXR)
            clear hlt
            go_wp2
            refine bodyPost_ret (v := .tuple #[.agg #[.bool true, .int .i64 (op : Int), .slice a6 r6.length c6], .int .i64 (en : Int), .int .i64 0]) (by simp [results, Tryd.results7, go_sem, r0, r1, r2]) rfl ⟨below3 (unhide HXB) (Nat.le_refl _) (Nat.le_refl _) _ _ _, .inr ⟨HYo.elim id (fun h => h.elim), a6, c6, r6, ?_, ?_, ?_⟩⟩
            · rw [← unhide HEN, ← unhide HFE, ← unhide HOE]
            · exact (unhide HRD).symm
            · exact own3 (unhide HXO) hRl _ _ _
      | true =>
        have HY : Hid (rdY B true = 1002) := by show _ = _; unfold rdY; rw [unhide HY3]; rfl
        clear HY3
        go_wp2
        refine bodyPost_ret (v := .tuple #[.agg #[.bool false, .int .i64 0, .slice none 0 0], .int .i64 0, .int .i64 1002]) (by simp [results, Tryd.results7, go_sem, r0, r1, r2]) rfl ⟨below3 (unhide HVB) (Nat.le_refl _) (Nat.le_refl _) _ _ _, .inl ⟨?_, ?_⟩⟩
        · show _ ≠ _
          rw [unhide HY]; omega
        · rw [unhide HY]; rfl
    | true =>
      cases mask with
      | false =>
        have HY : Hid (rdY B false = 1002) := by show _ = _; unfold rdY; rw [unhide HY3]; rfl
        clear HY3
        go_wp2
        refine bodyPost_ret (v := .tuple #[.agg #[.bool false, .int .i64 0, .slice none 0 0], .int .i64 0, .int .i64 1002]) (by simp [results, Tryd.results7, go_sem, r0, r1, r2]) rfl ⟨below3 (unhide HVB) (Nat.le_refl _) (Nat.le_refl _) _ _ _, .inl ⟨?_, ?_⟩⟩
        · show _ ≠ _
          rw [unhide HY]; omega
        · rw [unhide HY]; rfl
      | true =>
        by_cases h125 : 125 < s
        · have h125' : decide ((125 : Int) < (s : Int)) = true := decide_eq_true (by omega)
          have HY : Hid (rdY B true = 1002) := by show _ = _; unfold rdY; rw [unhide HY3, h125']; rfl
          clear HY3 h125
          go_wp2
          refine bodyPost_ret (v := .tuple #[.agg #[.bool false, .int .i64 0, .slice none 0 0], .int .i64 0, .int .i64 1002]) (by simp [results, Tryd.results7, go_sem, r0, r1, r2]) rfl ⟨below3 (unhide HVB) (Nat.le_refl _) (Nat.le_refl _) _ _ _, .inl ⟨?_, ?_⟩⟩
          · show _ ≠ _
            rw [unhide HY]; omega
          · rw [unhide HY]; rfl
        have h125' : decide ((125 : Int) < (s : Int)) = false := decide_eq_false (by omega)
        have HRY : Hid (rdY B true = if szY B ≠ 0 then szY B else if B.length < rdEnd B true then 1 else 0) := by show _ = _; unfold rdY; rw [unhide HY3, h125']; rfl
        have HSZ := hide (sz_short B s (by omega) (by rw [hy1]; exact unhide HS) (by omega))
        clear HY3
        obtain ⟨en, hen⟩ : ∃ en : Nat, en = 6 + s := ⟨_, rfl⟩
        have e2 : (6 : Int) + (s : Int) = (en : Int) := by omega
        have HEN : Hid (en = rdEnd B true) := by show _ = _; unfold rdEnd; rw [(unhide HSZ).2.1, (unhide HSZ).2.2, hen]; rfl
        by_cases hl4 : B.length < 6
        · have hl4' : (B.length : Int) < 6 := by omega
          have HY : Hid (rdY B true = 1) := by show _ = _; rw [unhide HRY, if_neg (by rw [(unhide HSZ).1]; omega), if_pos (by rw [← unhide HEN]; omega)]
          clear hl4 hen e2
          go_wp2
          refine bodyPost_ret (v := .tuple #[.agg #[.bool false, .int .i64 0, .slice none 0 0], .int .i64 0, .int .i64 1]) (by simp [results, Tryd.results7, go_sem, r0, r1, r2]) rfl ⟨below3 (unhide HVB) (Nat.le_refl _) (Nat.le_refl _) _ _ _, .inl ⟨?_, ?_⟩⟩
          · show _ ≠ _
            rw [unhide HY]; omega
          · rw [unhide HY]; rfl
        have hl4' : ¬ (B.length : Int) < 6 := by omega
        by_cases hlen : B.length < en
        · have hlen' : (B.length : Int) - 6 < (s : Int) := by omega
          have hB3 := (unhide HBd).below (unhide HVB) (Nat.le_refl _)
          obtain ⟨a2, hsl2, -⟩ := cut_mid (some ⟨b, off, none⟩) cap 2 6 B hle (by omega) (by omega) (fun _ => ⟨b, off, rfl⟩)
          have hsl2' : ∀ w, (Instr.slice 22 (.slice (some ⟨b, off, none⟩) B.length cap) (some (.int .i64 2)) (some (.int .i64 6)) none).run Tryd.prog w = .ok (.slice a2 4 (cap - 2)) w := hsl2
          clear hsl2 hB3
          have HY : Hid (rdY B true = 1) := by show _ = _; rw [unhide HRY, if_neg (by rw [(unhide HSZ).1]; omega), if_pos (by rw [← unhide HEN]; omega)]
          clear hlen hen
          go_wp2
          refine bodyPost_ret (v := .tuple #[.agg #[.bool false, .int .i64 0, .slice none 0 0], .int .i64 0, .int .i64 1]) (by simp [results, Tryd.results7, go_sem, r0, r1, r2]) rfl ⟨below3 (unhide HVB) (Nat.le_refl _) (Nat.le_refl _) _ _ _, .inl ⟨?_, ?_⟩⟩
          · show _ ≠ _
            rw [unhide HY]; omega
          · rw [unhide HY]; rfl
        have hlen' : ¬ (B.length : Int) - 6 < (s : Int) := by omega
        have HY : Hid (rdY B true = 0) := by show _ = _; rw [unhide HRY, if_neg (by rw [(unhide HSZ).1]; omega), if_neg (by rw [← unhide HEN]; omega)]
        have HYo : Hid (rdY B true = 0) ∨ False := .inl HY
        clear HY
        have hB3 := (unhide HBd).below (unhide HVB) (Nat.le_refl _)
        obtain ⟨a1, hsl1, hbs1⟩ := cut_mid (some ⟨b, off, none⟩) cap 6 en B hle (by omega) (by omega) (fun _ => ⟨b, off, rfl⟩)
        have hl1 : ((B.take en).drop 6).length = en - 6 := by simp; omega
        rw [← hl1] at hsl1
        have hsl1' : ∀ w, (Instr.slice 22 (.slice (some ⟨b, off, none⟩) B.length cap) (some (.int .i64 6)) (some (.int .i64 (en : Int))) none).run Tryd.prog w = .ok (.slice a1 ((B.take en).drop 6).length (cap - 6)) w := hsl1
        have HL1 := hide (hbs1 V hB3)
        have hl1l : ((B.take en).drop 6).length ≤ 16384 := by rw [hl1]; omega
        obtain ⟨a2, hsl2, hbs2⟩ := cut_mid (some ⟨b, off, none⟩) cap 2 6 B hle (by omega) (by omega) (fun _ => ⟨b, off, rfl⟩)
        have hsl2' : ∀ w, (Instr.slice 22 (.slice (some ⟨b, off, none⟩) B.length cap) (some (.int .i64 2)) (some (.int .i64 6)) none).run Tryd.prog w = .ok (.slice a2 4 (cap - 2)) w := hsl2
        have HM1 := hide (hbs2 V hB3)
        have hm1l : ((B.take 6).drop 2).length = 4 := by simp; omega
        have HRD : Hid (rdL B true = pm ((B.take 6).drop 2) ((B.take en).drop 6) ((B.take en).drop 6).length) := by
          show _ = _
          unfold rdL
          rw [(unhide HSZ).2.1, ← unhide HEN]
          unfold xm
          rw [if_neg (by intro e; have e' := congrArg List.length e; simp at e'; omega)]
          rfl
        generalize (B.take 6).drop 2 = M1 at *
        clear hsl2 hbs2
        generalize (B.take en).drop 6 = L1 at *
        have hRl := (Array.getElem?_eq_some_iff.1 (unhide HVR)).1
        clear hsl1 hbs1 hB3 hl1 hlen hen HSZ HRY
        go_wp2_with (at_builtin; refine wp_app _ rfl _ _ rfl V.heap.size (some ⟨V.heap.size, 0, none⟩) 0 [] rfl (own_empty _ _ (Nat.le_refl _)) a1 (cap - 6) L1 _ rfl rfl ?c2 ?c5 ?c3 ?c4 ?_)
        case c2 => exact (unhide HL1).row.alloc _
        case c5 => exact (unhide HL1).nz
        case c3 => (try simp only [List.length_nil]); omega
        intro a6 c6 r6 w6 hr6 ho6 hg6
        obtain rfl : r6 = L1 := by rw [hr6.out]
        have hb6 : Below V.heap.size V w6 := below_grown (a := some ⟨V.heap.size, 0, none⟩) ((Below.refl _ _).alloc (Nat.le_refl _) _) hg6 (Nat.le_refl _) (fun k hk => by simp [blk] at hk; omega)
        have HO6 := hide ho6
        have HB6 := hide hb6
        clear hr6 hg6 ho6 hb6 r0 r1 r2 g0 g1 g2 z0 z1 z2 hsl1'
        go_wp2
        go_loopw [150] (fun v wr => ∃ k : Nat, k ≤ r6.length ∧ v = .int .i64 (k : Int) ∧ Hid (OwnB wr V.heap.size a6 c6 (pm M1 r6 k)) ∧ Hid (Below V.heap.size V wr)) (fun v _ => r6.length - (intOf v).toNat)
        case atStart => exact ⟨0, Nat.zero_le _, rfl, (by show OwnB _ _ _ _ _; rw [pm_zero]; exact unhide HO6), HB6⟩
        case round =>
          clear HO6 HB6
          obtain ⟨k, hk, rfl, ho, hb⟩ := hrel
          by_cases hlt : k < r6.length
          · obtain ⟨gy, rfl, hgy1, hgy2, hcy, hfy⟩ := ho.out.some (by rw [pm_length]; omega)
            have c0 := hcy k (by rw [pm_length]; exact hlt)
            rw [pm_get M1 r6 k k hlt, if_neg (by omega)] at c0
            have f0 := hfy k
            obtain ⟨bm, om, rfl, hcm⟩ := ((unhide HM1).row.below hb.out (Nat.le_refl _)) (by intro e; rw [e] at hm1l; simp at hm1l)
            obtain ⟨q, hq⟩ : ∃ q, q = k % 4 := ⟨_, rfl⟩
            have hq4 : q < 4 := by omega
            have hq1 : (k : Int).tmod 4 = (q : Int) := by rw [hq]; rfl
            have hq2 : (k : Int) % 4 = (q : Int) := by rw [hq]; simp
            have c1 := hcm q (by omega)
            have hk2 : (k : Int) < (r6.length : Int) := by omega
            have HST := hide (own_storedw ho.out k (r6.getD k 0 ^^^ M1.getD q 0))
            rw [hq, pm_succ M1 r6 k hlt, ← hq] at HST
            have HBB : Hid (Below V.heap.size V (wr.setCell ⟨gy, k, none⟩ (.int .u8 ((r6.getD k 0 ^^^ M1.getD q 0).toNat : Int)))) := hb.out.grown (grownBy_setCell wr _ _) hb.out.size (fun j hj => by rw [← Option.some.inj hj]; exact hgy1)
            have hx := u8xw (r6.getD k 0) (M1.getD q 0)
            generalize r6.getD k 0 = v1 at *
            generalize M1.getD q 0 = v2 at *
            generalize v1 ^^^ v2 = v3 at *
            clear hq hcy hfy hcm ho hb
            have hqm4 : (q : Int) < 4 := by omega
            go_wp2
            go_region
            all_goals
              go_wp2
              go_roundw
              case rel => exact ⟨k + 1, by omega, by go_num, HST, HBB.out.drew⟩
              case measure => simp [intOf]; omega
          · obtain rfl : k = r6.length := by omega
            have HLL := hide (pm_length M1 r6 r6.length)
            have HXR := hide (((unhide hb).block _ hRl).trans (unhide HVR))
            have HXB := hide ((unhide HVB).trans ((unhide hb).mono (unhide HVB).size))
            have HXO := ho
            have r0 : wr.cell? ⟨w.heap.size, 0, none⟩ = some (.bool false) := by rw [cell_of_row wr w.heap.size 0 _ _ _ (unhide HXR)]; rfl
            have r1 : wr.cell? ⟨w.heap.size, 1, none⟩ = some (.int .i64 0) := by rw [cell_of_row wr w.heap.size 1 _ _ _ (unhide HXR)]; rfl
            have r2 : wr.cell? ⟨w.heap.size, 2, none⟩ = some (.slice none 0 0) := by rw [cell_of_row wr w.heap.size 2 _ _ _ (unhide HXR)]; rfl
            have g0 : wr.frozen? ⟨w.heap.size, 0, none⟩ = false := frozen_of_row wr w.heap.size 0 _ _ (unhide HXR)
            have g1 : wr.frozen? ⟨w.heap.size, 1, none⟩ = false := frozen_of_row wr w.heap.size 1 _ _ (unhide HXR)
            have g2 : wr.frozen? ⟨w.heap.size, 2, none⟩ = false := frozen_of_row wr w.heap.size 2 _ _ (unhide HXR)
            clear hlt ho hb
            generalize hPM : pm M1 r6 r6.length = L2 at *
            rw [← unhide HLL]
            go_wp2
            refine bodyPost_ret (v := .tuple #[.agg #[.bool true, .int .i64 (op : Int), .slice a6 L2.length c6], .int .i64 (en : Int), .int .i64 0]) (by simp [results, Tryd.results7, go_sem, r0, r1, r2]) rfl ⟨below3 (unhide HXB) (Nat.le_refl _) (Nat.le_refl _) _ _ _, .inr ⟨HYo.elim id (fun h => h.elim), a6, c6, L2, ?_, ?_, ?_⟩⟩
            · rw [← unhide HEN, ← unhide HFE, ← unhide HOE]
            · exact (unhide HRD).symm
            · exact own3 (unhide HXO) hRl _ _ _
  | false =>
    go_upto_region 7 with (go_at_call 15; refine (unhide HKN).mono ?_; rintro e w5 ⟨rfl, hw5⟩; have hw5 := hw5.symm; subst hw5)
    clear HKN
    by_cases h2 : B.length < 2
    · have h2' : (B.length : Int) = 1 := by omega
      have HY : Hid (rdY B mask = 1) := by show _ = _; unfold rdY; rw [unhide HY2, if_pos h2]; rfl
      clear h2
      go_wp2
      refine bodyPost_ret (v := .tuple #[.agg #[.bool false, .int .i64 0, .slice none 0 0], .int .i64 0, .int .i64 1]) (by simp [results, Tryd.results7, go_sem, r0, r1, r2]) rfl ⟨below3 (unhide HVB) (Nat.le_refl _) (Nat.le_refl _) _ _ _, .inl ⟨?_, ?_⟩⟩
      · show _ ≠ _
        rw [unhide HY]; omega
      · rw [unhide HY]; rfl
    have h2' : ¬ (B.length : Int) = 1 := by omega
    have hp1 : (1 : Int) < (B.length : Int) := by omega
    have c1 := unhide HC 1 (by omega)
    obtain ⟨y1, hy1⟩ : ∃ y1, B.getD 1 0 = y1 := ⟨_, rfl⟩
    rw [hy1] at c1
    obtain ⟨mk, hmk⟩ : ∃ mk : Bool, mk = decide (128 ≤ y1.toNat) := ⟨_, rfl⟩
    have e128 : decide ((128 : Int) ≤ (y1.toNat : Int)) = mk := by rw [hmk]; exact decide_eq_decide.2 (by omega)
    obtain ⟨s, hs⟩ : ∃ s, s = y1.toNat % 128 := ⟨_, rfl⟩
    have s1 : (y1.toNat : Int).tmod 128 = (s : Int) := by rw [hs]; rfl
    have s2 : (y1.toNat : Int) % 128 = (s : Int) := by rw [hs]; rfl
    have hs128 : s < 128 := by omega
    have hy1256 := y1.toNat_lt
    have HS := hide hs
    have HY3 : Hid (kY B mask = if ((mk != mask) || !(!(false && decide (125 < (s : Int))))) = true then 1002 else 0) := by
      show _ = _
      rw [unhide HY2, if_neg h2, hy1, may_sz op fin _ hop16 (unhide HM0), unhide HCT, hmk, hs]
    clear hs hmk HY2
    cases mk with
    | false =>
      cases mask with
      | false =>
        have HRY : Hid (rdY B false = if szY B ≠ 0 then szY B else if B.length < rdEnd B false then 1 else 0) := by show _ = _; unfold rdY; rw [unhide HY3]; rfl
        clear HY3
        by_cases h125 : s ≤ 125
        · have h125' : decide ((125 : Int) < (s : Int)) = false := decide_eq_false (by omega)
          have HSZ := hide (sz_short B s (by omega) (by rw [hy1]; exact unhide HS) h125)
          obtain ⟨en, hen⟩ : ∃ en : Nat, en = 2 + s := ⟨_, rfl⟩
          have e2 : (2 : Int) + (s : Int) = (en : Int) := by omega
          have HEN : Hid (en = rdEnd B false) := by show _ = _; unfold rdEnd; rw [(unhide HSZ).2.1, (unhide HSZ).2.2, hen]; rfl
          by_cases hlen : B.length < en
          · have hlen' : (B.length : Int) - 2 < (s : Int) := by omega
            have HY : Hid (rdY B false = 1) := by show _ = _; rw [unhide HRY, if_neg (by rw [(unhide HSZ).1]; omega), if_pos (by rw [← unhide HEN]; omega)]
            clear hlen hen
            go_wp2
            refine bodyPost_ret (v := .tuple #[.agg #[.bool false, .int .i64 0, .slice none 0 0], .int .i64 0, .int .i64 1]) (by simp [results, Tryd.results7, go_sem, r0, r1, r2]) rfl ⟨below3 (unhide HVB) (Nat.le_refl _) (Nat.le_refl _) _ _ _, .inl ⟨?_, ?_⟩⟩
            · show _ ≠ _
              rw [unhide HY]; omega
            · rw [unhide HY]; rfl
          have hlen' : ¬ (B.length : Int) - 2 < (s : Int) := by omega
          have HY : Hid (rdY B false = 0) := by show _ = _; rw [unhide HRY, if_neg (by rw [(unhide HSZ).1]; omega), if_neg (by rw [← unhide HEN]; omega)]
          have HYo : Hid (rdY B false = 0) ∨ False := .inl HY
          clear HY
          have hB3 := (unhide HBd).below (unhide HVB) (Nat.le_refl _)
          obtain ⟨a1, hsl1, hbs1⟩ := cut_mid (some ⟨b, off, none⟩) cap 2 en B hle (by omega) (by omega) (fun _ => ⟨b, off, rfl⟩)
          have hl1 : ((B.take en).drop 2).length = en - 2 := by simp; omega
          rw [← hl1] at hsl1
          have hsl1' : ∀ w, (Instr.slice 22 (.slice (some ⟨b, off, none⟩) B.length cap) (some (.int .i64 2)) (some (.int .i64 (en : Int))) none).run Tryd.prog w = .ok (.slice a1 ((B.take en).drop 2).length (cap - 2)) w := hsl1
          have HL1 := hide (hbs1 V hB3)
          have hl1l : ((B.take en).drop 2).length ≤ 16384 := by rw [hl1]; omega
          have HRD : Hid (rdL B false = (B.take en).drop 2) := by
            show _ = _
            unfold rdL
            rw [(unhide HSZ).2.1, ← unhide HEN]
            unfold xm
            rw [if_pos (by simp)]
            rfl
          generalize (B.take en).drop 2 = L1 at *
          have hRl := (Array.getElem?_eq_some_iff.1 (unhide HVR)).1
          clear hsl1 hbs1 hB3 hl1 hlen hen HSZ HRY
          go_wp2_with (at_builtin; refine wp_app _ rfl _ _ rfl V.heap.size (some ⟨V.heap.size, 0, none⟩) 0 [] rfl (own_empty _ _ (Nat.le_refl _)) a1 (cap - 2) L1 _ rfl rfl ?c2 ?c5 ?c3 ?c4 ?_)
          case c2 => exact (unhide HL1).row.alloc _
          case c5 => exact (unhide HL1).nz
          case c3 => (try simp only [List.length_nil]); omega
          intro a6 c6 r6 w6 hr6 ho6 hg6
          obtain rfl : r6 = L1 := by rw [hr6.out]
          have hb6 : Below V.heap.size V w6 := below_grown (a := some ⟨V.heap.size, 0, none⟩) ((Below.refl _ _).alloc (Nat.le_refl _) _) hg6 (Nat.le_refl _) (fun k hk => by simp [blk] at hk; omega)
          have HO6 := hide ho6
          have HB6 := hide hb6
          clear hr6 hg6 ho6 hb6 r0 r1 r2 g0 g1 g2 z0 z1 z2 hsl1'
          go_wp2
          go_loop [150] (fun i => ∃ k : Nat, k ≤ r6.length ∧ i = .int .i64 (k : Int)) (fun i => r6.length - (intOf i).toNat)
          case atStart => exact ⟨0, Nat.zero_le _, rfl⟩
          case round =>
            obtain ⟨k, hk, rfl⟩ := hrel
            by_cases hlt : k < r6.length
            · have hlt' : (k : Int) < (r6.length : Int) := by omega
              go_wp2
              go_round
              case rel => exact ⟨k + 1, by omega, by go_num⟩
              case measure => simp [intOf]; omega
            · have hlt' : ¬ (k : Int) < (r6.length : Int) := by omega
              have HXR := hide (((unhide HB6).block _ hRl).trans (unhide HVR))
              have HXB := hide ((unhide HVB).trans ((unhide HB6).mono (unhide HVB).size))
              have HXO := HO6
              have r0 : w6.cell? ⟨w.heap.size, 0, none⟩ = some (.bool false) := by rw [cell_of_row w6 w.heap.size 0 _ _ _ (unhide HXR)]; rfl
              have r1 : w6.cell? ⟨w.heap.size, 1, none⟩ = some (.int .i64 0) := by rw [cell_of_row w6 w.heap.size 1 _ _ _ (unhide HXR)]; rfl
              have r2 : w6.cell? ⟨w.heap.size, 2, none⟩ = some (.slice none 0 0) := by rw [cell_of_row w6 w.heap.size 2 _ _ _ (unhide HXR)]; rfl
              have g0 : w6.frozen? ⟨w.heap.size, 0, none⟩ = false := frozen_of_row w6 w.heap.size 0 _ _ (unhide HXR)
              have g1 : w6.frozen? ⟨w.heap.size, 1, none⟩ = false := frozen_of_row w6 w.heap.size 1 _ _ (unhide HXR)
              have g2 : w6.frozen? ⟨w.heap.size, 2, none⟩ = false := frozen_of_row w6 w.heap.size 2 _ _ (unhide HXR)
              clear hlt
              go_wp2
              refine bodyPost_ret (v := .tuple #[.agg #[.bool fin, .int .i64 (op : Int), .slice a6 r6.length c6], .int .i64 (en : Int), .int .i64 0]) (by simp [results, Tryd.results7, go_sem, r0, r1, r2]) rfl ⟨below3 (unhide HXB) (Nat.le_refl _) (Nat.le_refl _) _ _ _, .inr ⟨HYo.elim id (fun h => h.elim), a6, c6, r6, ?_, ?_, ?_⟩⟩
              · rw [← unhide HEN, ← unhide HFE, ← unhide HOE]
              · exact (unhide HRD).symm
              · exact own3 (unhide HXO) hRl _ _ _
        have h125' : decide ((125 : Int) < (s : Int)) = true := decide_eq_true (by omega)
        by_cases h127 : s = 127
        · subst h127
          have h127b : ((127 : Int) == 127) = true := rfl
          clear h125
          by_cases hM : B.length < 10
          · have hM' : (B.length : Int) < 10 := by omega
            have HYc := hide (sz_cut B 10 (by rw [hy1, ← unhide HS]; rfl) hM)
            clear hM
            have HY : Hid (rdY B false = 1) := by show _ = _; rw [unhide HRY, if_pos (by rw [unhide HYc]; omega), unhide HYc]
            clear HRY
            go_wp2
            refine bodyPost_ret (v := .tuple #[.agg #[.bool false, .int .i64 0, .slice none 0 0], .int .i64 0, .int .i64 1]) (by simp [results, Tryd.results7, go_sem, r0, r1, r2]) rfl ⟨below3 (unhide HVB) (Nat.le_refl _) (Nat.le_refl _) _ _ _, .inl ⟨?_, ?_⟩⟩
            · show _ ≠ _
              rw [unhide HY]; omega
            · rw [unhide HY]; rfl
          have hM' : ¬ (B.length : Int) < 10 := by omega
          have i2 : (2 : Int) < (B.length : Int) := by omega
          have c2 := unhide HC 2 (by omega)
          obtain ⟨y2, hy2⟩ : ∃ y2, B.getD 2 0 = y2 := ⟨_, rfl⟩
          rw [hy2] at c2
          have hy2256 := y2.toNat_lt
          by_cases hb2 : y2.toNat < 128
          · have hb2' : decide ((128 : Int) ≤ (y2.toNat : Int)) = false := decide_eq_false (by omega)
            have hML : 10 ≤ B.length := by omega
            obtain ⟨N, hN⟩ : ∃ N, N = fh ((B.take 10).drop 2) := ⟨_, rfl⟩
            obtain ⟨hYN, hAN⟩ := sz_long B 10 65536 (by rw [hy1, ← unhide HS]; rfl) (by rw [hy1, ← unhide HS]; rfl) (by omega) hM
            rw [← hN] at hYN hAN
            have HYN := hide hYN
            have HAN := hide hAN
            have HNN := hide hN
            clear hYN hAN hN
            have hN63 : N < 9223372036854775808 := by
              rw [unhide HNN]
              refine fh_low8 _ ?_ (by simp; omega)
              rw [List.getD_eq_getElem?_getD, List.getElem?_drop, List.getElem?_take, if_pos (by omega), ← List.getD_eq_getElem?_getD]
              show (B.getD 2 0).toNat < 128
              rw [hy2]
              exact hb2
            go_wp2
            go_loop [10, 96] (fun n i => ∃ k : Nat, k ≤ 8 ∧ i = .int .i64 (k : Int) ∧ n = .int .i64 ((fh (((B.take 10).drop 2).take k) : Nat) : Int)) (fun _ i => 8 - (intOf i).toNat)
            case atStart => exact ⟨0, Nat.zero_le _, rfl, rfl⟩
            case round =>
              obtain ⟨k, hk, rfl, rfl⟩ := hrel
              by_cases hlt : k < 8
              · have hlt' : (k : Int) < 8 := by omega
                have HST := hide (fh_step B 10 k hML (by omega))
                have hF : fh (((B.take 10).drop 2).take k) < 36028797018963968 := by
                  refine fh_low _ ?_ (by simp; omega)
                  have e : ((((B.take 10).drop 2).take k).getD 0 0).toNat ≤ (B.getD 2 0).toNat := by
                    rw [List.getD_eq_getElem?_getD, List.getD_eq_getElem?_getD]
                    by_cases hk0 : 0 < k
                    · rw [List.getElem?_take, if_pos hk0, List.getElem?_drop, List.getElem?_take, if_pos (by omega)]; exact Nat.le_refl _
                    · rw [List.getElem?_eq_none (by simp; omega)]; simp
                  rw [hy2] at e
                  omega
                obtain ⟨j, hj⟩ : ∃ j, j = 2 + k := ⟨_, rfl⟩
                have hj1 : (2 : Int) + (k : Int) = (j : Int) := by omega
                have hjB : (j : Int) < (B.length : Int) := by omega
                have cj := unhide HC j (by omega)
                rw [← hj] at HST
                have hcj := (B.getD j 0).toNat_lt
                generalize (B.getD j 0).toNat = u at *
                generalize fh (((B.take 10).drop 2).take k) = F at *
                clear hj hlt
                go_wp2
                go_round
                case rel => exact ⟨k + 1, by omega, by go_num, int_eq (by rw [unhide HST]; omega)⟩
                case measure => simp [intOf]; omega
              · have hkM : k = 8 := by omega
                subst hkM
                have hlt' : ¬ ((8 : Int) < 8) := by omega
                have eT : ((B.take 10).drop 2).take 8 = (B.take 10).drop 2 := List.take_of_length_le (by simp; omega)
                rw [eT, ← unhide HNN]
                clear eT hlt hk
                by_cases n1 : N < 65536
                · have n1' : (N : Int) < 65536 := by omega
                  have HYc : Hid (szY B = 1002) := by show _ = _; rw [unhide HYN]; unfold numY; rw [if_pos (by omega)]
                  clear n1
                  have HY : Hid (rdY B false = 1002) := by show _ = _; rw [unhide HRY, if_pos (by rw [unhide HYc]; omega), unhide HYc]
                  clear HRY
                  go_wp2
                  refine bodyPost_ret (v := .tuple #[.agg #[.bool false, .int .i64 0, .slice none 0 0], .int .i64 0, .int .i64 1002]) (by simp [results, Tryd.results7, go_sem, r0, r1, r2]) rfl ⟨below3 (unhide HVB) (Nat.le_refl _) (Nat.le_refl _) _ _ _, .inl ⟨?_, ?_⟩⟩
                  · show _ ≠ _
                    rw [unhide HY]; omega
                  · rw [unhide HY]; rfl
                have n1' : ¬ (N : Int) < 65536 := by omega
                have n2' : (16384 : Int) < (N : Int) := by omega
                have HYc : Hid (szY B = 1009) := by show _ = _; rw [unhide HYN]; unfold numY; rw [if_neg (by omega), if_pos (by omega)]
                clear n1
                have HY : Hid (rdY B false = 1009) := by show _ = _; rw [unhide HRY, if_pos (by rw [unhide HYc]; omega), unhide HYc]
                clear HRY
                go_wp2
                refine bodyPost_ret (v := .tuple #[.agg #[.bool false, .int .i64 0, .slice none 0 0], .int .i64 0, .int .i64 1009]) (by simp [results, Tryd.results7, go_sem, r0, r1, r2]) rfl ⟨below3 (unhide HVB) (Nat.le_refl _) (Nat.le_refl _) _ _ _, .inl ⟨?_, ?_⟩⟩
                · show _ ≠ _
                  rw [unhide HY]; omega
                · rw [unhide HY]; rfl
          have hb2' : decide ((128 : Int) ≤ (y2.toNat : Int)) = true := decide_eq_true (by omega)
          have HYc : Hid (szY B = 1002) := by
            show _ = _
            rw [(sz_long B 10 65536 (by rw [hy1, ← unhide HS]; rfl) (by rw [hy1, ← unhide HS]; rfl) (by omega) hM).1]
            have h63 := fh_high8 ((B.take 10).drop 2) (by rw [List.getD_eq_getElem?_getD, List.getElem?_drop, List.getElem?_take, if_pos (by omega), ← List.getD_eq_getElem?_getD]; show 128 ≤ (B.getD 2 0).toNat; rw [hy2]; omega) (by simp; omega)
            unfold numY
            rw [if_pos (by omega)]
          clear hb2 hM
          have HY : Hid (rdY B false = 1002) := by show _ = _; rw [unhide HRY, if_pos (by rw [unhide HYc]; omega), unhide HYc]
          clear HRY
          go_wp2
          refine bodyPost_ret (v := .tuple #[.agg #[.bool false, .int .i64 0, .slice none 0 0], .int .i64 0, .int .i64 1002]) (by simp [results, Tryd.results7, go_sem, r0, r1, r2]) rfl ⟨below3 (unhide HVB) (Nat.le_refl _) (Nat.le_refl _) _ _ _, .inl ⟨?_, ?_⟩⟩
          · show _ ≠ _
            rw [unhide HY]; omega
          · rw [unhide HY]; rfl
        obtain rfl : s = 126 := by omega
        have h127b : ((126 : Int) == 127) = false := rfl
        clear h125 h127
        by_cases hM : B.length < 4
        · have hM' : (B.length : Int) < 4 := by omega
          have HYc := hide (sz_cut B 4 (by rw [hy1, ← unhide HS]; rfl) hM)
          clear hM
          have HY : Hid (rdY B false = 1) := by show _ = _; rw [unhide HRY, if_pos (by rw [unhide HYc]; omega), unhide HYc]
          clear HRY
          go_wp2
          refine bodyPost_ret (v := .tuple #[.agg #[.bool false, .int .i64 0, .slice none 0 0], .int .i64 0, .int .i64 1]) (by simp [results, Tryd.results7, go_sem, r0, r1, r2]) rfl ⟨below3 (unhide HVB) (Nat.le_refl _) (Nat.le_refl _) _ _ _, .inl ⟨?_, ?_⟩⟩
          · show _ ≠ _
            rw [unhide HY]; omega
          · rw [unhide HY]; rfl
        have hM' : ¬ (B.length : Int) < 4 := by omega
        have hML : 4 ≤ B.length := by omega
        obtain ⟨N, hN⟩ : ∃ N, N = fh ((B.take 4).drop 2) := ⟨_, rfl⟩
        obtain ⟨hYN, hAN⟩ := sz_long B 4 126 (by rw [hy1, ← unhide HS]; rfl) (by rw [hy1, ← unhide HS]; rfl) (by omega) hM
        rw [← hN] at hYN hAN
        have HYN := hide hYN
        have HAN := hide hAN
        have HNN := hide hN
        clear hYN hAN hN
        have hN16 : N < 65536 := by
          have h := fh_lt ((B.take 4).drop 2)
          rw [← unhide HNN, show ((B.take 4).drop 2).length = 2 by simp; omega] at h
          simpa using h
        go_wp2
        go_loop [10, 96] (fun n i => ∃ k : Nat, k ≤ 2 ∧ i = .int .i64 (k : Int) ∧ n = .int .i64 ((fh (((B.take 4).drop 2).take k) : Nat) : Int)) (fun _ i => 2 - (intOf i).toNat)
        case atStart => exact ⟨0, Nat.zero_le _, rfl, rfl⟩
        case round =>
          obtain ⟨k, hk, rfl, rfl⟩ := hrel
          by_cases hlt : k < 2
          · have hlt' : (k : Int) < 2 := by omega
            have HST := hide (fh_step B 4 k hML (by omega))
            have hF : fh (((B.take 4).drop 2).take k) < 36028797018963968 := by
              have h := fh_lt (((B.take 4).drop 2).take k)
              have h2 : (((B.take 4).drop 2).take k).length ≤ 1 := by simp; omega
              have h3 := Nat.pow_le_pow_right (show 0 < 256 by decide) h2
              omega
            obtain ⟨j, hj⟩ : ∃ j, j = 2 + k := ⟨_, rfl⟩
            have hj1 : (2 : Int) + (k : Int) = (j : Int) := by omega
            have hjB : (j : Int) < (B.length : Int) := by omega
            have cj := unhide HC j (by omega)
            rw [← hj] at HST
            have hcj := (B.getD j 0).toNat_lt
            generalize (B.getD j 0).toNat = u at *
            generalize fh (((B.take 4).drop 2).take k) = F at *
            clear hj hlt
            go_wp2
            go_round
            case rel => exact ⟨k + 1, by omega, by go_num, int_eq (by rw [unhide HST]; omega)⟩
            case measure => simp [intOf]; omega
          · have hkM : k = 2 := by omega
            subst hkM
            have hlt' : ¬ ((2 : Int) < 2) := by omega
            have eT : ((B.take 4).drop 2).take 2 = (B.take 4).drop 2 := List.take_of_length_le (by simp; omega)
            rw [eT, ← unhide HNN]
            clear eT hlt hk
            by_cases n1 : N < 126
            · have n1' : (N : Int) < 126 := by omega
              have HYc : Hid (szY B = 1002) := by show _ = _; rw [unhide HYN]; unfold numY; rw [if_pos (by omega)]
              clear n1
              have HY : Hid (rdY B false = 1002) := by show _ = _; rw [unhide HRY, if_pos (by rw [unhide HYc]; omega), unhide HYc]
              clear HRY
              go_wp2
              refine bodyPost_ret (v := .tuple #[.agg #[.bool false, .int .i64 0, .slice none 0 0], .int .i64 0, .int .i64 1002]) (by simp [results, Tryd.results7, go_sem, r0, r1, r2]) rfl ⟨below3 (unhide HVB) (Nat.le_refl _) (Nat.le_refl _) _ _ _, .inl ⟨?_, ?_⟩⟩
              · show _ ≠ _
                rw [unhide HY]; omega
              · rw [unhide HY]; rfl
            have n1' : ¬ (N : Int) < 126 := by omega
            by_cases n2 : 16384 < N
            · have n2' : (16384 : Int) < (N : Int) := by omega
              have HYc : Hid (szY B = 1009) := by show _ = _; rw [unhide HYN]; unfold numY; rw [if_neg (by omega), if_pos (by omega)]
              clear n1 n2
              have HY : Hid (rdY B false = 1009) := by show _ = _; rw [unhide HRY, if_pos (by rw [unhide HYc]; omega), unhide HYc]
              clear HRY
              go_wp2
              refine bodyPost_ret (v := .tuple #[.agg #[.bool false, .int .i64 0, .slice none 0 0], .int .i64 0, .int .i64 1009]) (by simp [results, Tryd.results7, go_sem, r0, r1, r2]) rfl ⟨below3 (unhide HVB) (Nat.le_refl _) (Nat.le_refl _) _ _ _, .inl ⟨?_, ?_⟩⟩
              · show _ ≠ _
                rw [unhide HY]; omega
              · rw [unhide HY]; rfl
            have n2' : ¬ (16384 : Int) < (N : Int) := by omega
            have HSZ : Hid (szY B = 0 ∧ szA B = 4 ∧ szS B = N) := by
              have h0 : szY B = 0 := by rw [unhide HYN]; unfold numY; rw [if_neg (by omega), if_neg (by omega)]
              exact ⟨h0, unhide HAN h0⟩
            obtain ⟨en, hen⟩ : ∃ en : Nat, en = 4 + N := ⟨_, rfl⟩
            have e2 : (4 : Int) + (N : Int) = (en : Int) := by omega
            have HEN : Hid (en = rdEnd B false) := by show _ = _; unfold rdEnd; rw [(unhide HSZ).2.1, (unhide HSZ).2.2, hen]; rfl
            by_cases hlen : B.length < en
            · have hlen' : (B.length : Int) - 4 < (N : Int) := by omega
              have HY : Hid (rdY B false = 1) := by show _ = _; rw [unhide HRY, if_neg (by rw [(unhide HSZ).1]; omega), if_pos (by rw [← unhide HEN]; omega)]
              clear hlen hen
              go_wp2
              refine bodyPost_ret (v := .tuple #[.agg #[.bool false, .int .i64 0, .slice none 0 0], .int .i64 0, .int .i64 1]) (by simp [results, Tryd.results7, go_sem, r0, r1, r2]) rfl ⟨below3 (unhide HVB) (Nat.le_refl _) (Nat.le_refl _) _ _ _, .inl ⟨?_, ?_⟩⟩
              · show _ ≠ _
                rw [unhide HY]; omega
              · rw [unhide HY]; rfl
            have hlen' : ¬ (B.length : Int) - 4 < (N : Int) := by omega
            have HY : Hid (rdY B false = 0) := by show _ = _; rw [unhide HRY, if_neg (by rw [(unhide HSZ).1]; omega), if_neg (by rw [← unhide HEN]; omega)]
            have HYo : Hid (rdY B false = 0) ∨ False := .inl HY
            clear HY
            have hB3 := (unhide HBd).below (unhide HVB) (Nat.le_refl _)
            obtain ⟨a1, hsl1, hbs1⟩ := cut_mid (some ⟨b, off, none⟩) cap 4 en B hle (by omega) (by omega) (fun _ => ⟨b, off, rfl⟩)
            have hl1 : ((B.take en).drop 4).length = en - 4 := by simp; omega
            rw [← hl1] at hsl1
            have hsl1' : ∀ w, (Instr.slice 22 (.slice (some ⟨b, off, none⟩) B.length cap) (some (.int .i64 4)) (some (.int .i64 (en : Int))) none).run Tryd.prog w = .ok (.slice a1 ((B.take en).drop 4).length (cap - 4)) w := hsl1
            have HL1 := hide (hbs1 V hB3)
            have hl1l : ((B.take en).drop 4).length ≤ 16384 := by rw [hl1]; omega
            have HRD : Hid (rdL B false = (B.take en).drop 4) := by
              show _ = _
              unfold rdL
              rw [(unhide HSZ).2.1, ← unhide HEN]
              unfold xm
              rw [if_pos (by simp)]
              rfl
            generalize (B.take en).drop 4 = L1 at *
            have hRl := (Array.getElem?_eq_some_iff.1 (unhide HVR)).1
            clear hsl1 hbs1 hB3 hl1 hlen hen HSZ HRY
            go_wp2_with (at_builtin; refine wp_app _ rfl _ _ rfl V.heap.size (some ⟨V.heap.size, 0, none⟩) 0 [] rfl (own_empty _ _ (Nat.le_refl _)) a1 (cap - 4) L1 _ rfl rfl ?c2 ?c5 ?c3 ?c4 ?_)
            case c2 => exact (unhide HL1).row.alloc _
            case c5 => exact (unhide HL1).nz
            case c3 => (try simp only [List.length_nil]); omega
            intro a6 c6 r6 w6 hr6 ho6 hg6
            obtain rfl : r6 = L1 := by rw [hr6.out]
            have hb6 : Below V.heap.size V w6 := below_grown (a := some ⟨V.heap.size, 0, none⟩) ((Below.refl _ _).alloc (Nat.le_refl _) _) hg6 (Nat.le_refl _) (fun k hk => by simp [blk] at hk; omega)
            have HO6 := hide ho6
            have HB6 := hide hb6
            clear hr6 hg6 ho6 hb6 r0 r1 r2 g0 g1 g2 z0 z1 z2 hsl1'
            go_wp2
            go_loop [150] (fun i => ∃ k : Nat, k ≤ r6.length ∧ i = .int .i64 (k : Int)) (fun i => r6.length - (intOf i).toNat)
            case atStart => exact ⟨0, Nat.zero_le _, rfl⟩
            case round =>
              obtain ⟨k, hk, rfl⟩ := hrel
              by_cases hlt : k < r6.length
              · have hlt' : (k : Int) < (r6.length : Int) := by omega
                go_wp2
                go_round
                case rel => exact ⟨k + 1, by omega, by go_num⟩
                case measure => simp [intOf]; omega
              · have hlt' : ¬ (k : Int) < (r6.length : Int) := by omega
                have HXR := hide (((unhide HB6).block _ hRl).trans (unhide HVR))
                have HXB := hide ((unhide HVB).trans ((unhide HB6).mono (unhide HVB).size))
                have HXO := HO6
                have r0 : w6.cell? ⟨w.heap.size, 0, none⟩ = some (.bool false) := by rw [cell_of_row w6 w.heap.size 0 _ _ _ (unhide HXR)]; rfl
                have r1 : w6.cell? ⟨w.heap.size, 1, none⟩ = some (.int .i64 0) := by rw [cell_of_row w6 w.heap.size 1 _ _ _ (unhide HXR)]; rfl
                have r2 : w6.cell? ⟨w.heap.size, 2, none⟩ = some (.slice none 0 0) := by rw [cell_of_row w6 w.heap.size 2 _ _ _ (unhide HXR)]; rfl
                have g0 : w6.frozen? ⟨w.heap.size, 0, none⟩ = false := frozen_of_row w6 w.heap.size 0 _ _ (unhide HXR)
                have g1 : w6.frozen? ⟨w.heap.size, 1, none⟩ = false := frozen_of_row w6 w.heap.size 1 _ _ (unhide HXR)
                have g2 : w6.frozen? ⟨w.heap.size, 2, none⟩ = false := frozen_of_row w6 w.heap.size 2 _ _ (unhide HXR)
                clear hlt
                go_wp2
                refine bodyPost_ret (v := .tuple #[.agg #[.bool fin, .int .i64 (op : Int), .slice a6 r6.length c6], .int .i64 (en : Int), .int .i64 0]) (by simp [results, Tryd.results7, go_sem, r0, r1, r2]) rfl ⟨below3 (unhide HXB) (Nat.le_refl _) (Nat.le_refl _) _ _ _, .inr ⟨HYo.elim id (fun h => h.elim), a6, c6, r6, ?_, ?_, ?_⟩⟩
                · rw [← unhide HEN, ← unhide HFE, ← unhide HOE]
                · exact (unhide HRD).symm
                · exact own3 (unhide HXO) hRl _ _ _
      | true =>
        have HY : Hid (rdY B true = 1002) := by show _ = _; unfold rdY; rw [unhide HY3]; rfl
        clear HY3
        go_wp2
        refine bodyPost_ret (v := .tuple #[.agg #[.bool false, .int .i64 0, .slice none 0 0], .int .i64 0, .int .i64 1002]) (by simp [results, Tryd.results7, go_sem, r0, r1, r2]) rfl ⟨below3 (unhide HVB) (Nat.le_refl _) (Nat.le_refl _) _ _ _, .inl ⟨?_, ?_⟩⟩
        · show _ ≠ _
          rw [unhide HY]; omega
        · rw [unhide HY]; rfl
    | true =>
      cases mask with
      | false =>
        have HY : Hid (rdY B false = 1002) := by show _ = _; unfold rdY; rw [unhide HY3]; rfl
        clear HY3
        go_wp2
        refine bodyPost_ret (v := .tuple #[.agg #[.bool false, .int .i64 0, .slice none 0 0], .int .i64 0, .int .i64 1002]) (by simp [results, Tryd.results7, go_sem, r0, r1, r2]) rfl ⟨below3 (unhide HVB) (Nat.le_refl _) (Nat.le_refl _) _ _ _, .inl ⟨?_, ?_⟩⟩
        · show _ ≠ _
          rw [unhide HY]; omega
        · rw [unhide HY]; rfl
      | true =>
        have HRY : Hid (rdY B true = if szY B ≠ 0 then szY B else if B.length < rdEnd B true then 1 else 0) := by show _ = _; unfold rdY; rw [unhide HY3]; rfl
        clear HY3
        by_cases h125 : s ≤ 125
        · have h125' : decide ((125 : Int) < (s : Int)) = false := decide_eq_false (by omega)
          have HSZ := hide (sz_short B s (by omega) (by rw [hy1]; exact unhide HS) h125)
          obtain ⟨en, hen⟩ : ∃ en : Nat, en = 6 + s := ⟨_, rfl⟩
          have e2 : (6 : Int) + (s : Int) = (en : Int) := by omega
          have HEN : Hid (en = rdEnd B true) := by show _ = _; unfold rdEnd; rw [(unhide HSZ).2.1, (unhide HSZ).2.2, hen]; rfl
          by_cases hl4 : B.length < 6
          · have hl4' : (B.length : Int) < 6 := by omega
            have HY : Hid (rdY B true = 1) := by show _ = _; rw [unhide HRY, if_neg (by rw [(unhide HSZ).1]; omega), if_pos (by rw [← unhide HEN]; omega)]
            clear hl4 hen e2
            go_wp2
            refine bodyPost_ret (v := .tuple #[.agg #[.bool false, .int .i64 0, .slice none 0 0], .int .i64 0, .int .i64 1]) (by simp [results, Tryd.results7, go_sem, r0, r1, r2]) rfl ⟨below3 (unhide HVB) (Nat.le_refl _) (Nat.le_refl _) _ _ _, .inl ⟨?_, ?_⟩⟩
            · show _ ≠ _
              rw [unhide HY]; omega
            · rw [unhide HY]; rfl
          have hl4' : ¬ (B.length : Int) < 6 := by omega
          by_cases hlen : B.length < en
          · have hlen' : (B.length : Int) - 6 < (s : Int) := by omega
            have hB3 := (unhide HBd).below (unhide HVB) (Nat.le_refl _)
            obtain ⟨a2, hsl2, -⟩ := cut_mid (some ⟨b, off, none⟩) cap 2 6 B hle (by omega) (by omega) (fun _ => ⟨b, off, rfl⟩)
            have hsl2' : ∀ w, (Instr.slice 22 (.slice (some ⟨b, off, none⟩) B.length cap) (some (.int .i64 2)) (some (.int .i64 6)) none).run Tryd.prog w = .ok (.slice a2 4 (cap - 2)) w := hsl2
            clear hsl2 hB3
            have HY : Hid (rdY B true = 1) := by show _ = _; rw [unhide HRY, if_neg (by rw [(unhide HSZ).1]; omega), if_pos (by rw [← unhide HEN]; omega)]
            clear hlen hen
            go_wp2
            refine bodyPost_ret (v := .tuple #[.agg #[.bool false, .int .i64 0, .slice none 0 0], .int .i64 0, .int .i64 1]) (by simp [results, Tryd.results7, go_sem, r0, r1, r2]) rfl ⟨below3 (unhide HVB) (Nat.le_refl _) (Nat.le_refl _) _ _ _, .inl ⟨?_, ?_⟩⟩
            · show _ ≠ _
              rw [unhide HY]; omega
            · rw [unhide HY]; rfl
          have hlen' : ¬ (B.length : Int) - 6 < (s : Int) := by omega
          have HY : Hid (rdY B true = 0) := by show _ = _; rw [unhide HRY, if_neg (by rw [(unhide HSZ).1]; omega), if_neg (by rw [← unhide HEN]; omega)]
          have HYo : Hid (rdY B true = 0) ∨ False := .inl HY
          clear HY
          have hB3 := (unhide HBd).below (unhide HVB) (Nat.le_refl _)
          obtain ⟨a1, hsl1, hbs1⟩ := cut_mid (some ⟨b, off, none⟩) cap 6 en B hle (by omega) (by omega) (fun _ => ⟨b, off, rfl⟩)
          have hl1 : ((B.take en).drop 6).length = en - 6 := by simp; omega
          rw [← hl1] at hsl1
          have hsl1' : ∀ w, (Instr.slice 22 (.slice (some ⟨b, off, none⟩) B.length cap) (some (.int .i64 6)) (some (.int .i64 (en : Int))) none).run Tryd.prog w = .ok (.slice a1 ((B.take en).drop 6).length (cap - 6)) w := hsl1
          have HL1 := hide (hbs1 V hB3)
          have hl1l : ((B.take en).drop 6).length ≤ 16384 := by rw [hl1]; omega
          obtain ⟨a2, hsl2, hbs2⟩ := cut_mid (some ⟨b, off, none⟩) cap 2 6 B hle (by omega) (by omega) (fun _ => ⟨b, off, rfl⟩)
          have hsl2' : ∀ w, (Instr.slice 22 (.slice (some ⟨b, off, none⟩) B.length cap) (some (.int .i64 2)) (some (.int .i64 6)) none).run Tryd.prog w = .ok (.slice a2 4 (cap - 2)) w := hsl2
          have HM1 := hide (hbs2 V hB3)
          have hm1l : ((B.take 6).drop 2).length = 4 := by simp; omega
          have HRD : Hid (rdL B true = pm ((B.take 6).drop 2) ((B.take en).drop 6) ((B.take en).drop 6).length) := by
            show _ = _
            unfold rdL
            rw [(unhide HSZ).2.1, ← unhide HEN]
            unfold xm
            rw [if_neg (by intro e; have e' := congrArg List.length e; simp at e'; omega)]
            rfl
          generalize (B.take 6).drop 2 = M1 at *
          clear hsl2 hbs2
          generalize (B.take en).drop 6 = L1 at *
          have hRl := (Array.getElem?_eq_some_iff.1 (unhide HVR)).1
          clear hsl1 hbs1 hB3 hl1 hlen hen HSZ HRY
          go_wp2_with (at_builtin; refine wp_app _ rfl _ _ rfl V.heap.size (some ⟨V.heap.size, 0, none⟩) 0 [] rfl (own_empty _ _ (Nat.le_refl _)) a1 (cap - 6) L1 _ rfl rfl ?c2 ?c5 ?c3 ?c4 ?_)
          case c2 => exact (unhide HL1).row.alloc _
          case c5 => exact (unhide HL1).nz
          case c3 => (try simp only [List.length_nil]); omega
          intro a6 c6 r6 w6 hr6 ho6 hg6
          obtain rfl : r6 = L1 := by rw [hr6.out]
          have hb6 : Below V.heap.size V w6 := below_grown (a := some ⟨V.heap.size, 0, none⟩) ((Below.refl _ _).alloc (Nat.le_refl _) _) hg6 (Nat.le_refl _) (fun k hk => by simp [blk] at hk; omega)
          have HO6 := hide ho6
          have HB6 := hide hb6
          clear hr6 hg6 ho6 hb6 r0 r1 r2 g0 g1 g2 z0 z1 z2 hsl1'
          go_wp2
          go_loopw [150] (fun v wr => ∃ k : Nat, k ≤ r6.length ∧ v = .int .i64 (k : Int) ∧ Hid (OwnB wr V.heap.size a6 c6 (pm M1 r6 k)) ∧ Hid (Below V.heap.size V wr)) (fun v _ => r6.length - (intOf v).toNat)
          case atStart => exact ⟨0, Nat.zero_le _, rfl, (by show OwnB _ _ _ _ _; rw [pm_zero]; exact unhide HO6), HB6⟩
          case round =>
            clear HO6 HB6
            obtain ⟨k, hk, rfl, ho, hb⟩ := hrel
            by_cases hlt : k < r6.length
            · obtain ⟨gy, rfl, hgy1, hgy2, hcy, hfy⟩ := ho.out.some (by rw [pm_length]; omega)
              have c0 := hcy k (by rw [pm_length]; exact hlt)
              rw [pm_get M1 r6 k k hlt, if_neg (by omega)] at c0
              have f0 := hfy k
              obtain ⟨bm, om, rfl, hcm⟩ := ((unhide HM1).row.below hb.out (Nat.le_refl _)) (by intro e; rw [e] at hm1l; simp at hm1l)
              obtain ⟨q, hq⟩ : ∃ q, q = k % 4 := ⟨_, rfl⟩
              have hq4 : q < 4 := by omega
              have hq1 : (k : Int).tmod 4 = (q : Int) := by rw [hq]; rfl
              have hq2 : (k : Int) % 4 = (q : Int) := by rw [hq]; simp
              have c1 := hcm q (by omega)
              have hk2 : (k : Int) < (r6.length : Int) := by omega
              have HST := hide (own_storedw ho.out k (r6.getD k 0 ^^^ M1.getD q 0))
              rw [hq, pm_succ M1 r6 k hlt, ← hq] at HST
              have HBB : Hid (Below V.heap.size V (wr.setCell ⟨gy, k, none⟩ (.int .u8 ((r6.getD k 0 ^^^ M1.getD q 0).toNat : Int)))) := hb.out.grown (grownBy_setCell wr _ _) hb.out.size (fun j hj => by rw [← Option.some.inj hj]; exact hgy1)
              have hx := u8xw (r6.getD k 0) (M1.getD q 0)
              generalize r6.getD k 0 = v1 at *
              generalize M1.getD q 0 = v2 at *
              generalize v1 ^^^ v2 = v3 at *
              clear hq hcy hfy hcm ho hb
              have hqm4 : (q : Int) < 4 := by omega
              go_wp2
              go_region
              all_goals
                go_wp2
                go_roundw
                case rel => exact ⟨k + 1, by omega, by go_num, HST, HBB.out.drew⟩
                case measure => simp [intOf]; omega
            · obtain rfl : k = r6.length := by omega
              have HLL := hide (pm_length M1 r6 r6.length)
              have HXR := hide (((unhide hb).block _ hRl).trans (unhide HVR))
              have HXB := hide ((unhide HVB).trans ((unhide hb).mono (unhide HVB).size))
              have HXO := ho
              have r0 : wr.cell? ⟨w.heap.size, 0, none⟩ = some (.bool false) := by rw [cell_of_row wr w.heap.size 0 _ _ _ (unhide HXR)]; rfl
              have r1 : wr.cell? ⟨w.heap.size, 1, none⟩ = some (.int .i64 0) := by rw [cell_of_row wr w.heap.size 1 _ _ _ (unhide HXR)]; rfl
              have r2 : wr.cell? ⟨w.heap.size, 2, none⟩ = some (.slice none 0 0) := by rw [cell_of_row wr w.heap.size 2 _ _ _ (unhide HXR)]; rfl
              have g0 : wr.frozen? ⟨w.heap.size, 0, none⟩ = false := frozen_of_row wr w.heap.size 0 _ _ (unhide HXR)
              have g1 : wr.frozen? ⟨w.heap.size, 1, none⟩ = false := frozen_of_row wr w.heap.size 1 _ _ (unhide HXR)
              have g2 : wr.frozen? ⟨w.heap.size, 2, none⟩ = false := frozen_of_row wr w.heap.size 2 _ _ (unhide HXR)
              clear hlt ho hb
              generalize hPM : pm M1 r6 r6.length = L2 at *
              rw [← unhide HLL]
              go_wp2
              refine bodyPost_ret (v := .tuple #[.agg #[.bool fin, .int .i64 (op : Int), .slice a6 L2.length c6], .int .i64 (en : Int), .int .i64 0]) (by simp [results, Tryd.results7, go_sem, r0, r1, r2]) rfl ⟨below3 (unhide HXB) (Nat.le_refl _) (Nat.le_refl _) _ _ _, .inr ⟨HYo.elim id (fun h => h.elim), a6, c6, L2, ?_, ?_, ?_⟩⟩
              · rw [← unhide HEN, ← unhide HFE, ← unhide HOE]
              · exact (unhide HRD).symm
              · exact own3 (unhide HXO) hRl _ _ _
        have h125' : decide ((125 : Int) < (s : Int)) = true := decide_eq_true (by omega)
        by_cases h127 : s = 127
        · subst h127
          have h127b : ((127 : Int) == 127) = true := rfl
          clear h125
          by_cases hM : B.length < 10
          · have hM' : (B.length : Int) < 10 := by omega
            have HYc := hide (sz_cut B 10 (by rw [hy1, ← unhide HS]; rfl) hM)
            clear hM
            have HY : Hid (rdY B true = 1) := by show _ = _; rw [unhide HRY, if_pos (by rw [unhide HYc]; omega), unhide HYc]
            clear HRY
            go_wp2
            refine bodyPost_ret (v := .tuple #[.agg #[.bool false, .int .i64 0, .slice none 0 0], .int .i64 0, .int .i64 1]) (by simp [results, Tryd.results7, go_sem, r0, r1, r2]) rfl ⟨below3 (unhide HVB) (Nat.le_refl _) (Nat.le_refl _) _ _ _, .inl ⟨?_, ?_⟩⟩
            · show _ ≠ _
              rw [unhide HY]; omega
            · rw [unhide HY]; rfl
          have hM' : ¬ (B.length : Int) < 10 := by omega
          have i2 : (2 : Int) < (B.length : Int) := by omega
          have c2 := unhide HC 2 (by omega)
          obtain ⟨y2, hy2⟩ : ∃ y2, B.getD 2 0 = y2 := ⟨_, rfl⟩
          rw [hy2] at c2
          have hy2256 := y2.toNat_lt
          by_cases hb2 : y2.toNat < 128
          · have hb2' : decide ((128 : Int) ≤ (y2.toNat : Int)) = false := decide_eq_false (by omega)
            have hML : 10 ≤ B.length := by omega
            obtain ⟨N, hN⟩ : ∃ N, N = fh ((B.take 10).drop 2) := ⟨_, rfl⟩
            obtain ⟨hYN, hAN⟩ := sz_long B 10 65536 (by rw [hy1, ← unhide HS]; rfl) (by rw [hy1, ← unhide HS]; rfl) (by omega) hM
            rw [← hN] at hYN hAN
            have HYN := hide hYN
            have HAN := hide hAN
            have HNN := hide hN
            clear hYN hAN hN
            have hN63 : N < 9223372036854775808 := by
              rw [unhide HNN]
              refine fh_low8 _ ?_ (by simp; omega)
              rw [List.getD_eq_getElem?_getD, List.getElem?_drop, List.getElem?_take, if_pos (by omega), ← List.getD_eq_getElem?_getD]
              show (B.getD 2 0).toNat < 128
              rw [hy2]
              exact hb2
            go_wp2
            go_loop [10, 96] (fun n i => ∃ k : Nat, k ≤ 8 ∧ i = .int .i64 (k : Int) ∧ n = .int .i64 ((fh (((B.take 10).drop 2).take k) : Nat) : Int)) (fun _ i => 8 - (intOf i).toNat)
            case atStart => exact ⟨0, Nat.zero_le _, rfl, rfl⟩
            case round =>
              obtain ⟨k, hk, rfl, rfl⟩ := hrel
              by_cases hlt : k < 8
              · have hlt' : (k : Int) < 8 := by omega
                have HST := hide (fh_step B 10 k hML (by omega))
                have hF : fh (((B.take 10).drop 2).take k) < 36028797018963968 := by
                  refine fh_low _ ?_ (by simp; omega)
                  have e : ((((B.take 10).drop 2).take k).getD 0 0).toNat ≤ (B.getD 2 0).toNat := by
                    rw [List.getD_eq_getElem?_getD, List.getD_eq_getElem?_getD]
                    by_cases hk0 : 0 < k
                    · rw [List.getElem?_take, if_pos hk0, List.getElem?_drop, List.getElem?_take, if_pos (by omega)]; exact Nat.le_refl _
                    · rw [List.getElem?_eq_none (by simp; omega)]; simp
                  rw [hy2] at e
                  omega
                obtain ⟨j, hj⟩ : ∃ j, j = 2 + k := ⟨_, rfl⟩
                have hj1 : (2 : Int) + (k : Int) = (j : Int) := by omega
                have hjB : (j : Int) < (B.length : Int) := by omega
                have cj := unhide HC j (by omega)
                rw [← hj] at HST
                have hcj := (B.getD j 0).toNat_lt
                generalize (B.getD j 0).toNat = u at *
                generalize fh (((B.take 10).drop 2).take k) = F at *
                clear hj hlt
                go_wp2
                go_round
                case rel => exact ⟨k + 1, by omega, by go_num, int_eq (by rw [unhide HST]; omega)⟩
                case measure => simp [intOf]; omega
              · have hkM : k = 8 := by omega
                subst hkM
                have hlt' : ¬ ((8 : Int) < 8) := by omega
                have eT : ((B.take 10).drop 2).take 8 = (B.take 10).drop 2 := List.take_of_length_le (by simp; omega)
                rw [eT, ← unhide HNN]
                clear eT hlt hk
                by_cases n1 : N < 65536
                · have n1' : (N : Int) < 65536 := by omega
                  have HYc : Hid (szY B = 1002) := by show _ = _; rw [unhide HYN]; unfold numY; rw [if_pos (by omega)]
                  clear n1
                  have HY : Hid (rdY B true = 1002) := by show _ = _; rw [unhide HRY, if_pos (by rw [unhide HYc]; omega), unhide HYc]
                  clear HRY
                  go_wp2
                  refine bodyPost_ret (v := .tuple #[.agg #[.bool false, .int .i64 0, .slice none 0 0], .int .i64 0, .int .i64 1002]) (by simp [results, Tryd.results7, go_sem, r0, r1, r2]) rfl ⟨below3 (unhide HVB) (Nat.le_refl _) (Nat.le_refl _) _ _ _, .inl ⟨?_, ?_⟩⟩
                  · show _ ≠ _
                    rw [unhide HY]; omega
                  · rw [unhide HY]; rfl
                have n1' : ¬ (N : Int) < 65536 := by omega
                have n2' : (16384 : Int) < (N : Int) := by omega
                have HYc : Hid (szY B = 1009) := by show _ = _; rw [unhide HYN]; unfold numY; rw [if_neg (by omega), if_pos (by omega)]
                clear n1
                have HY : Hid (rdY B true = 1009) := by show _ = _; rw [unhide HRY, if_pos (by rw [unhide HYc]; omega), unhide HYc]
                clear HRY
                go_wp2
                refine bodyPost_ret (v := .tuple #[.agg #[.bool false, .int .i64 0, .slice none 0 0], .int .i64 0, .int .i64 1009]) (by simp [results, Tryd.results7, go_sem, r0, r1, r2]) rfl ⟨below3 (unhide HVB) (Nat.le_refl _) (Nat.le_refl _) _ _ _, .inl ⟨?_, ?_⟩⟩
                · show _ ≠ _
                  rw [unhide HY]; omega
                · rw [unhide HY]; rfl
          have hb2' : decide ((128 : Int) ≤ (y2.toNat : Int)) = true := decide_eq_true (by omega)
          have HYc : Hid (szY B = 1002) := by
            show _ = _
            rw [(sz_long B 10 65536 (by rw [hy1, ← unhide HS]; rfl) (by rw [hy1, ← unhide HS]; rfl) (by omega) hM).1]
            have h63 := fh_high8 ((B.take 10).drop 2) (by rw [List.getD_eq_getElem?_getD, List.getElem?_drop, List.getElem?_take, if_pos (by omega), ← List.getD_eq_getElem?_getD]; show 128 ≤ (B.getD 2 0).toNat; rw [hy2]; omega) (by simp; omega)
            unfold numY
            rw [if_pos (by omega)]
          clear hb2 hM
          have HY : Hid (rdY B true = 1002) := by show _ = _; rw [unhide HRY, if_pos (by rw [unhide HYc]; omega), unhide HYc]
          clear HRY
          go_wp2
          refine bodyPost_ret (v := .tuple #[.agg #[.bool false, .int .i64 0, .slice none 0 0], .int .i64 0, .int .i64 1002]) (by simp [results, Tryd.results7, go_sem, r0, r1, r2]) rfl ⟨below3 (unhide HVB) (Nat.le_refl _) (Nat.le_refl _) _ _ _, .inl ⟨?_, ?_⟩⟩
          · show _ ≠ _
            rw [unhide HY]; omega
          · rw [unhide HY]; rfl
        obtain rfl : s = 126 := by omega
        have h127b : ((126 : Int) == 127) = false := rfl
        clear h125 h127
        by_cases hM : B.length < 4
        · have hM' : (B.length : Int) < 4 := by omega
          have HYc := hide (sz_cut B 4 (by rw [hy1, ← unhide HS]; rfl) hM)
          clear hM
          have HY : Hid (rdY B true = 1) := by show _ = _; rw [unhide HRY, if_pos (by rw [unhide HYc]; omega), unhide HYc]
          clear HRY
          go_wp2
          refine bodyPost_ret (v := .tuple #[.agg #[.bool false, .int .i64 0, .slice none 0 0], .int .i64 0, .int .i64 1]) (by simp [results, Tryd.results7, go_sem, r0, r1, r2]) rfl ⟨below3 (unhide HVB) (Nat.le_refl _) (Nat.le_refl _) _ _ _, .inl ⟨?_, ?_⟩⟩
          · show _ ≠ _
            rw [unhide HY]; omega
          · rw [unhide HY]; rfl
        have hM' : ¬ (B.length : Int) < 4 := by omega
        have hML : 4 ≤ B.length := by omega
        obtain ⟨N, hN⟩ : ∃ N, N = fh ((B.take 4).drop 2) := ⟨_, rfl⟩
        obtain ⟨hYN, hAN⟩ := sz_long B 4 126 (by rw [hy1, ← unhide HS]; rfl) (by rw [hy1, ← unhide HS]; rfl) (by omega) hM
        rw [← hN] at hYN hAN
        have HYN := hide hYN
        have HAN := hide hAN
        have HNN := hide hN
        clear hYN hAN hN
        have hN16 : N < 65536 := by
          have h := fh_lt ((B.take 4).drop 2)
          rw [← unhide HNN, show ((B.take 4).drop 2).length = 2 by simp; omega] at h
          simpa using h
        go_wp2
        go_loop [10, 96] (fun n i => ∃ k : Nat, k ≤ 2 ∧ i = .int .i64 (k : Int) ∧ n = .int .i64 ((fh (((B.take 4).drop 2).take k) : Nat) : Int)) (fun _ i => 2 - (intOf i).toNat)
        case atStart => exact ⟨0, Nat.zero_le _, rfl, rfl⟩
        case round =>
          obtain ⟨k, hk, rfl, rfl⟩ := hrel
          by_cases hlt : k < 2
          · have hlt' : (k : Int) < 2 := by omega
            have HST := hide (fh_step B 4 k hML (by omega))
            have hF : fh (((B.take 4).drop 2).take k) < 36028797018963968 := by
              have h := fh_lt (((B.take 4).drop 2).take k)
              have h2 : (((B.take 4).drop 2).take k).length ≤ 1 := by simp; omega
              have h3 := Nat.pow_le_pow_right (show 0 < 256 by decide) h2
              omega
            obtain ⟨j, hj⟩ : ∃ j, j = 2 + k := ⟨_, rfl⟩
            have hj1 : (2 : Int) + (k : Int) = (j : Int) := by omega
            have hjB : (j : Int) < (B.length : Int) := by omega
            have cj := unhide HC j (by omega)
            rw [← hj] at HST
            have hcj := (B.getD j 0).toNat_lt
            generalize (B.getD j 0).toNat = u at *
            generalize fh (((B.take 4).drop 2).take k) = F at *
            clear hj hlt
            go_wp2
            go_round
            case rel => exact ⟨k + 1, by omega, by go_num, int_eq (by rw [unhide HST]; omega)⟩
            case measure => simp [intOf]; omega
          · have hkM : k = 2 := by omega
            subst hkM
            have hlt' : ¬ ((2 : Int) < 2) := by omega
            have eT : ((B.take 4).drop 2).take 2 = (B.take 4).drop 2 := List.take_of_length_le (by simp; omega)
            rw [eT, ← unhide HNN]
            clear eT hlt hk
            by_cases n1 : N < 126
            · have n1' : (N : Int) < 126 := by omega
              have HYc : Hid (szY B = 1002) := by show _ = _; rw [unhide HYN]; unfold numY; rw [if_pos (by omega)]
              clear n1
              have HY : Hid (rdY B true = 1002) := by show _ = _; rw [unhide HRY, if_pos (by rw [unhide HYc]; omega), unhide HYc]
              clear HRY
              go_wp2
              refine bodyPost_ret (v := .tuple #[.agg #[.bool false, .int .i64 0, .slice none 0 0], .int .i64 0, .int .i64 1002]) (by simp [results, Tryd.results7, go_sem, r0, r1, r2]) rfl ⟨below3 (unhide HVB) (Nat.le_refl _) (Nat.le_refl _) _ _ _, .inl ⟨?_, ?_⟩⟩
              · show _ ≠ _
                rw [unhide HY]; omega
              · rw [unhide HY]; rfl
            have n1' : ¬ (N : Int) < 126 := by omega
            by_cases n2 : 16384 < N
            · have n2' : (16384 : Int) < (N : Int) := by omega
              have HYc : Hid (szY B = 1009) := by show _ = _; rw [unhide HYN]; unfold numY; rw [if_neg (by omega), if_pos (by omega)]
              clear n1 n2
              have HY : Hid (rdY B true = 1009) := by show _ = _; rw [unhide HRY, if_pos (by rw [unhide HYc]; omega), unhide HYc]
              clear HRY
              go_wp2
              refine bodyPost_ret (v := .tuple #[.agg #[.bool false, .int .i64 0, .slice none 0 0], .int .i64 0, .int .i64 1009]) (by simp [results, Tryd.results7, go_sem, r0, r1, r2]) rfl ⟨below3 (unhide HVB) (Nat.le_refl _) (Nat.le_refl _) _ _ _, .inl ⟨?_, ?_⟩⟩
              · show _ ≠ _
                rw [unhide HY]; omega
              · rw [unhide HY]; rfl
            have n2' : ¬ (16384 : Int) < (N : Int) := by omega
            have HSZ : Hid (szY B = 0 ∧ szA B = 4 ∧ szS B = N) := by
              have h0 : szY B = 0 := by rw [unhide HYN]; unfold numY; rw [if_neg (by omega), if_neg (by omega)]
              exact ⟨h0, unhide HAN h0⟩
            obtain ⟨en, hen⟩ : ∃ en : Nat, en = 8 + N := ⟨_, rfl⟩
            have e2 : (8 : Int) + (N : Int) = (en : Int) := by omega
            have HEN : Hid (en = rdEnd B true) := by show _ = _; unfold rdEnd; rw [(unhide HSZ).2.1, (unhide HSZ).2.2, hen]; rfl
            by_cases hl4 : B.length < 8
            · have hl4' : (B.length : Int) < 8 := by omega
              have HY : Hid (rdY B true = 1) := by show _ = _; rw [unhide HRY, if_neg (by rw [(unhide HSZ).1]; omega), if_pos (by rw [← unhide HEN]; omega)]
              clear hl4 hen e2
              go_wp2
              refine bodyPost_ret (v := .tuple #[.agg #[.bool false, .int .i64 0, .slice none 0 0], .int .i64 0, .int .i64 1]) (by simp [results, Tryd.results7, go_sem, r0, r1, r2]) rfl ⟨below3 (unhide HVB) (Nat.le_refl _) (Nat.le_refl _) _ _ _, .inl ⟨?_, ?_⟩⟩
              · show _ ≠ _
                rw [unhide HY]; omega
              · rw [unhide HY]; rfl
            have hl4' : ¬ (B.length : Int) < 8 := by omega
            by_cases hlen : B.length < en
            · have hlen' : (B.length : Int) - 8 < (N : Int) := by omega
              have hB3 := (unhide HBd).below (unhide HVB) (Nat.le_refl _)
              obtain ⟨a2, hsl2, -⟩ := cut_mid (some ⟨b, off, none⟩) cap 4 8 B hle (by omega) (by omega) (fun _ => ⟨b, off, rfl⟩)
              have hsl2' : ∀ w, (Instr.slice 22 (.slice (some ⟨b, off, none⟩) B.length cap) (some (.int .i64 4)) (some (.int .i64 8)) none).run Tryd.prog w = .ok (.slice a2 4 (cap - 4)) w := hsl2
              clear hsl2 hB3
              have HY : Hid (rdY B true = 1) := by show _ = _; rw [unhide HRY, if_neg (by rw [(unhide HSZ).1]; omega), if_pos (by rw [← unhide HEN]; omega)]
              clear hlen hen
              go_wp2
              refine bodyPost_ret (v := .tuple #[.agg #[.bool false, .int .i64 0, .slice none 0 0], .int .i64 0, .int .i64 1]) (by simp [results, Tryd.results7, go_sem, r0, r1, r2]) rfl ⟨below3 (unhide HVB) (Nat.le_refl _) (Nat.le_refl _) _ _ _, .inl ⟨?_, ?_⟩⟩
              · show _ ≠ _
                rw [unhide HY]; omega
              · rw [unhide HY]; rfl
            have hlen' : ¬ (B.length : Int) - 8 < (N : Int) := by omega
            have HY : Hid (rdY B true = 0) := by show _ = _; rw [unhide HRY, if_neg (by rw [(unhide HSZ).1]; omega), if_neg (by rw [← unhide HEN]; omega)]
            have HYo : Hid (rdY B true = 0) ∨ False := .inl HY
            clear HY
            have hB3 := (unhide HBd).below (unhide HVB) (Nat.le_refl _)
            obtain ⟨a1, hsl1, hbs1⟩ := cut_mid (some ⟨b, off, none⟩) cap 8 en B hle (by omega) (by omega) (fun _ => ⟨b, off, rfl⟩)
            have hl1 : ((B.take en).drop 8).length = en - 8 := by simp; omega
            rw [← hl1] at hsl1
            have hsl1' : ∀ w, (Instr.slice 22 (.slice (some ⟨b, off, none⟩) B.length cap) (some (.int .i64 8)) (some (.int .i64 (en : Int))) none).run Tryd.prog w = .ok (.slice a1 ((B.take en).drop 8).length (cap - 8)) w := hsl1
            have HL1 := hide (hbs1 V hB3)
            have hl1l : ((B.take en).drop 8).length ≤ 16384 := by rw [hl1]; omega
            obtain ⟨a2, hsl2, hbs2⟩ := cut_mid (some ⟨b, off, none⟩) cap 4 8 B hle (by omega) (by omega) (fun _ => ⟨b, off, rfl⟩)
            have hsl2' : ∀ w, (Instr.slice 22 (.slice (some ⟨b, off, none⟩) B.length cap) (some (.int .i64 4)) (some (.int .i64 8)) none).run Tryd.prog w = .ok (.slice a2 4 (cap - 4)) w := hsl2
            have HM1 := hide (hbs2 V hB3)
            have hm1l : ((B.take 8).drop 4).length = 4 := by simp; omega
            have HRD : Hid (rdL B true = pm ((B.take 8).drop 4) ((B.take en).drop 8) ((B.take en).drop 8).length) := by
              show _ = _
              unfold rdL
              rw [(unhide HSZ).2.1, ← unhide HEN]
              unfold xm
              rw [if_neg (by intro e; have e' := congrArg List.length e; simp at e'; omega)]
              rfl
            generalize (B.take 8).drop 4 = M1 at *
            clear hsl2 hbs2
            generalize (B.take en).drop 8 = L1 at *
            have hRl := (Array.getElem?_eq_some_iff.1 (unhide HVR)).1
            clear hsl1 hbs1 hB3 hl1 hlen hen HSZ HRY
            go_wp2_with (at_builtin; refine wp_app _ rfl _ _ rfl V.heap.size (some ⟨V.heap.size, 0, none⟩) 0 [] rfl (own_empty _ _ (Nat.le_refl _)) a1 (cap - 8) L1 _ rfl rfl ?c2 ?c5 ?c3 ?c4 ?_)
            case c2 => exact (unhide HL1).row.alloc _
            case c5 => exact (unhide HL1).nz
            case c3 => (try simp only [List.length_nil]); omega
            intro a6 c6 r6 w6 hr6 ho6 hg6
            obtain rfl : r6 = L1 := by rw [hr6.out]
            have hb6 : Below V.heap.size V w6 := below_grown (a := some ⟨V.heap.size, 0, none⟩) ((Below.refl _ _).alloc (Nat.le_refl _) _) hg6 (Nat.le_refl _) (fun k hk => by simp [blk] at hk; omega)
            have HO6 := hide ho6
            have HB6 := hide hb6
            clear hr6 hg6 ho6 hb6 r0 r1 r2 g0 g1 g2 z0 z1 z2 hsl1'
            go_wp2
            go_loopw [150] (fun v wr => ∃ k : Nat, k ≤ r6.length ∧ v = .int .i64 (k : Int) ∧ Hid (OwnB wr V.heap.size a6 c6 (pm M1 r6 k)) ∧ Hid (Below V.heap.size V wr)) (fun v _ => r6.length - (intOf v).toNat)
            case atStart => exact ⟨0, Nat.zero_le _, rfl, (by show OwnB _ _ _ _ _; rw [pm_zero]; exact unhide HO6), HB6⟩
            case round =>
              clear HO6 HB6
              obtain ⟨k, hk, rfl, ho, hb⟩ := hrel
              by_cases hlt : k < r6.length
              · obtain ⟨gy, rfl, hgy1, hgy2, hcy, hfy⟩ := ho.out.some (by rw [pm_length]; omega)
                have c0 := hcy k (by rw [pm_length]; exact hlt)
                rw [pm_get M1 r6 k k hlt, if_neg (by omega)] at c0
                have f0 := hfy k
                obtain ⟨bm, om, rfl, hcm⟩ := ((unhide HM1).row.below hb.out (Nat.le_refl _)) (by intro e; rw [e] at hm1l; simp at hm1l)
                obtain ⟨q, hq⟩ : ∃ q, q = k % 4 := ⟨_, rfl⟩
                have hq4 : q < 4 := by omega
                have hq1 : (k : Int).tmod 4 = (q : Int) := by rw [hq]; rfl
                have hq2 : (k : Int) % 4 = (q : Int) := by rw [hq]; simp
                have c1 := hcm q (by omega)
                have hk2 : (k : Int) < (r6.length : Int) := by omega
                have HST := hide (own_storedw ho.out k (r6.getD k 0 ^^^ M1.getD q 0))
                rw [hq, pm_succ M1 r6 k hlt, ← hq] at HST
                have HBB : Hid (Below V.heap.size V (wr.setCell ⟨gy, k, none⟩ (.int .u8 ((r6.getD k 0 ^^^ M1.getD q 0).toNat : Int)))) := hb.out.grown (grownBy_setCell wr _ _) hb.out.size (fun j hj => by rw [← Option.some.inj hj]; exact hgy1)
                have hx := u8xw (r6.getD k 0) (M1.getD q 0)
                generalize r6.getD k 0 = v1 at *
                generalize M1.getD q 0 = v2 at *
                generalize v1 ^^^ v2 = v3 at *
                clear hq hcy hfy hcm ho hb
                have hqm4 : (q : Int) < 4 := by omega
                go_wp2
                go_region
                all_goals
                  go_wp2
                  go_roundw
                  case rel => exact ⟨k + 1, by omega, by go_num, HST, HBB.out.drew⟩
                  case measure => simp [intOf]; omega
              · obtain rfl : k = r6.length := by omega
                have HLL := hide (pm_length M1 r6 r6.length)
                have HXR := hide (((unhide hb).block _ hRl).trans (unhide HVR))
                have HXB := hide ((unhide HVB).trans ((unhide hb).mono (unhide HVB).size))
                have HXO := ho
                have r0 : wr.cell? ⟨w.heap.size, 0, none⟩ = some (.bool false) := by rw [cell_of_row wr w.heap.size 0 _ _ _ (unhide HXR)]; rfl
                have r1 : wr.cell? ⟨w.heap.size, 1, none⟩ = some (.int .i64 0) := by rw [cell_of_row wr w.heap.size 1 _ _ _ (unhide HXR)]; rfl
                have r2 : wr.cell? ⟨w.heap.size, 2, none⟩ = some (.slice none 0 0) := by rw [cell_of_row wr w.heap.size 2 _ _ _ (unhide HXR)]; rfl
                have g0 : wr.frozen? ⟨w.heap.size, 0, none⟩ = false := frozen_of_row wr w.heap.size 0 _ _ (unhide HXR)
                have g1 : wr.frozen? ⟨w.heap.size, 1, none⟩ = false := frozen_of_row wr w.heap.size 1 _ _ (unhide HXR)
                have g2 : wr.frozen? ⟨w.heap.size, 2, none⟩ = false := frozen_of_row wr w.heap.size 2 _ _ (unhide HXR)
                clear hlt ho hb
                generalize hPM : pm M1 r6 r6.length = L2 at *
                rw [← unhide HLL]
                go_wp2
                refine bodyPost_ret (v := .tuple #[.agg #[.bool fin, .int .i64 (op : Int), .slice a6 L2.length c6], .int .i64 (en : Int), .int .i64 0]) (by simp [results, Tryd.results7, go_sem, r0, r1, r2]) rfl ⟨below3 (unhide HXB) (Nat.le_refl _) (Nat.le_refl _) _ _ _, .inr ⟨HYo.elim id (fun h => h.elim), a6, c6, L2, ?_, ?_, ?_⟩⟩
                · rw [← unhide HEN, ← unhide HFE, ← unhide HOE]
                · exact (unhide HRD).symm
                · exact own3 (unhide HXO) hRl _ _ _
#print axioms rrd_any
end Go.Proofs.YtiiafkjdeoabaaaDoor
