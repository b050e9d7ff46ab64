/-
  wsock: the reference's Write, by kinds of frames.; wsock: the reference's Write, by kinds of frames.
-/
import Derived.Test.YtpomejeopmfcmaaDoorPkWtesat
section
set_option linter.unusedVariables false
set_option maxRecDepth 1000000
namespace Go.Proofs.YtpomejeopmfcmaaDoor
open Go.RowKit

set_option linter.unusedSimpArgs false in
set_option maxHeartbeats 8000000 in
theorem rwr_tlod (n : Nat) (hn : n ≤ 10) (x : Option Addr) (cx : Nat) (l : List UInt8) (b : Option Addr) (cb : Nat) (m : List UInt8) (w : World) (hL : Bs w x cx l) (hM : Bs w b cb m) (hm4 : m.length = 0) (h125 : 125 < l.length) (hl16 : l.length ≤ 16384) (HE0 : Hid (wrE (n : Int) true m l = 0)) (HKK : Hid (knI (n : Int) = true)) (hct : decide ((8 : Int) ≤ (n : Int)) = false) :
    Calls Tryd.prog 7 #[.agg #[.bool true, .int .i64 (n : Int), .slice x l.length cx], .slice b m.length cb] w fun e w' => ∃ a' c' r, e = .returned (.tuple #[.slice a' r.length c', .int .i64 (wrE (n : Int) true m l)]) ∧ Hid (r = wrR (n : Int) true m l) ∧ Hid (OwnB w' w.heap.size a' c' r) ∧ Hid (Below w.heap.size w w') := by
  have hle := hL.le
  have hmost := hL.most
  have hmle := hM.le
  have hmmost := hM.most
  unfold maxLen at hmost hmmost
  obtain ⟨W, hW⟩ : ∃ W, W = w.alloc (.cells #[.bool true, .int .i64 (n : Int), .slice x l.length cx] 24) := ⟨_, rfl⟩
  have hB : Below w.heap.size w W := by rw [hW]; exact (Below.refl _ _).alloc (Nat.le_refl _) _
  have hF : W.heap[w.heap.size]? = some (.cells #[.bool true, .int .i64 (n : Int), .slice x l.length cx] 24 (0, 0)) := by rw [hW]; exact heap_alloc_new w _
  have hsz : w.heap.size < W.heap.size := (Array.getElem?_eq_some_iff.1 hF).1
  have r0 : W.cell? ⟨w.heap.size, 0, none⟩ = some (.bool true) := by rw [cell_of_row W w.heap.size 0 _ _ _ hF]; rfl
  have r1 : W.cell? ⟨w.heap.size, 1, none⟩ = some (.int .i64 (n : Int)) := by rw [cell_of_row W w.heap.size 1 _ _ _ hF]; rfl
  have r2 : W.cell? ⟨w.heap.size, 2, none⟩ = some (.slice x l.length cx) := by rw [cell_of_row W w.heap.size 2 _ _ _ hF]; rfl
  have HF := hide hF
  have HL := hide (hL.below hB (Nat.le_refl _))
  have HM := hide (hM.below hB (Nat.le_refl _))
  have HB := hide hB
  clear hB hL hM hF
  go_enter Tryd.func7, Tryd.ntmps7
  go_upto_region 1 with fail
  rw [← hW]
  clear hW
  obtain ⟨c1, hc1⟩ : ∃ c, c = hd1 n true := ⟨_, rfl⟩
  obtain ⟨c2, hc2⟩ : ∃ c, c = UInt8.ofNat (mk1 m + 126) := ⟨_, rfl⟩
  have q1 : c1.toNat = n + 128 := by rw [hc1, hd1_nat n true hn]; simp
  have hmk : mk1 m = 0 := by unfold mk1; rw [if_pos (List.eq_nil_of_length_eq_zero hm4)]
  have q2 : c2.toNat = 126 := by rw [hc2, hmk, UInt8.toNat_ofNat'] <;> try omega
  obtain ⟨c3, hc3⟩ : ∃ c, c = UInt8.ofNat (l.length / 256) := ⟨_, rfl⟩
  obtain ⟨c4, hc4⟩ : ∃ c, c = UInt8.ofNat (l.length % 256) := ⟨_, rfl⟩
  have q3 : c3.toNat = l.length / 256 := by rw [hc3, UInt8.toNat_ofNat']; omega
  have q4 : c4.toNat = l.length % 256 := by rw [hc4, UInt8.toNat_ofNat']; omega
  have HW : Hid (wrR (n : Int) true m l = ([c1, c2] ++ [c3, c4] ++ m) ++ xm m l) := by
    show _ = _
    unfold wrR
    rw [if_pos (unhide HE0), Int.toNat_natCast]
    unfold wrB hd2
    rw [if_neg (by omega), hc1, hc2, hc3, hc4]
    try simp
  have HX := hide (fun k (h : k < l.length) => xm_get m l k h (.inl (List.eq_nil_of_length_eq_zero hm4)))
  have mq0 : ((m.length : Int) != 0) = false := by rw [hm4]; rfl
  have mq4 : ((m.length : Int) == 4) = false := by rw [hm4]; rfl
  have mq4' : ((m.length : Int) != 4) = true := by rw [hm4]; rfl
  have d125 : decide ((125 : Int) < (l.length : Int)) = true := decide_eq_true (by omega)
  have HM4 := hide hm4
  have d16 : decide ((16384 : Int) < (l.length : Int)) = false := decide_eq_false (by omega)
  have HOW : ∀ z1 z2 : Int, z1 = (c1.toNat : Int) → z2 = (c2.toNat : Int) → Hid (OwnB (W.alloc (.cells #[.int .u8 z1, .int .u8 z2] 5)) W.heap.size (some ⟨W.heap.size, 0, none⟩) 2 [c1, c2]) := fun z1 z2 h1 h2 => own_lit2 W W.heap.size z1 z2 c1 c2 h1 h2 (Nat.le_refl _)
  clear hc1 hc2 hmk hm4 hc3 hc4
  go_wp2_with (first
    | (go_at_call 16; refine (known_int (n : Int) W).mono ?_; rintro e w2 ⟨rfl, hw2⟩; rw [unhide HKK]; have hw2 := hw2.symm; subst hw2)
    | (at_builtin; refine wp_app2 _ rfl _ _ rfl W.heap.size (some ⟨W.heap.size, 0, none⟩) 2 [c1, c2] rfl ((unhide (HOW _ _ ?h1 ?h2)).alloc _) (some ⟨W.heap.size + 1, 0, none⟩) 2 [c3, c4] 2 rfl rfl ?h3 (fun h => by cases h) ?h5 ?h6 ?_))
  case h1 => first | omega | (simp only [IntKind.wrap_u8]; omega)
  case h2 => first | omega | (simp only [IntKind.wrap_u8]; omega)
  case h3 =>
    refine row_lit2b W _ _ _ c3 c4 ?k1 ?k2
    all_goals (first | omega | (simp only [IntKind.wrap_u8]; omega))
  case h5 => simp
  case h6 => simp; omega
  intro a3 k3 r3 w3 hr3 ho3 hg3 _
  have HR3 : Hid (r3 = [c1, c2] ++ [c3, c4]) := hr3
  have hb3 : Below W.heap.size W w3 := below_grown (a := some ⟨W.heap.size, 0, none⟩) (((Below.refl _ _).alloc (Nat.le_refl _) _).alloc (by simp) _) hg3 (Nat.le_refl _) (fun k hk => by simp [blk] at hk; omega)
  have HO3 := hide ho3
  have HB3 := hide hb3
  have hr3l : r3.length = 4 := by rw [unhide HR3]; rfl
  have HM3 := hide ((unhide HM).below hb3 (Nat.le_refl _))
  have hz3 := hb3.size
  clear hr3 ho3 hg3 hb3
  go_wp2_with (at_builtin; refine wp_app2 _ rfl _ _ rfl W.heap.size a3 k3 r3 rfl (unhide HO3) b cb m _ rfl rfl (unhide HM3).row (unhide HM3).nz (by rw [unhide HM4]; omega) hz3 ?_)
  intro a4 k4 r4 w4 hr4 ho4 hg4 _
  have HR4 : Hid (r4 = [c1, c2] ++ [c3, c4] ++ m) := by show _ = _; rw [hr4.out, unhide HR3]
  have HB4 : Hid (Below W.heap.size W w4) := below_grown (unhide HB3) hg4 (Nat.le_refl _) (fun k hk => ((unhide HO3).lt k hk).1)
  have hr4l : r4.length ≤ 8 := by rw [hr4.out, List.length_append, hr3l, unhide HM4]; omega
  have HO4 := hide ho4
  have r2' : w4.cell? ⟨w.heap.size, 2, none⟩ = some (.slice x l.length cx) := by rw [(unhide HB4).cell hsz]; exact r2
  clear hr4 ho4 hg4 HOW r0 r1 r2 q1 q2 q3 q4
  go_wp2
  clear r2'
  go_loopw [9, 79] (fun v i wr => ∃ k : Nat, k ≤ l.length ∧ i = .int .i64 (k : Int) ∧ ∃ a c r, v = .slice a r.length c ∧ Hid (r = r4 ++ (xm m l).take k) ∧ Hid (OwnB wr W.heap.size a c r) ∧ Hid (Below W.heap.size W wr)) (fun _ i _ => l.length - (intOf i).toNat)
  case atStart => exact ⟨0, Nat.zero_le _, rfl, a4, k4, r4, rfl, (by show _ = _; simp), HO4, HB4⟩
  case round =>
    clear HO4 HB4
    obtain ⟨k, hk, rfl, a, c, r, rfl, hr, ho, hb⟩ := hrel
    have hrl : r.length ≤ 100000 := by rw [unhide hr, List.length_append, List.length_take]; omega
    by_cases hlt : k < l.length
    · obtain ⟨bl, ol, rfl, hcl⟩ := ((unhide HL).below (unhide hb) (Nat.le_refl _)).row (by intro e; subst e; simp at hlt)
      have c0 := hcl k hlt
      have hlt' : (k : Int) < (l.length : Int) := by omega
      have HXK := hide (unhide HX k hlt)
      have hzr := (unhide hb).size
      rw [if_neg (by rw [unhide HM4]; omega)] at HXK
      generalize l.getD k 0 = v3 at *
      clear hcl
      go_wp2_with (at_builtin; refine wp_app2 _ rfl _ _ rfl W.heap.size a c r rfl ((unhide ho).alloc _) (some ⟨wr.heap.size, 0, none⟩) 1 [v3] 1 rfl rfl (row_lit wr _ v3 ?e1) (fun h => by cases h) (by simp; omega) ?e2 ?_)
      case e1 => first | rfl | exact hx
      case e2 => simp; omega
      intro a6 k6 r6 w6 hr6 ho6 hg6 _
      have HR6 : Hid (r6 = r4 ++ (xm m l).take (k + 1)) := by show _ = _; rw [hr6.out, unhide hr, unhide HXK]; simp
      have HB6 : Hid (Below W.heap.size W w6) := below_grown ((unhide hb).alloc (unhide hb).size _) hg6 (Nat.le_refl _) (fun j hj => ((unhide ho).lt j hj).1)
      have HO6 := hide ho6
      clear hr6 ho6 hg6 hr ho hb
      go_wp2
      go_roundw
      case rel => exact ⟨k + 1, by omega, by go_num, a6, k6, r6, rfl, HR6, HO6, HB6⟩
      case measure => simp [intOf]; omega
    · have hlt' : ¬ (k : Int) < (l.length : Int) := by omega
      have HRR : Hid (r = wrR (n : Int) true m l) := by
        show _ = _
        rw [unhide hr, unhide HW, unhide HR4, List.take_of_length_le (by rw [xm_length]; omega)]
      clear hlt
      go_wp2
      go_ret2
      exact ⟨a, c, r, by rw [unhide HE0]; rfl, HRR, (unhide ho).base (Nat.le_of_lt hsz), (unhide HB).trans ((unhide hb).mono (unhide HB).size)⟩
#print axioms rwr_tlod
set_option linter.unusedSimpArgs false in
set_option maxHeartbeats 8000000 in
theorem rwr_tlmd (n : Nat) (hn : n ≤ 10) (x : Option Addr) (cx : Nat) (l : List UInt8) (b : Option Addr) (cb : Nat) (m : List UInt8) (w : World) (hL : Bs w x cx l) (hM : Bs w b cb m) (hm4 : m.length = 4) (h125 : 125 < l.length) (hl16 : l.length ≤ 16384) (HE0 : Hid (wrE (n : Int) true m l = 0)) (HKK : Hid (knI (n : Int) = true)) (hct : decide ((8 : Int) ≤ (n : Int)) = false) :
    Calls Tryd.prog 7 #[.agg #[.bool true, .int .i64 (n : Int), .slice x l.length cx], .slice b m.length cb] w fun e w' => ∃ a' c' r, e = .returned (.tuple #[.slice a' r.length c', .int .i64 (wrE (n : Int) true m l)]) ∧ Hid (r = wrR (n : Int) true m l) ∧ Hid (OwnB w' w.heap.size a' c' r) ∧ Hid (Below w.heap.size w w') := by
  have hle := hL.le
  have hmost := hL.most
  have hmle := hM.le
  have hmmost := hM.most
  unfold maxLen at hmost hmmost
  obtain ⟨W, hW⟩ : ∃ W, W = w.alloc (.cells #[.bool true, .int .i64 (n : Int), .slice x l.length cx] 24) := ⟨_, rfl⟩
  have hB : Below w.heap.size w W := by rw [hW]; exact (Below.refl _ _).alloc (Nat.le_refl _) _
  have hF : W.heap[w.heap.size]? = some (.cells #[.bool true, .int .i64 (n : Int), .slice x l.length cx] 24 (0, 0)) := by rw [hW]; exact heap_alloc_new w _
  have hsz : w.heap.size < W.heap.size := (Array.getElem?_eq_some_iff.1 hF).1
  have r0 : W.cell? ⟨w.heap.size, 0, none⟩ = some (.bool true) := by rw [cell_of_row W w.heap.size 0 _ _ _ hF]; rfl
  have r1 : W.cell? ⟨w.heap.size, 1, none⟩ = some (.int .i64 (n : Int)) := by rw [cell_of_row W w.heap.size 1 _ _ _ hF]; rfl
  have r2 : W.cell? ⟨w.heap.size, 2, none⟩ = some (.slice x l.length cx) := by rw [cell_of_row W w.heap.size 2 _ _ _ hF]; rfl
  have HF := hide hF
  have HL := hide (hL.below hB (Nat.le_refl _))
  have HM := hide (hM.below hB (Nat.le_refl _))
  have HB := hide hB
  clear hB hL hM hF
  go_enter Tryd.func7, Tryd.ntmps7
  go_upto_region 1 with fail
  rw [← hW]
  clear hW
  obtain ⟨c1, hc1⟩ : ∃ c, c = hd1 n true := ⟨_, rfl⟩
  obtain ⟨c2, hc2⟩ : ∃ c, c = UInt8.ofNat (mk1 m + 126) := ⟨_, rfl⟩
  have q1 : c1.toNat = n + 128 := by rw [hc1, hd1_nat n true hn]; simp
  have hmk : mk1 m = 128 := by unfold mk1; rw [if_neg (by intro e; rw [e] at hm4; simp at hm4)]
  have q2 : c2.toNat = 126 + 128 := by rw [hc2, hmk, UInt8.toNat_ofNat'] <;> try omega
  obtain ⟨c3, hc3⟩ : ∃ c, c = UInt8.ofNat (l.length / 256) := ⟨_, rfl⟩
  obtain ⟨c4, hc4⟩ : ∃ c, c = UInt8.ofNat (l.length % 256) := ⟨_, rfl⟩
  have q3 : c3.toNat = l.length / 256 := by rw [hc3, UInt8.toNat_ofNat']; omega
  have q4 : c4.toNat = l.length % 256 := by rw [hc4, UInt8.toNat_ofNat']; omega
  have HW : Hid (wrR (n : Int) true m l = ([c1, c2] ++ [c3, c4] ++ m) ++ xm m l) := by
    show _ = _
    unfold wrR
    rw [if_pos (unhide HE0), Int.toNat_natCast]
    unfold wrB hd2
    rw [if_neg (by omega), hc1, hc2, hc3, hc4]
    try simp
  have HX := hide (fun k (h : k < l.length) => xm_get m l k h (.inr hm4))
  have mq0 : ((m.length : Int) != 0) = true := by rw [hm4]; rfl
  have mq4 : ((m.length : Int) == 4) = true := by rw [hm4]; rfl
  have mq4' : ((m.length : Int) != 4) = false := by rw [hm4]; rfl
  have d125 : decide ((125 : Int) < (l.length : Int)) = true := decide_eq_true (by omega)
  have HM4 := hide hm4
  have d16 : decide ((16384 : Int) < (l.length : Int)) = false := decide_eq_false (by omega)
  have HOW : ∀ z1 z2 : Int, z1 = (c1.toNat : Int) → z2 = (c2.toNat : Int) → Hid (OwnB (W.alloc (.cells #[.int .u8 z1, .int .u8 z2] 5)) W.heap.size (some ⟨W.heap.size, 0, none⟩) 2 [c1, c2]) := fun z1 z2 h1 h2 => own_lit2 W W.heap.size z1 z2 c1 c2 h1 h2 (Nat.le_refl _)
  clear hc1 hc2 hmk hm4 hc3 hc4
  go_wp2_with (first
    | (go_at_call 16; refine (known_int (n : Int) W).mono ?_; rintro e w2 ⟨rfl, hw2⟩; rw [unhide HKK]; have hw2 := hw2.symm; subst hw2)
    | (at_builtin; refine wp_app2 _ rfl _ _ rfl W.heap.size (some ⟨W.heap.size, 0, none⟩) 2 [c1, c2] rfl ((unhide (HOW _ _ ?h1 ?h2)).alloc _) (some ⟨W.heap.size + 1, 0, none⟩) 2 [c3, c4] 2 rfl rfl ?h3 (fun h => by cases h) ?h5 ?h6 ?_))
  case h1 => first | omega | (simp only [IntKind.wrap_u8]; omega)
  case h2 => first | omega | (simp only [IntKind.wrap_u8]; omega)
  case h3 =>
    refine row_lit2b W _ _ _ c3 c4 ?k1 ?k2
    all_goals (first | omega | (simp only [IntKind.wrap_u8]; omega))
  case h5 => simp
  case h6 => simp; omega
  intro a3 k3 r3 w3 hr3 ho3 hg3 _
  have HR3 : Hid (r3 = [c1, c2] ++ [c3, c4]) := hr3
  have hb3 : Below W.heap.size W w3 := below_grown (a := some ⟨W.heap.size, 0, none⟩) (((Below.refl _ _).alloc (Nat.le_refl _) _).alloc (by simp) _) hg3 (Nat.le_refl _) (fun k hk => by simp [blk] at hk; omega)
  have HO3 := hide ho3
  have HB3 := hide hb3
  have hr3l : r3.length = 4 := by rw [unhide HR3]; rfl
  have HM3 := hide ((unhide HM).below hb3 (Nat.le_refl _))
  have hz3 := hb3.size
  clear hr3 ho3 hg3 hb3
  go_wp2_with (at_builtin; refine wp_app2 _ rfl _ _ rfl W.heap.size a3 k3 r3 rfl (unhide HO3) b cb m _ rfl rfl (unhide HM3).row (unhide HM3).nz (by rw [unhide HM4]; omega) hz3 ?_)
  intro a4 k4 r4 w4 hr4 ho4 hg4 _
  have HR4 : Hid (r4 = [c1, c2] ++ [c3, c4] ++ m) := by show _ = _; rw [hr4.out, unhide HR3]
  have HB4 : Hid (Below W.heap.size W w4) := below_grown (unhide HB3) hg4 (Nat.le_refl _) (fun k hk => ((unhide HO3).lt k hk).1)
  have hr4l : r4.length ≤ 8 := by rw [hr4.out, List.length_append, hr3l, unhide HM4]; omega
  have HO4 := hide ho4
  have r2' : w4.cell? ⟨w.heap.size, 2, none⟩ = some (.slice x l.length cx) := by rw [(unhide HB4).cell hsz]; exact r2
  clear hr4 ho4 hg4 HOW r0 r1 r2 q1 q2 q3 q4
  go_wp2
  clear r2'
  go_loopw [9, 79] (fun v i wr => ∃ k : Nat, k ≤ l.length ∧ i = .int .i64 (k : Int) ∧ ∃ a c r, v = .slice a r.length c ∧ Hid (r = r4 ++ (xm m l).take k) ∧ Hid (OwnB wr W.heap.size a c r) ∧ Hid (Below W.heap.size W wr)) (fun _ i _ => l.length - (intOf i).toNat)
  case atStart => exact ⟨0, Nat.zero_le _, rfl, a4, k4, r4, rfl, (by show _ = _; simp), HO4, HB4⟩
  case round =>
    clear HO4 HB4
    obtain ⟨k, hk, rfl, a, c, r, rfl, hr, ho, hb⟩ := hrel
    have hrl : r.length ≤ 100000 := by rw [unhide hr, List.length_append, List.length_take]; omega
    by_cases hlt : k < l.length
    · obtain ⟨bl, ol, rfl, hcl⟩ := ((unhide HL).below (unhide hb) (Nat.le_refl _)).row (by intro e; subst e; simp at hlt)
      have c0 := hcl k hlt
      have hlt' : (k : Int) < (l.length : Int) := by omega
      have HXK := hide (unhide HX k hlt)
      have hzr := (unhide hb).size
      obtain ⟨bm, om, rfl, hcm⟩ := ((unhide HM).below (unhide hb) (Nat.le_refl _)).row (by intro e; subst e; have := unhide HM4; simp at this)
      obtain ⟨q, hq⟩ : ∃ q, q = k % 4 := ⟨_, rfl⟩
      have hq4 : q < 4 := by omega
      have hq1 : (k : Int).tmod 4 = (q : Int) := by rw [hq]; rfl
      have hq2 : (k : Int) % 4 = (q : Int) := by rw [hq]; simp
      have c1' := hcm q (by rw [unhide HM4]; omega)
      have hqm : (q : Int) < (m.length : Int) := by rw [unhide HM4]; omega
      rw [if_pos (unhide HM4), ← hq] at HXK
      have hx := u8xw (l.getD k 0) (m.getD q 0)
      generalize l.getD k 0 = v1 at *
      generalize m.getD q 0 = v2 at *
      generalize v1 ^^^ v2 = v3 at *
      clear hq hcm hcl
      go_wp2_with (at_builtin; refine wp_app2 _ rfl _ _ rfl W.heap.size a c r rfl ((unhide ho).alloc _) (some ⟨wr.heap.size, 0, none⟩) 1 [v3] 1 rfl rfl (row_lit wr _ v3 ?e1) (fun h => by cases h) (by simp; omega) ?e2 ?_)
      case e1 => first | rfl | exact hx
      case e2 => simp; omega
      intro a6 k6 r6 w6 hr6 ho6 hg6 _
      have HR6 : Hid (r6 = r4 ++ (xm m l).take (k + 1)) := by show _ = _; rw [hr6.out, unhide hr, unhide HXK]; simp
      have HB6 : Hid (Below W.heap.size W w6) := below_grown ((unhide hb).alloc (unhide hb).size _) hg6 (Nat.le_refl _) (fun j hj => ((unhide ho).lt j hj).1)
      have HO6 := hide ho6
      clear hr6 ho6 hg6 hr ho hb
      go_wp2
      go_roundw
      case rel => exact ⟨k + 1, by omega, by go_num, a6, k6, r6, rfl, HR6, HO6, HB6⟩
      case measure => simp [intOf]; omega
    · have hlt' : ¬ (k : Int) < (l.length : Int) := by omega
      have HRR : Hid (r = wrR (n : Int) true m l) := by
        show _ = _
        rw [unhide hr, unhide HW, unhide HR4, List.take_of_length_le (by rw [xm_length]; omega)]
      clear hlt
      go_wp2
      go_ret2
      exact ⟨a, c, r, by rw [unhide HE0]; rfl, HRR, (unhide ho).base (Nat.le_of_lt hsz), (unhide HB).trans ((unhide hb).mono (unhide HB).size)⟩
#print axioms rwr_tlmd
set_option linter.unusedSimpArgs false in
set_option maxHeartbeats 8000000 in
theorem rwr_tsod (n : Nat) (hn : n ≤ 10) (x : Option Addr) (cx : Nat) (l : List UInt8) (b : Option Addr) (cb : Nat) (m : List UInt8) (w : World) (hL : Bs w x cx l) (hM : Bs w b cb m) (hm4 : m.length = 0) (h125 : ¬ 125 < l.length) (hl16 : l.length ≤ 16384) (HE0 : Hid (wrE (n : Int) true m l = 0)) (HKK : Hid (knI (n : Int) = true)) (hct : decide ((8 : Int) ≤ (n : Int)) = false) :
    Calls Tryd.prog 7 #[.agg #[.bool true, .int .i64 (n : Int), .slice x l.length cx], .slice b m.length cb] w fun e w' => ∃ a' c' r, e = .returned (.tuple #[.slice a' r.length c', .int .i64 (wrE (n : Int) true m l)]) ∧ Hid (r = wrR (n : Int) true m l) ∧ Hid (OwnB w' w.heap.size a' c' r) ∧ Hid (Below w.heap.size w w') := by
  have hle := hL.le
  have hmost := hL.most
  have hmle := hM.le
  have hmmost := hM.most
  unfold maxLen at hmost hmmost
  obtain ⟨W, hW⟩ : ∃ W, W = w.alloc (.cells #[.bool true, .int .i64 (n : Int), .slice x l.length cx] 24) := ⟨_, rfl⟩
  have hB : Below w.heap.size w W := by rw [hW]; exact (Below.refl _ _).alloc (Nat.le_refl _) _
  have hF : W.heap[w.heap.size]? = some (.cells #[.bool true, .int .i64 (n : Int), .slice x l.length cx] 24 (0, 0)) := by rw [hW]; exact heap_alloc_new w _
  have hsz : w.heap.size < W.heap.size := (Array.getElem?_eq_some_iff.1 hF).1
  have r0 : W.cell? ⟨w.heap.size, 0, none⟩ = some (.bool true) := by rw [cell_of_row W w.heap.size 0 _ _ _ hF]; rfl
  have r1 : W.cell? ⟨w.heap.size, 1, none⟩ = some (.int .i64 (n : Int)) := by rw [cell_of_row W w.heap.size 1 _ _ _ hF]; rfl
  have r2 : W.cell? ⟨w.heap.size, 2, none⟩ = some (.slice x l.length cx) := by rw [cell_of_row W w.heap.size 2 _ _ _ hF]; rfl
  have HF := hide hF
  have HL := hide (hL.below hB (Nat.le_refl _))
  have HM := hide (hM.below hB (Nat.le_refl _))
  have HB := hide hB
  clear hB hL hM hF
  go_enter Tryd.func7, Tryd.ntmps7
  go_upto_region 1 with fail
  rw [← hW]
  clear hW
  obtain ⟨c1, hc1⟩ : ∃ c, c = hd1 n true := ⟨_, rfl⟩
  obtain ⟨c2, hc2⟩ : ∃ c, c = UInt8.ofNat (mk1 m + l.length) := ⟨_, rfl⟩
  have q1 : c1.toNat = n + 128 := by rw [hc1, hd1_nat n true hn]; simp
  have hmk : mk1 m = 0 := by unfold mk1; rw [if_pos (List.eq_nil_of_length_eq_zero hm4)]
  have q2 : c2.toNat = l.length := by rw [hc2, hmk, UInt8.toNat_ofNat'] <;> try omega
  have HW : Hid (wrR (n : Int) true m l = ([c1, c2] ++ m) ++ xm m l) := by
    show _ = _
    unfold wrR
    rw [if_pos (unhide HE0), Int.toNat_natCast]
    unfold wrB hd2
    rw [if_pos (by omega), hc1, hc2]
    try simp
  have HX := hide (fun k (h : k < l.length) => xm_get m l k h (.inl (List.eq_nil_of_length_eq_zero hm4)))
  have mq0 : ((m.length : Int) != 0) = false := by rw [hm4]; rfl
  have mq4 : ((m.length : Int) == 4) = false := by rw [hm4]; rfl
  have mq4' : ((m.length : Int) != 4) = true := by rw [hm4]; rfl
  have d125 : decide ((125 : Int) < (l.length : Int)) = false := decide_eq_false (by omega)
  have HM4 := hide hm4
  have d16 : decide ((16384 : Int) < (l.length : Int)) = false := decide_eq_false (by omega)
  have HOW : ∀ z1 z2 : Int, z1 = (c1.toNat : Int) → z2 = (c2.toNat : Int) → Hid (OwnB (W.alloc (.cells #[.int .u8 z1, .int .u8 z2] 5)) W.heap.size (some ⟨W.heap.size, 0, none⟩) 2 [c1, c2]) := fun z1 z2 h1 h2 => own_lit2 W W.heap.size z1 z2 c1 c2 h1 h2 (Nat.le_refl _)
  clear hc1 hc2 hmk hm4
  go_wp2_with (first
    | (go_at_call 16; refine (known_int (n : Int) W).mono ?_; rintro e w2 ⟨rfl, hw2⟩; rw [unhide HKK]; have hw2 := hw2.symm; subst hw2)
    | (at_builtin; refine wp_app2 _ rfl _ _ rfl W.heap.size (some ⟨W.heap.size, 0, none⟩) 2 [c1, c2] rfl (unhide (HOW _ _ ?h1 ?h2)) b cb m _ rfl rfl ?h3 (unhide HM).nz ?h5 ?h6 ?_))
  case h1 => first | omega | (simp only [IntKind.wrap_u8]; omega)
  case h2 => first | omega | (simp only [IntKind.wrap_u8]; omega)
  case h3 => exact (unhide HM).row.alloc _
  case h5 => rw [unhide HM4]; simp
  case h6 => simp
  intro a4 k4 r4 w4 hr4 ho4 hg4 _
  have HR4 : Hid (r4 = [c1, c2] ++ m) := hr4
  have HB4 : Hid (Below W.heap.size W w4) := below_grown (a := some ⟨W.heap.size, 0, none⟩) ((Below.refl _ _).alloc (Nat.le_refl _) _) hg4 (Nat.le_refl _) (fun k hk => by simp [blk] at hk; omega)
  have hr4l : r4.length ≤ 8 := by rw [hr4.out]; simp; have := unhide HM4; omega
  have HO4 := hide ho4
  have r2' : w4.cell? ⟨w.heap.size, 2, none⟩ = some (.slice x l.length cx) := by rw [(unhide HB4).cell hsz]; exact r2
  clear hr4 ho4 hg4 HOW r0 r1 r2 q1 q2
  go_wp2
  clear r2'
  go_loopw [9, 79] (fun v i wr => ∃ k : Nat, k ≤ l.length ∧ i = .int .i64 (k : Int) ∧ ∃ a c r, v = .slice a r.length c ∧ Hid (r = r4 ++ (xm m l).take k) ∧ Hid (OwnB wr W.heap.size a c r) ∧ Hid (Below W.heap.size W wr)) (fun _ i _ => l.length - (intOf i).toNat)
  case atStart => exact ⟨0, Nat.zero_le _, rfl, a4, k4, r4, rfl, (by show _ = _; simp), HO4, HB4⟩
  case round =>
    clear HO4 HB4
    obtain ⟨k, hk, rfl, a, c, r, rfl, hr, ho, hb⟩ := hrel
    have hrl : r.length ≤ 100000 := by rw [unhide hr, List.length_append, List.length_take]; omega
    by_cases hlt : k < l.length
    · obtain ⟨bl, ol, rfl, hcl⟩ := ((unhide HL).below (unhide hb) (Nat.le_refl _)).row (by intro e; subst e; simp at hlt)
      have c0 := hcl k hlt
      have hlt' : (k : Int) < (l.length : Int) := by omega
      have HXK := hide (unhide HX k hlt)
      have hzr := (unhide hb).size
      rw [if_neg (by rw [unhide HM4]; omega)] at HXK
      generalize l.getD k 0 = v3 at *
      clear hcl
      go_wp2_with (at_builtin; refine wp_app2 _ rfl _ _ rfl W.heap.size a c r rfl ((unhide ho).alloc _) (some ⟨wr.heap.size, 0, none⟩) 1 [v3] 1 rfl rfl (row_lit wr _ v3 ?e1) (fun h => by cases h) (by simp; omega) ?e2 ?_)
      case e1 => first | rfl | exact hx
      case e2 => simp; omega
      intro a6 k6 r6 w6 hr6 ho6 hg6 _
      have HR6 : Hid (r6 = r4 ++ (xm m l).take (k + 1)) := by show _ = _; rw [hr6.out, unhide hr, unhide HXK]; simp
      have HB6 : Hid (Below W.heap.size W w6) := below_grown ((unhide hb).alloc (unhide hb).size _) hg6 (Nat.le_refl _) (fun j hj => ((unhide ho).lt j hj).1)
      have HO6 := hide ho6
      clear hr6 ho6 hg6 hr ho hb
      go_wp2
      go_roundw
      case rel => exact ⟨k + 1, by omega, by go_num, a6, k6, r6, rfl, HR6, HO6, HB6⟩
      case measure => simp [intOf]; omega
    · have hlt' : ¬ (k : Int) < (l.length : Int) := by omega
      have HRR : Hid (r = wrR (n : Int) true m l) := by
        show _ = _
        rw [unhide hr, unhide HW, unhide HR4, List.take_of_length_le (by rw [xm_length]; omega)]
      clear hlt
      go_wp2
      go_ret2
      exact ⟨a, c, r, by rw [unhide HE0]; rfl, HRR, (unhide ho).base (Nat.le_of_lt hsz), (unhide HB).trans ((unhide hb).mono (unhide HB).size)⟩
#print axioms rwr_tsod
set_option linter.unusedSimpArgs false in
set_option maxHeartbeats 8000000 in
theorem rwr_tsoc (n : Nat) (hn : n ≤ 10) (x : Option Addr) (cx : Nat) (l : List UInt8) (b : Option Addr) (cb : Nat) (m : List UInt8) (w : World) (hL : Bs w x cx l) (hM : Bs w b cb m) (hm4 : m.length = 0) (h125 : ¬ 125 < l.length) (hl16 : l.length ≤ 16384) (HE0 : Hid (wrE (n : Int) true m l = 0)) (HKK : Hid (knI (n : Int) = true)) (hct : decide ((8 : Int) ≤ (n : Int)) = true) :
    Calls Tryd.prog 7 #[.agg #[.bool true, .int .i64 (n : Int), .slice x l.length cx], .slice b m.length cb] w fun e w' => ∃ a' c' r, e = .returned (.tuple #[.slice a' r.length c', .int .i64 (wrE (n : Int) true m l)]) ∧ Hid (r = wrR (n : Int) true m l) ∧ Hid (OwnB w' w.heap.size a' c' r) ∧ Hid (Below w.heap.size w w') := by
  have hle := hL.le
  have hmost := hL.most
  have hmle := hM.le
  have hmmost := hM.most
  unfold maxLen at hmost hmmost
  obtain ⟨W, hW⟩ : ∃ W, W = w.alloc (.cells #[.bool true, .int .i64 (n : Int), .slice x l.length cx] 24) := ⟨_, rfl⟩
  have hB : Below w.heap.size w W := by rw [hW]; exact (Below.refl _ _).alloc (Nat.le_refl _) _
  have hF : W.heap[w.heap.size]? = some (.cells #[.bool true, .int .i64 (n : Int), .slice x l.length cx] 24 (0, 0)) := by rw [hW]; exact heap_alloc_new w _
  have hsz : w.heap.size < W.heap.size := (Array.getElem?_eq_some_iff.1 hF).1
  have r0 : W.cell? ⟨w.heap.size, 0, none⟩ = some (.bool true) := by rw [cell_of_row W w.heap.size 0 _ _ _ hF]; rfl
  have r1 : W.cell? ⟨w.heap.size, 1, none⟩ = some (.int .i64 (n : Int)) := by rw [cell_of_row W w.heap.size 1 _ _ _ hF]; rfl
  have r2 : W.cell? ⟨w.heap.size, 2, none⟩ = some (.slice x l.length cx) := by rw [cell_of_row W w.heap.size 2 _ _ _ hF]; rfl
  have HF := hide hF
  have HL := hide (hL.below hB (Nat.le_refl _))
  have HM := hide (hM.below hB (Nat.le_refl _))
  have HB := hide hB
  clear hB hL hM hF
  go_enter Tryd.func7, Tryd.ntmps7
  go_upto_region 1 with fail
  rw [← hW]
  clear hW
  obtain ⟨c1, hc1⟩ : ∃ c, c = hd1 n true := ⟨_, rfl⟩
  obtain ⟨c2, hc2⟩ : ∃ c, c = UInt8.ofNat (mk1 m + l.length) := ⟨_, rfl⟩
  have q1 : c1.toNat = n + 128 := by rw [hc1, hd1_nat n true hn]; simp
  have hmk : mk1 m = 0 := by unfold mk1; rw [if_pos (List.eq_nil_of_length_eq_zero hm4)]
  have q2 : c2.toNat = l.length := by rw [hc2, hmk, UInt8.toNat_ofNat'] <;> try omega
  have HW : Hid (wrR (n : Int) true m l = ([c1, c2] ++ m) ++ xm m l) := by
    show _ = _
    unfold wrR
    rw [if_pos (unhide HE0), Int.toNat_natCast]
    unfold wrB hd2
    rw [if_pos (by omega), hc1, hc2]
    try simp
  have HX := hide (fun k (h : k < l.length) => xm_get m l k h (.inl (List.eq_nil_of_length_eq_zero hm4)))
  have mq0 : ((m.length : Int) != 0) = false := by rw [hm4]; rfl
  have mq4 : ((m.length : Int) == 4) = false := by rw [hm4]; rfl
  have mq4' : ((m.length : Int) != 4) = true := by rw [hm4]; rfl
  have d125 : decide ((125 : Int) < (l.length : Int)) = false := decide_eq_false (by omega)
  have HM4 := hide hm4
  have d16 : decide ((16384 : Int) < (l.length : Int)) = false := decide_eq_false (by omega)
  have HOW : ∀ z1 z2 : Int, z1 = (c1.toNat : Int) → z2 = (c2.toNat : Int) → Hid (OwnB (W.alloc (.cells #[.int .u8 z1, .int .u8 z2] 5)) W.heap.size (some ⟨W.heap.size, 0, none⟩) 2 [c1, c2]) := fun z1 z2 h1 h2 => own_lit2 W W.heap.size z1 z2 c1 c2 h1 h2 (Nat.le_refl _)
  clear hc1 hc2 hmk hm4
  go_wp2_with (first
    | (go_at_call 16; refine (known_int (n : Int) W).mono ?_; rintro e w2 ⟨rfl, hw2⟩; rw [unhide HKK]; have hw2 := hw2.symm; subst hw2)
    | (at_builtin; refine wp_app2 _ rfl _ _ rfl W.heap.size (some ⟨W.heap.size, 0, none⟩) 2 [c1, c2] rfl (unhide (HOW _ _ ?h1 ?h2)) b cb m _ rfl rfl ?h3 (unhide HM).nz ?h5 ?h6 ?_))
  case h1 => first | omega | (simp only [IntKind.wrap_u8]; omega)
  case h2 => first | omega | (simp only [IntKind.wrap_u8]; omega)
  case h3 => exact (unhide HM).row.alloc _
  case h5 => rw [unhide HM4]; simp
  case h6 => simp
  intro a4 k4 r4 w4 hr4 ho4 hg4 _
  have HR4 : Hid (r4 = [c1, c2] ++ m) := hr4
  have HB4 : Hid (Below W.heap.size W w4) := below_grown (a := some ⟨W.heap.size, 0, none⟩) ((Below.refl _ _).alloc (Nat.le_refl _) _) hg4 (Nat.le_refl _) (fun k hk => by simp [blk] at hk; omega)
  have hr4l : r4.length ≤ 8 := by rw [hr4.out]; simp; have := unhide HM4; omega
  have HO4 := hide ho4
  have r2' : w4.cell? ⟨w.heap.size, 2, none⟩ = some (.slice x l.length cx) := by rw [(unhide HB4).cell hsz]; exact r2
  clear hr4 ho4 hg4 HOW r0 r1 r2 q1 q2
  go_wp2
  clear r2'
  go_loopw [9, 79] (fun v i wr => ∃ k : Nat, k ≤ l.length ∧ i = .int .i64 (k : Int) ∧ ∃ a c r, v = .slice a r.length c ∧ Hid (r = r4 ++ (xm m l).take k) ∧ Hid (OwnB wr W.heap.size a c r) ∧ Hid (Below W.heap.size W wr)) (fun _ i _ => l.length - (intOf i).toNat)
  case atStart => exact ⟨0, Nat.zero_le _, rfl, a4, k4, r4, rfl, (by show _ = _; simp), HO4, HB4⟩
  case round =>
    clear HO4 HB4
    obtain ⟨k, hk, rfl, a, c, r, rfl, hr, ho, hb⟩ := hrel
    have hrl : r.length ≤ 100000 := by rw [unhide hr, List.length_append, List.length_take]; omega
    by_cases hlt : k < l.length
    · obtain ⟨bl, ol, rfl, hcl⟩ := ((unhide HL).below (unhide hb) (Nat.le_refl _)).row (by intro e; subst e; simp at hlt)
      have c0 := hcl k hlt
      have hlt' : (k : Int) < (l.length : Int) := by omega
      have HXK := hide (unhide HX k hlt)
      have hzr := (unhide hb).size
      rw [if_neg (by rw [unhide HM4]; omega)] at HXK
      generalize l.getD k 0 = v3 at *
      clear hcl
      go_wp2_with (at_builtin; refine wp_app2 _ rfl _ _ rfl W.heap.size a c r rfl ((unhide ho).alloc _) (some ⟨wr.heap.size, 0, none⟩) 1 [v3] 1 rfl rfl (row_lit wr _ v3 ?e1) (fun h => by cases h) (by simp; omega) ?e2 ?_)
      case e1 => first | rfl | exact hx
      case e2 => simp; omega
      intro a6 k6 r6 w6 hr6 ho6 hg6 _
      have HR6 : Hid (r6 = r4 ++ (xm m l).take (k + 1)) := by show _ = _; rw [hr6.out, unhide hr, unhide HXK]; simp
      have HB6 : Hid (Below W.heap.size W w6) := below_grown ((unhide hb).alloc (unhide hb).size _) hg6 (Nat.le_refl _) (fun j hj => ((unhide ho).lt j hj).1)
      have HO6 := hide ho6
      clear hr6 ho6 hg6 hr ho hb
      go_wp2
      go_roundw
      case rel => exact ⟨k + 1, by omega, by go_num, a6, k6, r6, rfl, HR6, HO6, HB6⟩
      case measure => simp [intOf]; omega
    · have hlt' : ¬ (k : Int) < (l.length : Int) := by omega
      have HRR : Hid (r = wrR (n : Int) true m l) := by
        show _ = _
        rw [unhide hr, unhide HW, unhide HR4, List.take_of_length_le (by rw [xm_length]; omega)]
      clear hlt
      go_wp2
      go_ret2
      exact ⟨a, c, r, by rw [unhide HE0]; rfl, HRR, (unhide ho).base (Nat.le_of_lt hsz), (unhide HB).trans ((unhide hb).mono (unhide HB).size)⟩
#print axioms rwr_tsoc
end Go.Proofs.YtpomejeopmfcmaaDoor
end
section
set_option linter.unusedVariables false
set_option maxRecDepth 1000000
namespace Go.Proofs.YtpomejeopmfcmaaDoor
open Go.RowKit

set_option linter.unusedSimpArgs false in
set_option maxHeartbeats 8000000 in
theorem rwr_tsmd (n : Nat) (hn : n ≤ 10) (x : Option Addr) (cx : Nat) (l : List UInt8) (b : Option Addr) (cb : Nat) (m : List UInt8) (w : World) (hL : Bs w x cx l) (hM : Bs w b cb m) (hm4 : m.length = 4) (h125 : ¬ 125 < l.length) (hl16 : l.length ≤ 16384) (HE0 : Hid (wrE (n : Int) true m l = 0)) (HKK : Hid (knI (n : Int) = true)) (hct : decide ((8 : Int) ≤ (n : Int)) = false) :
    Calls Tryd.prog 7 #[.agg #[.bool true, .int .i64 (n : Int), .slice x l.length cx], .slice b m.length cb] w fun e w' => ∃ a' c' r, e = .returned (.tuple #[.slice a' r.length c', .int .i64 (wrE (n : Int) true m l)]) ∧ Hid (r = wrR (n : Int) true m l) ∧ Hid (OwnB w' w.heap.size a' c' r) ∧ Hid (Below w.heap.size w w') := by
  have hle := hL.le
  have hmost := hL.most
  have hmle := hM.le
  have hmmost := hM.most
  unfold maxLen at hmost hmmost
  obtain ⟨W, hW⟩ : ∃ W, W = w.alloc (.cells #[.bool true, .int .i64 (n : Int), .slice x l.length cx] 24) := ⟨_, rfl⟩
  have hB : Below w.heap.size w W := by rw [hW]; exact (Below.refl _ _).alloc (Nat.le_refl _) _
  have hF : W.heap[w.heap.size]? = some (.cells #[.bool true, .int .i64 (n : Int), .slice x l.length cx] 24 (0, 0)) := by rw [hW]; exact heap_alloc_new w _
  have hsz : w.heap.size < W.heap.size := (Array.getElem?_eq_some_iff.1 hF).1
  have r0 : W.cell? ⟨w.heap.size, 0, none⟩ = some (.bool true) := by rw [cell_of_row W w.heap.size 0 _ _ _ hF]; rfl
  have r1 : W.cell? ⟨w.heap.size, 1, none⟩ = some (.int .i64 (n : Int)) := by rw [cell_of_row W w.heap.size 1 _ _ _ hF]; rfl
  have r2 : W.cell? ⟨w.heap.size, 2, none⟩ = some (.slice x l.length cx) := by rw [cell_of_row W w.heap.size 2 _ _ _ hF]; rfl
  have HF := hide hF
  have HL := hide (hL.below hB (Nat.le_refl _))
  have HM := hide (hM.below hB (Nat.le_refl _))
  have HB := hide hB
  clear hB hL hM hF
  go_enter Tryd.func7, Tryd.ntmps7
  go_upto_region 1 with fail
  rw [← hW]
  clear hW
  obtain ⟨c1, hc1⟩ : ∃ c, c = hd1 n true := ⟨_, rfl⟩
  obtain ⟨c2, hc2⟩ : ∃ c, c = UInt8.ofNat (mk1 m + l.length) := ⟨_, rfl⟩
  have q1 : c1.toNat = n + 128 := by rw [hc1, hd1_nat n true hn]; simp
  have hmk : mk1 m = 128 := by unfold mk1; rw [if_neg (by intro e; rw [e] at hm4; simp at hm4)]
  have q2 : c2.toNat = l.length + 128 := by rw [hc2, hmk, UInt8.toNat_ofNat'] <;> try omega
  have HW : Hid (wrR (n : Int) true m l = ([c1, c2] ++ m) ++ xm m l) := by
    show _ = _
    unfold wrR
    rw [if_pos (unhide HE0), Int.toNat_natCast]
    unfold wrB hd2
    rw [if_pos (by omega), hc1, hc2]
    try simp
  have HX := hide (fun k (h : k < l.length) => xm_get m l k h (.inr hm4))
  have mq0 : ((m.length : Int) != 0) = true := by rw [hm4]; rfl
  have mq4 : ((m.length : Int) == 4) = true := by rw [hm4]; rfl
  have mq4' : ((m.length : Int) != 4) = false := by rw [hm4]; rfl
  have d125 : decide ((125 : Int) < (l.length : Int)) = false := decide_eq_false (by omega)
  have HM4 := hide hm4
  have d16 : decide ((16384 : Int) < (l.length : Int)) = false := decide_eq_false (by omega)
  have HOW : ∀ z1 z2 : Int, z1 = (c1.toNat : Int) → z2 = (c2.toNat : Int) → Hid (OwnB (W.alloc (.cells #[.int .u8 z1, .int .u8 z2] 5)) W.heap.size (some ⟨W.heap.size, 0, none⟩) 2 [c1, c2]) := fun z1 z2 h1 h2 => own_lit2 W W.heap.size z1 z2 c1 c2 h1 h2 (Nat.le_refl _)
  clear hc1 hc2 hmk hm4
  go_wp2_with (first
    | (go_at_call 16; refine (known_int (n : Int) W).mono ?_; rintro e w2 ⟨rfl, hw2⟩; rw [unhide HKK]; have hw2 := hw2.symm; subst hw2)
    | (at_builtin; refine wp_app2 _ rfl _ _ rfl W.heap.size (some ⟨W.heap.size, 0, none⟩) 2 [c1, c2] rfl (unhide (HOW _ _ ?h1 ?h2)) b cb m _ rfl rfl ?h3 (unhide HM).nz ?h5 ?h6 ?_))
  case h1 => first | omega | (simp only [IntKind.wrap_u8]; omega)
  case h2 => first | omega | (simp only [IntKind.wrap_u8]; omega)
  case h3 => exact (unhide HM).row.alloc _
  case h5 => rw [unhide HM4]; simp
  case h6 => simp
  intro a4 k4 r4 w4 hr4 ho4 hg4 _
  have HR4 : Hid (r4 = [c1, c2] ++ m) := hr4
  have HB4 : Hid (Below W.heap.size W w4) := below_grown (a := some ⟨W.heap.size, 0, none⟩) ((Below.refl _ _).alloc (Nat.le_refl _) _) hg4 (Nat.le_refl _) (fun k hk => by simp [blk] at hk; omega)
  have hr4l : r4.length ≤ 8 := by rw [hr4.out]; simp; have := unhide HM4; omega
  have HO4 := hide ho4
  have r2' : w4.cell? ⟨w.heap.size, 2, none⟩ = some (.slice x l.length cx) := by rw [(unhide HB4).cell hsz]; exact r2
  clear hr4 ho4 hg4 HOW r0 r1 r2 q1 q2
  go_wp2
  clear r2'
  go_loopw [9, 79] (fun v i wr => ∃ k : Nat, k ≤ l.length ∧ i = .int .i64 (k : Int) ∧ ∃ a c r, v = .slice a r.length c ∧ Hid (r = r4 ++ (xm m l).take k) ∧ Hid (OwnB wr W.heap.size a c r) ∧ Hid (Below W.heap.size W wr)) (fun _ i _ => l.length - (intOf i).toNat)
  case atStart => exact ⟨0, Nat.zero_le _, rfl, a4, k4, r4, rfl, (by show _ = _; simp), HO4, HB4⟩
  case round =>
    clear HO4 HB4
    obtain ⟨k, hk, rfl, a, c, r, rfl, hr, ho, hb⟩ := hrel
    have hrl : r.length ≤ 100000 := by rw [unhide hr, List.length_append, List.length_take]; omega
    by_cases hlt : k < l.length
    · obtain ⟨bl, ol, rfl, hcl⟩ := ((unhide HL).below (unhide hb) (Nat.le_refl _)).row (by intro e; subst e; simp at hlt)
      have c0 := hcl k hlt
      have hlt' : (k : Int) < (l.length : Int) := by omega
      have HXK := hide (unhide HX k hlt)
      have hzr := (unhide hb).size
      obtain ⟨bm, om, rfl, hcm⟩ := ((unhide HM).below (unhide hb) (Nat.le_refl _)).row (by intro e; subst e; have := unhide HM4; simp at this)
      obtain ⟨q, hq⟩ : ∃ q, q = k % 4 := ⟨_, rfl⟩
      have hq4 : q < 4 := by omega
      have hq1 : (k : Int).tmod 4 = (q : Int) := by rw [hq]; rfl
      have hq2 : (k : Int) % 4 = (q : Int) := by rw [hq]; simp
      have c1' := hcm q (by rw [unhide HM4]; omega)
      have hqm : (q : Int) < (m.length : Int) := by rw [unhide HM4]; omega
      rw [if_pos (unhide HM4), ← hq] at HXK
      have hx := u8xw (l.getD k 0) (m.getD q 0)
      generalize l.getD k 0 = v1 at *
      generalize m.getD q 0 = v2 at *
      generalize v1 ^^^ v2 = v3 at *
      clear hq hcm hcl
      go_wp2_with (at_builtin; refine wp_app2 _ rfl _ _ rfl W.heap.size a c r rfl ((unhide ho).alloc _) (some ⟨wr.heap.size, 0, none⟩) 1 [v3] 1 rfl rfl (row_lit wr _ v3 ?e1) (fun h => by cases h) (by simp; omega) ?e2 ?_)
      case e1 => first | rfl | exact hx
      case e2 => simp; omega
      intro a6 k6 r6 w6 hr6 ho6 hg6 _
      have HR6 : Hid (r6 = r4 ++ (xm m l).take (k + 1)) := by show _ = _; rw [hr6.out, unhide hr, unhide HXK]; simp
      have HB6 : Hid (Below W.heap.size W w6) := below_grown ((unhide hb).alloc (unhide hb).size _) hg6 (Nat.le_refl _) (fun j hj => ((unhide ho).lt j hj).1)
      have HO6 := hide ho6
      clear hr6 ho6 hg6 hr ho hb
      go_wp2
      go_roundw
      case rel => exact ⟨k + 1, by omega, by go_num, a6, k6, r6, rfl, HR6, HO6, HB6⟩
      case measure => simp [intOf]; omega
    · have hlt' : ¬ (k : Int) < (l.length : Int) := by omega
      have HRR : Hid (r = wrR (n : Int) true m l) := by
        show _ = _
        rw [unhide hr, unhide HW, unhide HR4, List.take_of_length_le (by rw [xm_length]; omega)]
      clear hlt
      go_wp2
      go_ret2
      exact ⟨a, c, r, by rw [unhide HE0]; rfl, HRR, (unhide ho).base (Nat.le_of_lt hsz), (unhide HB).trans ((unhide hb).mono (unhide HB).size)⟩
#print axioms rwr_tsmd
set_option linter.unusedSimpArgs false in
set_option maxHeartbeats 8000000 in
theorem rwr_tsmc (n : Nat) (hn : n ≤ 10) (x : Option Addr) (cx : Nat) (l : List UInt8) (b : Option Addr) (cb : Nat) (m : List UInt8) (w : World) (hL : Bs w x cx l) (hM : Bs w b cb m) (hm4 : m.length = 4) (h125 : ¬ 125 < l.length) (hl16 : l.length ≤ 16384) (HE0 : Hid (wrE (n : Int) true m l = 0)) (HKK : Hid (knI (n : Int) = true)) (hct : decide ((8 : Int) ≤ (n : Int)) = true) :
    Calls Tryd.prog 7 #[.agg #[.bool true, .int .i64 (n : Int), .slice x l.length cx], .slice b m.length cb] w fun e w' => ∃ a' c' r, e = .returned (.tuple #[.slice a' r.length c', .int .i64 (wrE (n : Int) true m l)]) ∧ Hid (r = wrR (n : Int) true m l) ∧ Hid (OwnB w' w.heap.size a' c' r) ∧ Hid (Below w.heap.size w w') := by
  have hle := hL.le
  have hmost := hL.most
  have hmle := hM.le
  have hmmost := hM.most
  unfold maxLen at hmost hmmost
  obtain ⟨W, hW⟩ : ∃ W, W = w.alloc (.cells #[.bool true, .int .i64 (n : Int), .slice x l.length cx] 24) := ⟨_, rfl⟩
  have hB : Below w.heap.size w W := by rw [hW]; exact (Below.refl _ _).alloc (Nat.le_refl _) _
  have hF : W.heap[w.heap.size]? = some (.cells #[.bool true, .int .i64 (n : Int), .slice x l.length cx] 24 (0, 0)) := by rw [hW]; exact heap_alloc_new w _
  have hsz : w.heap.size < W.heap.size := (Array.getElem?_eq_some_iff.1 hF).1
  have r0 : W.cell? ⟨w.heap.size, 0, none⟩ = some (.bool true) := by rw [cell_of_row W w.heap.size 0 _ _ _ hF]; rfl
  have r1 : W.cell? ⟨w.heap.size, 1, none⟩ = some (.int .i64 (n : Int)) := by rw [cell_of_row W w.heap.size 1 _ _ _ hF]; rfl
  have r2 : W.cell? ⟨w.heap.size, 2, none⟩ = some (.slice x l.length cx) := by rw [cell_of_row W w.heap.size 2 _ _ _ hF]; rfl
  have HF := hide hF
  have HL := hide (hL.below hB (Nat.le_refl _))
  have HM := hide (hM.below hB (Nat.le_refl _))
  have HB := hide hB
  clear hB hL hM hF
  go_enter Tryd.func7, Tryd.ntmps7
  go_upto_region 1 with fail
  rw [← hW]
  clear hW
  obtain ⟨c1, hc1⟩ : ∃ c, c = hd1 n true := ⟨_, rfl⟩
  obtain ⟨c2, hc2⟩ : ∃ c, c = UInt8.ofNat (mk1 m + l.length) := ⟨_, rfl⟩
  have q1 : c1.toNat = n + 128 := by rw [hc1, hd1_nat n true hn]; simp
  have hmk : mk1 m = 128 := by unfold mk1; rw [if_neg (by intro e; rw [e] at hm4; simp at hm4)]
  have q2 : c2.toNat = l.length + 128 := by rw [hc2, hmk, UInt8.toNat_ofNat'] <;> try omega
  have HW : Hid (wrR (n : Int) true m l = ([c1, c2] ++ m) ++ xm m l) := by
    show _ = _
    unfold wrR
    rw [if_pos (unhide HE0), Int.toNat_natCast]
    unfold wrB hd2
    rw [if_pos (by omega), hc1, hc2]
    try simp
  have HX := hide (fun k (h : k < l.length) => xm_get m l k h (.inr hm4))
  have mq0 : ((m.length : Int) != 0) = true := by rw [hm4]; rfl
  have mq4 : ((m.length : Int) == 4) = true := by rw [hm4]; rfl
  have mq4' : ((m.length : Int) != 4) = false := by rw [hm4]; rfl
  have d125 : decide ((125 : Int) < (l.length : Int)) = false := decide_eq_false (by omega)
  have HM4 := hide hm4
  have d16 : decide ((16384 : Int) < (l.length : Int)) = false := decide_eq_false (by omega)
  have HOW : ∀ z1 z2 : Int, z1 = (c1.toNat : Int) → z2 = (c2.toNat : Int) → Hid (OwnB (W.alloc (.cells #[.int .u8 z1, .int .u8 z2] 5)) W.heap.size (some ⟨W.heap.size, 0, none⟩) 2 [c1, c2]) := fun z1 z2 h1 h2 => own_lit2 W W.heap.size z1 z2 c1 c2 h1 h2 (Nat.le_refl _)
  clear hc1 hc2 hmk hm4
  go_wp2_with (first
    | (go_at_call 16; refine (known_int (n : Int) W).mono ?_; rintro e w2 ⟨rfl, hw2⟩; rw [unhide HKK]; have hw2 := hw2.symm; subst hw2)
    | (at_builtin; refine wp_app2 _ rfl _ _ rfl W.heap.size (some ⟨W.heap.size, 0, none⟩) 2 [c1, c2] rfl (unhide (HOW _ _ ?h1 ?h2)) b cb m _ rfl rfl ?h3 (unhide HM).nz ?h5 ?h6 ?_))
  case h1 => first | omega | (simp only [IntKind.wrap_u8]; omega)
  case h2 => first | omega | (simp only [IntKind.wrap_u8]; omega)
  case h3 => exact (unhide HM).row.alloc _
  case h5 => rw [unhide HM4]; simp
  case h6 => simp
  intro a4 k4 r4 w4 hr4 ho4 hg4 _
  have HR4 : Hid (r4 = [c1, c2] ++ m) := hr4
  have HB4 : Hid (Below W.heap.size W w4) := below_grown (a := some ⟨W.heap.size, 0, none⟩) ((Below.refl _ _).alloc (Nat.le_refl _) _) hg4 (Nat.le_refl _) (fun k hk => by simp [blk] at hk; omega)
  have hr4l : r4.length ≤ 8 := by rw [hr4.out]; simp; have := unhide HM4; omega
  have HO4 := hide ho4
  have r2' : w4.cell? ⟨w.heap.size, 2, none⟩ = some (.slice x l.length cx) := by rw [(unhide HB4).cell hsz]; exact r2
  clear hr4 ho4 hg4 HOW r0 r1 r2 q1 q2
  go_wp2
  clear r2'
  go_loopw [9, 79] (fun v i wr => ∃ k : Nat, k ≤ l.length ∧ i = .int .i64 (k : Int) ∧ ∃ a c r, v = .slice a r.length c ∧ Hid (r = r4 ++ (xm m l).take k) ∧ Hid (OwnB wr W.heap.size a c r) ∧ Hid (Below W.heap.size W wr)) (fun _ i _ => l.length - (intOf i).toNat)
  case atStart => exact ⟨0, Nat.zero_le _, rfl, a4, k4, r4, rfl, (by show _ = _; simp), HO4, HB4⟩
  case round =>
    clear HO4 HB4
    obtain ⟨k, hk, rfl, a, c, r, rfl, hr, ho, hb⟩ := hrel
    have hrl : r.length ≤ 100000 := by rw [unhide hr, List.length_append, List.length_take]; omega
    by_cases hlt : k < l.length
    · obtain ⟨bl, ol, rfl, hcl⟩ := ((unhide HL).below (unhide hb) (Nat.le_refl _)).row (by intro e; subst e; simp at hlt)
      have c0 := hcl k hlt
      have hlt' : (k : Int) < (l.length : Int) := by omega
      have HXK := hide (unhide HX k hlt)
      have hzr := (unhide hb).size
      obtain ⟨bm, om, rfl, hcm⟩ := ((unhide HM).below (unhide hb) (Nat.le_refl _)).row (by intro e; subst e; have := unhide HM4; simp at this)
      obtain ⟨q, hq⟩ : ∃ q, q = k % 4 := ⟨_, rfl⟩
      have hq4 : q < 4 := by omega
      have hq1 : (k : Int).tmod 4 = (q : Int) := by rw [hq]; rfl
      have hq2 : (k : Int) % 4 = (q : Int) := by rw [hq]; simp
      have c1' := hcm q (by rw [unhide HM4]; omega)
      have hqm : (q : Int) < (m.length : Int) := by rw [unhide HM4]; omega
      rw [if_pos (unhide HM4), ← hq] at HXK
      have hx := u8xw (l.getD k 0) (m.getD q 0)
      generalize l.getD k 0 = v1 at *
      generalize m.getD q 0 = v2 at *
      generalize v1 ^^^ v2 = v3 at *
      clear hq hcm hcl
      go_wp2_with (at_builtin; refine wp_app2 _ rfl _ _ rfl W.heap.size a c r rfl ((unhide ho).alloc _) (some ⟨wr.heap.size, 0, none⟩) 1 [v3] 1 rfl rfl (row_lit wr _ v3 ?e1) (fun h => by cases h) (by simp; omega) ?e2 ?_)
      case e1 => first | rfl | exact hx
      case e2 => simp; omega
      intro a6 k6 r6 w6 hr6 ho6 hg6 _
      have HR6 : Hid (r6 = r4 ++ (xm m l).take (k + 1)) := by show _ = _; rw [hr6.out, unhide hr, unhide HXK]; simp
      have HB6 : Hid (Below W.heap.size W w6) := below_grown ((unhide hb).alloc (unhide hb).size _) hg6 (Nat.le_refl _) (fun j hj => ((unhide ho).lt j hj).1)
      have HO6 := hide ho6
      clear hr6 ho6 hg6 hr ho hb
      go_wp2
      go_roundw
      case rel => exact ⟨k + 1, by omega, by go_num, a6, k6, r6, rfl, HR6, HO6, HB6⟩
      case measure => simp [intOf]; omega
    · have hlt' : ¬ (k : Int) < (l.length : Int) := by omega
      have HRR : Hid (r = wrR (n : Int) true m l) := by
        show _ = _
        rw [unhide hr, unhide HW, unhide HR4, List.take_of_length_le (by rw [xm_length]; omega)]
      clear hlt
      go_wp2
      go_ret2
      exact ⟨a, c, r, by rw [unhide HE0]; rfl, HRR, (unhide ho).base (Nat.le_of_lt hsz), (unhide HB).trans ((unhide hb).mono (unhide HB).size)⟩
#print axioms rwr_tsmc
set_option linter.unusedSimpArgs false in
set_option maxHeartbeats 8000000 in
theorem rwr_flod (n : Nat) (hn : n ≤ 10) (x : Option Addr) (cx : Nat) (l : List UInt8) (b : Option Addr) (cb : Nat) (m : List UInt8) (w : World) (hL : Bs w x cx l) (hM : Bs w b cb m) (hm4 : m.length = 0) (h125 : 125 < l.length) (hl16 : l.length ≤ 16384) (HE0 : Hid (wrE (n : Int) false m l = 0)) (HKK : Hid (knI (n : Int) = true)) (hct : decide ((8 : Int) ≤ (n : Int)) = false) :
    Calls Tryd.prog 7 #[.agg #[.bool false, .int .i64 (n : Int), .slice x l.length cx], .slice b m.length cb] w fun e w' => ∃ a' c' r, e = .returned (.tuple #[.slice a' r.length c', .int .i64 (wrE (n : Int) false m l)]) ∧ Hid (r = wrR (n : Int) false m l) ∧ Hid (OwnB w' w.heap.size a' c' r) ∧ Hid (Below w.heap.size w w') := by
  have hle := hL.le
  have hmost := hL.most
  have hmle := hM.le
  have hmmost := hM.most
  unfold maxLen at hmost hmmost
  obtain ⟨W, hW⟩ : ∃ W, W = w.alloc (.cells #[.bool false, .int .i64 (n : Int), .slice x l.length cx] 24) := ⟨_, rfl⟩
  have hB : Below w.heap.size w W := by rw [hW]; exact (Below.refl _ _).alloc (Nat.le_refl _) _
  have hF : W.heap[w.heap.size]? = some (.cells #[.bool false, .int .i64 (n : Int), .slice x l.length cx] 24 (0, 0)) := by rw [hW]; exact heap_alloc_new w _
  have hsz : w.heap.size < W.heap.size := (Array.getElem?_eq_some_iff.1 hF).1
  have r0 : W.cell? ⟨w.heap.size, 0, none⟩ = some (.bool false) := by rw [cell_of_row W w.heap.size 0 _ _ _ hF]; rfl
  have r1 : W.cell? ⟨w.heap.size, 1, none⟩ = some (.int .i64 (n : Int)) := by rw [cell_of_row W w.heap.size 1 _ _ _ hF]; rfl
  have r2 : W.cell? ⟨w.heap.size, 2, none⟩ = some (.slice x l.length cx) := by rw [cell_of_row W w.heap.size 2 _ _ _ hF]; rfl
  have HF := hide hF
  have HL := hide (hL.below hB (Nat.le_refl _))
  have HM := hide (hM.below hB (Nat.le_refl _))
  have HB := hide hB
  clear hB hL hM hF
  go_enter Tryd.func7, Tryd.ntmps7
  go_upto_region 1 with fail
  rw [← hW]
  clear hW
  obtain ⟨c1, hc1⟩ : ∃ c, c = hd1 n false := ⟨_, rfl⟩
  obtain ⟨c2, hc2⟩ : ∃ c, c = UInt8.ofNat (mk1 m + 126) := ⟨_, rfl⟩
  have q1 : c1.toNat = n + 0 := by rw [hc1, hd1_nat n false hn]; simp
  have hmk : mk1 m = 0 := by unfold mk1; rw [if_pos (List.eq_nil_of_length_eq_zero hm4)]
  have q2 : c2.toNat = 126 := by rw [hc2, hmk, UInt8.toNat_ofNat'] <;> try omega
  obtain ⟨c3, hc3⟩ : ∃ c, c = UInt8.ofNat (l.length / 256) := ⟨_, rfl⟩
  obtain ⟨c4, hc4⟩ : ∃ c, c = UInt8.ofNat (l.length % 256) := ⟨_, rfl⟩
  have q3 : c3.toNat = l.length / 256 := by rw [hc3, UInt8.toNat_ofNat']; omega
  have q4 : c4.toNat = l.length % 256 := by rw [hc4, UInt8.toNat_ofNat']; omega
  have HW : Hid (wrR (n : Int) false m l = ([c1, c2] ++ [c3, c4] ++ m) ++ xm m l) := by
    show _ = _
    unfold wrR
    rw [if_pos (unhide HE0), Int.toNat_natCast]
    unfold wrB hd2
    rw [if_neg (by omega), hc1, hc2, hc3, hc4]
    try simp
  have HX := hide (fun k (h : k < l.length) => xm_get m l k h (.inl (List.eq_nil_of_length_eq_zero hm4)))
  have mq0 : ((m.length : Int) != 0) = false := by rw [hm4]; rfl
  have mq4 : ((m.length : Int) == 4) = false := by rw [hm4]; rfl
  have mq4' : ((m.length : Int) != 4) = true := by rw [hm4]; rfl
  have d125 : decide ((125 : Int) < (l.length : Int)) = true := decide_eq_true (by omega)
  have HM4 := hide hm4
  have d16 : decide ((16384 : Int) < (l.length : Int)) = false := decide_eq_false (by omega)
  have HOW : ∀ z1 z2 : Int, z1 = (c1.toNat : Int) → z2 = (c2.toNat : Int) → Hid (OwnB (W.alloc (.cells #[.int .u8 z1, .int .u8 z2] 5)) W.heap.size (some ⟨W.heap.size, 0, none⟩) 2 [c1, c2]) := fun z1 z2 h1 h2 => own_lit2 W W.heap.size z1 z2 c1 c2 h1 h2 (Nat.le_refl _)
  clear hc1 hc2 hmk hm4 hc3 hc4
  go_wp2_with (first
    | (go_at_call 16; refine (known_int (n : Int) W).mono ?_; rintro e w2 ⟨rfl, hw2⟩; rw [unhide HKK]; have hw2 := hw2.symm; subst hw2)
    | (at_builtin; refine wp_app2 _ rfl _ _ rfl W.heap.size (some ⟨W.heap.size, 0, none⟩) 2 [c1, c2] rfl ((unhide (HOW _ _ ?h1 ?h2)).alloc _) (some ⟨W.heap.size + 1, 0, none⟩) 2 [c3, c4] 2 rfl rfl ?h3 (fun h => by cases h) ?h5 ?h6 ?_))
  case h1 => first | omega | (simp only [IntKind.wrap_u8]; omega)
  case h2 => first | omega | (simp only [IntKind.wrap_u8]; omega)
  case h3 =>
    refine row_lit2b W _ _ _ c3 c4 ?k1 ?k2
    all_goals (first | omega | (simp only [IntKind.wrap_u8]; omega))
  case h5 => simp
  case h6 => simp; omega
  intro a3 k3 r3 w3 hr3 ho3 hg3 _
  have HR3 : Hid (r3 = [c1, c2] ++ [c3, c4]) := hr3
  have hb3 : Below W.heap.size W w3 := below_grown (a := some ⟨W.heap.size, 0, none⟩) (((Below.refl _ _).alloc (Nat.le_refl _) _).alloc (by simp) _) hg3 (Nat.le_refl _) (fun k hk => by simp [blk] at hk; omega)
  have HO3 := hide ho3
  have HB3 := hide hb3
  have hr3l : r3.length = 4 := by rw [unhide HR3]; rfl
  have HM3 := hide ((unhide HM).below hb3 (Nat.le_refl _))
  have hz3 := hb3.size
  clear hr3 ho3 hg3 hb3
  go_wp2_with (at_builtin; refine wp_app2 _ rfl _ _ rfl W.heap.size a3 k3 r3 rfl (unhide HO3) b cb m _ rfl rfl (unhide HM3).row (unhide HM3).nz (by rw [unhide HM4]; omega) hz3 ?_)
  intro a4 k4 r4 w4 hr4 ho4 hg4 _
  have HR4 : Hid (r4 = [c1, c2] ++ [c3, c4] ++ m) := by show _ = _; rw [hr4.out, unhide HR3]
  have HB4 : Hid (Below W.heap.size W w4) := below_grown (unhide HB3) hg4 (Nat.le_refl _) (fun k hk => ((unhide HO3).lt k hk).1)
  have hr4l : r4.length ≤ 8 := by rw [hr4.out, List.length_append, hr3l, unhide HM4]; omega
  have HO4 := hide ho4
  have r2' : w4.cell? ⟨w.heap.size, 2, none⟩ = some (.slice x l.length cx) := by rw [(unhide HB4).cell hsz]; exact r2
  clear hr4 ho4 hg4 HOW r0 r1 r2 q1 q2 q3 q4
  go_wp2
  clear r2'
  go_loopw [9, 79] (fun v i wr => ∃ k : Nat, k ≤ l.length ∧ i = .int .i64 (k : Int) ∧ ∃ a c r, v = .slice a r.length c ∧ Hid (r = r4 ++ (xm m l).take k) ∧ Hid (OwnB wr W.heap.size a c r) ∧ Hid (Below W.heap.size W wr)) (fun _ i _ => l.length - (intOf i).toNat)
  case atStart => exact ⟨0, Nat.zero_le _, rfl, a4, k4, r4, rfl, (by show _ = _; simp), HO4, HB4⟩
  case round =>
    clear HO4 HB4
    obtain ⟨k, hk, rfl, a, c, r, rfl, hr, ho, hb⟩ := hrel
    have hrl : r.length ≤ 100000 := by rw [unhide hr, List.length_append, List.length_take]; omega
    by_cases hlt : k < l.length
    · obtain ⟨bl, ol, rfl, hcl⟩ := ((unhide HL).below (unhide hb) (Nat.le_refl _)).row (by intro e; subst e; simp at hlt)
      have c0 := hcl k hlt
      have hlt' : (k : Int) < (l.length : Int) := by omega
      have HXK := hide (unhide HX k hlt)
      have hzr := (unhide hb).size
      rw [if_neg (by rw [unhide HM4]; omega)] at HXK
      generalize l.getD k 0 = v3 at *
      clear hcl
      go_wp2_with (at_builtin; refine wp_app2 _ rfl _ _ rfl W.heap.size a c r rfl ((unhide ho).alloc _) (some ⟨wr.heap.size, 0, none⟩) 1 [v3] 1 rfl rfl (row_lit wr _ v3 ?e1) (fun h => by cases h) (by simp; omega) ?e2 ?_)
      case e1 => first | rfl | exact hx
      case e2 => simp; omega
      intro a6 k6 r6 w6 hr6 ho6 hg6 _
      have HR6 : Hid (r6 = r4 ++ (xm m l).take (k + 1)) := by show _ = _; rw [hr6.out, unhide hr, unhide HXK]; simp
      have HB6 : Hid (Below W.heap.size W w6) := below_grown ((unhide hb).alloc (unhide hb).size _) hg6 (Nat.le_refl _) (fun j hj => ((unhide ho).lt j hj).1)
      have HO6 := hide ho6
      clear hr6 ho6 hg6 hr ho hb
      go_wp2
      go_roundw
      case rel => exact ⟨k + 1, by omega, by go_num, a6, k6, r6, rfl, HR6, HO6, HB6⟩
      case measure => simp [intOf]; omega
    · have hlt' : ¬ (k : Int) < (l.length : Int) := by omega
      have HRR : Hid (r = wrR (n : Int) false m l) := by
        show _ = _
        rw [unhide hr, unhide HW, unhide HR4, List.take_of_length_le (by rw [xm_length]; omega)]
      clear hlt
      go_wp2
      go_ret2
      exact ⟨a, c, r, by rw [unhide HE0]; rfl, HRR, (unhide ho).base (Nat.le_of_lt hsz), (unhide HB).trans ((unhide hb).mono (unhide HB).size)⟩
#print axioms rwr_flod
end Go.Proofs.YtpomejeopmfcmaaDoor
end
