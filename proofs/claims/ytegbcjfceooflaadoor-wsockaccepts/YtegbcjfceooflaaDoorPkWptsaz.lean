/-
  wsock: THE WALK of Write, long frames.; wsock: Write, whatever the frame and the mask.
-/
import Derived.Test.YtegbcjfceooflaaDoorPkWptsay
import Derived.Deep.RegionHeld3
import Derived.Deep.DeepCutAuto
section
set_option linter.unusedVariables false
set_option maxRecDepth 1000000
namespace Go.Proofs.YtegbcjfceooflaaDoor
open Go.RowKit

theorem row_lit3 (w : World) (z1 z2 z3 : Int) (a b c : UInt8) (h1 : z1 = (a.toNat : Int)) (h2 : z2 = (b.toNat : Int)) (h3 : z3 = (c.toNat : Int)) : Row (w.alloc (.cells #[.int .u8 z1, .int .u8 z2, .int .u8 z3] 5)) (some ⟨w.heap.size, 0, none⟩) [a, b, c] := by
  intro _
  refine ⟨w.heap.size, 0, rfl, fun i hi => ?_⟩
  subst h1 h2 h3
  rw [cell_of_row _ w.heap.size _ #[.int .u8 (a.toNat : Int), .int .u8 (b.toNat : Int), .int .u8 (c.toNat : Int)] 5 (0, 0) (heap_alloc_new w _)]
  have hi' : i < 3 := hi
  match i, hi' with
  | 0, _ => rfl
  | 1, _ => rfl
  | 2, _ => rfl
theorem hi8 (s : Nat) (h : s ≤ 16384) : (s : Int) / 256 = ((UInt8.ofNat (s / 256)).toNat : Int) := by
  have : (UInt8.ofNat (s / 256)).toNat = s / 256 := by simp; omega
  rw [this]; omega
theorem lo8 (s : Nat) : (s : Int) % 256 = ((UInt8.ofNat (s % 256)).toNat : Int) := by
  have : (UInt8.ofNat (s % 256)).toNat = s % 256 := by simp
  rw [this]; omega

set_option linter.unusedSimpArgs false in
set_option maxHeartbeats 4000000 in
theorem write_tml (n : Nat) (hn : n ≤ 10) (x : Option Addr) (cx : Nat) (l : List UInt8) (b : Option Addr) (cb : Nat) (m : List UInt8) (w : World) (hL : Bs w x cx l) (hM : Bs w b cb m) (hm : m.length = 4) (hmay : mayB (n : Int) true (l.length : Int) = true) (hl : l.length ≤ 16384) (h125 : 125 < l.length) :
    Calls Tryd.prog 13 #[.agg #[.bool true, .int .i64 (n : Int), .slice x l.length cx], .slice b m.length cb] w fun e w' => ∃ a' c' r, e = .returned (.tuple #[.slice a' r.length c', .int .i64 0]) ∧ Hid (r = wrB n true m l) ∧ Hid (OwnB w' w.heap.size a' c' r) ∧ Hid (Below w.heap.size w w') := by
  have HL := hide hL
  have HM := hide hM
  have HMY := hide hmay
  clear hmay
  have hg2 : IntKind.u8.wrap (n : Int) = (n : Int) := by rw [IntKind.wrap_u8]; omega
  have d1 : decide ((16384 : Int) < (l.length : Int)) = false := decide_eq_false (by omega)
  have d2 : ¬ (l.length : Int) ≤ 125 := by omega
  have hmz : ((m.length : Int) != 0) = true := by rw [hm]; rfl
  have hm4 : ((m.length : Int) != 4) = false := by rw [hm]; rfl
  have hmp : (0 : Int) < (m.length : Int) := by omega
  obtain ⟨c1, hc1⟩ : ∃ c, c = hd1 n true := ⟨_, rfl⟩
  obtain ⟨c2, hc2⟩ : ∃ c, c = UInt8.ofNat (mk1 m + 126) := ⟨_, rfl⟩
  obtain ⟨c3, hc3⟩ : ∃ c, c = UInt8.ofNat (l.length / 256) := ⟨_, rfl⟩
  obtain ⟨c4, hc4⟩ : ∃ c, c = UInt8.ofNat (l.length % 256) := ⟨_, rfl⟩
  have HW : Hid (([c1] ++ [c2, c3, c4] ++ m) ++ xm m l = wrB n true m l) := by
    show _ = _
    rw [hc1, hc2, hc3, hc4]
    unfold wrB hd2
    rw [if_neg (by omega)]
    simp
  have hf : bits .or .u8 (n : Int) 128 = (c1.toNat : Int) := by rw [hc1]; exact or_fin ⟨n, by omega⟩
  have HK : Hid (bits .or .u8 128 126 = (c2.toNat : Int)) := by show _ = _; rw [hc2, mk1, if_neg (by intro e; rw [e] at hm; simp at hm)]; decide +kernel
  have H3 : Hid ((l.length : Int) / 256 = (c3.toNat : Int)) := by show _ = _; rw [hc3]; exact hi8 _ hl
  have H4 : Hid ((l.length : Int) % 256 = (c4.toNat : Int)) := by show _ = _; rw [hc4]; exact lo8 _
  have HML := hide hm
  have HMM : Hid (m = [] ∨ m.length = 4) := .inr hm
  have hml : m.length ≤ 4 := by omega
  clear hc1 hc2 hc3 hc4 hm
  go_enter Tryd.func13, Tryd.ntmps13
  go_wp2_with fail
  refine (mayBe_any (n : Int) true (l.length : Int) _).mono ?_
  rintro e w2 ⟨rfl, hw2⟩
  rw [unhide HMY]
  have WS := hide (WJ.start (fin := true) (op := (n : Int)) w hL hM)
  rw [← hw2] at WS
  have HW2 : Hid (w2.heap.size = w.heap.size + 1) := by show _ = _; rw [hw2]; simp
  have hwle : w.heap.size + 1 ≤ w2.heap.size := by rw [unhide HW2]; exact Nat.le_refl _
  have hz2 : w.heap.size < w2.heap.size := by omega
  clear hw2 hL hM
  have f0 : w2.cell? ⟨w.heap.size, 0, none⟩ = some (.bool true) := by rw [cell_of_row w2 w.heap.size 0 _ _ _ (unhide WS).fr]; rfl
  have f1 : w2.cell? ⟨w.heap.size, 1, none⟩ = some (.int .i64 (n : Int)) := by rw [cell_of_row w2 w.heap.size 1 _ _ _ (unhide WS).fr]; rfl
  have f2 : w2.cell? ⟨w.heap.size, 2, none⟩ = some (.slice x l.length cx) := by rw [cell_of_row w2 w.heap.size 2 _ _ _ (unhide WS).fr]; rfl
  have HRL : Hid (Row ((w2.alloc (.cells #[.int .u8 (c1.toNat : Int)] 5)).alloc (.cells #[.int .u8 (bits .or .u8 128 126), .int .u8 ((l.length : Int) / 256), .int .u8 ((l.length : Int) % 256)] 5)) (some ⟨w2.heap.size + 1, 0, none⟩) [c2, c3, c4]) := by
    have := row_lit3 (w2.alloc (.cells #[.int .u8 (c1.toNat : Int)] 5)) _ _ _ c2 c3 c4 (unhide HK) (unhide H3) (unhide H4)
    rw [show (w2.alloc (.cells #[.int .u8 (c1.toNat : Int)] 5)).heap.size = w2.heap.size + 1 by simp] at this
    exact this
  go_wp2_with (at_builtin; refine wp_app2 _ rfl _ _ rfl (w.heap.size + 1) (some ⟨w2.heap.size, 0, none⟩) 1 [c1] rfl ((own_lit1 w2 _ c1 hwle).alloc _) (some ⟨w2.heap.size + 1, 0, none⟩) 3 [c2, c3, c4] 3 rfl rfl (unhide HRL) (fun h => by cases h) (by simp) (Nat.le_trans hwle (by simp; omega)) ?_)
  intro a3 k3 r3 w3 hr3 ho3 hg3 hl3
  have HJ3 : Hid (WJ w true (n : Int) x cx l b cb m w3) := by
    have j1 := ((unhide WS).below (W' := w2.alloc (.cells #[.int .u8 (c1.toNat : Int)] 5)) ((Below.refl _ _).alloc (Nat.le_refl _) _)).below (W' := (w2.alloc (.cells #[.int .u8 (c1.toNat : Int)] 5)).alloc (.cells #[.int .u8 (bits .or .u8 128 126), .int .u8 ((l.length : Int) / 256), .int .u8 ((l.length : Int) % 256)] 5)) ((Below.refl _ _).alloc (Nat.le_refl _) _)
    exact j1.app ((own_lit1 w2 _ c1 hwle).alloc _) (unhide HL) (unhide HM) hg3
  have HO3 := hide ho3
  have HR3 : Hid (r3 = [c1] ++ [c2, c3, c4]) := hr3
  have hr3l : r3.length ≤ 4 := by rw [unhide HR3]; simp
  have HJ := hide ((unhide HJ3).below (W' := w3.drew) (Below.refl _ _).drew)
  have HO := hide ((unhide HO3).below (w' := w3.drew) (Below.refl _ _).drew (Nat.le_refl _))
  have s3 : w3.drew.cell? ⟨w.heap.size, 2, none⟩ = some (.slice x l.length cx) := by rw [cell_of_row w3.drew w.heap.size 2 _ _ _ (unhide HJ).fr]; rfl
  clear ho3 hr3 hg3 hl3 f0 f1 f2 HRL WS hwle hz2 HJ3 HO3
  go_wp2_with fail
  refine wp_region_held_drew (S := fun w' => w'.cell? ⟨w.heap.size, 2, none⟩ = some (.slice x l.length cx)) (by kernel_rfl) s3 (fun hHeld => ?_)
  refine wpAnyH_take (i := 0) (oi := ?_) (v := ?_) ?_ (by kernel_rfl) ?_ ?_ ?_ ?_ hHeld ?_
  rotate_left 2
  · (simp only [List.getElem?_toArray, List.getElem?_cons_succ, List.getElem?_cons_zero]) <;> with_reducible rfl
  · kernel_rfl
  · kernel_rfl
  · exact fun _ _ _ h => h
  · exact Or.inl ⟨by rfl, by (intro w hSw; (try dsimp only at hSw); go_simp <;> with_reducible rfl)⟩
  try simp only [Act.put, List.setIfInBounds_toArray, List.set_cons_zero, List.set_cons_succ]
  refine wpAnyH_take (i := 1) (oi := ?_) (v := ?_) ?_ (by kernel_rfl) ?_ ?_ ?_ ?_ hHeld ?_
  rotate_left 2
  · (simp only [List.getElem?_toArray, List.getElem?_cons_succ, List.getElem?_cons_zero]) <;> with_reducible rfl
  · kernel_rfl
  · kernel_rfl
  · exact fun _ _ _ h => h
  · exact Or.inl ⟨by rfl, by (intro w hSw; (try dsimp only at hSw); go_simp <;> with_reducible rfl)⟩
  try simp only [Act.put, List.setIfInBounds_toArray, List.set_cons_zero, List.set_cons_succ]
  refine wpAnyH_take (i := 3) (oi := ?_) (v := ?_) ?_ (by kernel_rfl) ?_ ?_ ?_ ?_ hHeld ?_
  rotate_left 2
  · (simp only [List.getElem?_toArray, List.getElem?_cons_succ, List.getElem?_cons_zero]) <;> with_reducible rfl
  · kernel_rfl
  · kernel_rfl
  · exact fun _ _ _ h => h
  · exact Or.inl ⟨by rfl, by (intro w hSw; (try dsimp only at hSw); go_simp <;> with_reducible rfl)⟩
  try simp only [Act.put, List.setIfInBounds_toArray, List.set_cons_zero, List.set_cons_succ]
  refine wpAnyH_take (i := 4) (oi := ?_) (v := ?_) ?_ (by kernel_rfl) ?_ ?_ ?_ ?_ hHeld ?_
  rotate_left 2
  · (simp only [List.getElem?_toArray, List.getElem?_cons_succ, List.getElem?_cons_zero]) <;> with_reducible rfl
  · kernel_rfl
  · kernel_rfl
  · exact fun _ _ _ h => h
  · exact Or.inl ⟨by rfl, by (intro w hSw; (try dsimp only at hSw); go_simp <;> with_reducible rfl)⟩
  try simp only [Act.put, List.setIfInBounds_toArray, List.set_cons_zero, List.set_cons_succ]
  refine wpAnyH_take (i := 5) (oi := ?_) (v := ?_) ?_ (by kernel_rfl) ?_ ?_ ?_ ?_ hHeld ?_
  rotate_left 2
  · (simp only [List.getElem?_toArray, List.getElem?_cons_succ, List.getElem?_cons_zero]) <;> with_reducible rfl
  · kernel_rfl
  · kernel_rfl
  · exact fun _ _ _ h => h
  · exact Or.inl ⟨by rfl, by (intro w hSw; (try dsimp only at hSw); go_simp <;> with_reducible rfl)⟩
  try simp only [Act.put, List.setIfInBounds_toArray, List.set_cons_zero, List.set_cons_succ]
  refine wpAnyH_ready (rs := [2]) (by kernel_rfl) (by simp) (AllReadyH.cons (o := ?_) ?_ (fun K hK => ?_) AllReadyH.nil)
  rotate_left 1
  · (simp only [List.getElem?_toArray, List.getElem?_cons_succ, List.getElem?_cons_zero]) <;> with_reducible rfl
  refine stp_app2 _ rfl _ _ rfl (w.heap.size + 1) a3 k3 r3 _ rfl rfl (unhide HO) b cb m _ rfl rfl (unhide HJ).mask.row (unhide HJ).mask.nz (by omega) (unhide HJ).lt ?_
  intro a4 k4 r4 w4 hr4 ho4 hg4 hl4
  have HJ4 := hide ((unhide HJ).app (unhide HO) (unhide HL) (unhide HM) (unhide hg4))
  have s4 : w4.cell? ⟨w.heap.size, 2, none⟩ = some (.slice x l.length cx) := by rw [cell_of_row w4 w.heap.size 2 _ _ _ (unhide HJ4).fr]; rfl
  clear hHeld HJ HO
  refine hK.out _ _ s4 (fun hHeld => ?_)
  clear hK K
  try simp only [Act.put, List.setIfInBounds_toArray, List.set_cons_zero, List.set_cons_succ]
  refine wpAnyH_ready (rs := [6]) (by kernel_rfl) (by simp) (AllReadyH.cons (o := ?_) ?_ (fun K hK => ?_) AllReadyH.nil)
  rotate_left 1
  · (simp only [List.getElem?_toArray, List.getElem?_cons_succ, List.getElem?_cons_zero]) <;> with_reducible rfl
  go_simp
  refine (wmask_any x cx l b cb m _ (unhide HJ4).load (unhide HJ4).mask (by omega) (unhide HMM)).mono ?_
  rintro e w5 ⟨a5, c5, r5, rfl, hr5, ho5, hb5⟩
  have HJ5 := hide ((unhide HJ4).below (unhide hb5))
  have HO4 := hide ((unhide ho4).below (unhide hb5) (Nat.le_refl _))
  have s5 : w5.cell? ⟨w.heap.size, 2, none⟩ = some (.slice x l.length cx) := by rw [cell_of_row w5 w.heap.size 2 _ _ _ (unhide HJ5).fr]; rfl
  clear hHeld s4
  refine hK.out _ _ s5 (fun hHeld => ?_)
  clear hK K
  try simp only [Act.put, List.setIfInBounds_toArray, List.set_cons_zero, List.set_cons_succ]
  refine wpAnyH_ready (rs := [7]) (by kernel_rfl) (by simp) (AllReadyH.cons (o := ?_) ?_ (fun K hK => ?_) AllReadyH.nil)
  rotate_left 1
  · (simp only [List.getElem?_toArray, List.getElem?_cons_succ, List.getElem?_cons_zero]) <;> with_reducible rfl
  have hr4l : r4.length ≤ 8 := by rw [unhide hr4, List.length_append]; omega
  have hr5l : r5.length ≤ 16384 := by rw [unhide hr5, xm_length]; exact hl
  refine stp_app2 _ rfl _ _ rfl (w.heap.size + 1) a4 k4 r4 _ rfl rfl (unhide HO4) a5 c5 r5 _ rfl rfl (unhide ho5).toBs.row (unhide ho5).toBs.nz (by omega) (unhide HJ5).lt ?_
  intro a6 k6 r6 w6 hr6 ho6 hg6 hl6
  have HJ6 := hide ((unhide HJ5).app (unhide HO4) (unhide HL) (unhide HM) (unhide hg6))
  have s6 : w6.cell? ⟨w.heap.size, 2, none⟩ = some (.slice x l.length cx) := by rw [cell_of_row w6 w.heap.size 2 _ _ _ (unhide HJ6).fr]; rfl
  clear hHeld s5
  refine hK.out _ _ s6 (fun hHeld => ?_)
  clear hK K
  try simp only [Act.put, List.setIfInBounds_toArray, List.set_cons_zero, List.set_cons_succ]
  refine wpAnyH_take (i := 8) (oi := ?_) (v := ?_) ?_ (by kernel_rfl) ?_ ?_ ?_ ?_ hHeld ?_
  rotate_left 2
  · (simp only [List.getElem?_toArray, List.getElem?_cons_succ, List.getElem?_cons_zero]) <;> with_reducible rfl
  · kernel_rfl
  · kernel_rfl
  · exact fun _ _ _ h => h
  · exact Or.inl ⟨by rfl, by (intro w hSw; (try dsimp only at hSw); go_simp <;> with_reducible rfl)⟩
  try simp only [Act.put, List.setIfInBounds_toArray, List.set_cons_zero, List.set_cons_succ]
  refine wpAnyH_take (i := 9) (oi := ?_) (v := ?_) ?_ (by kernel_rfl) ?_ ?_ ?_ ?_ hHeld ?_
  rotate_left 2
  · (simp only [List.getElem?_toArray, List.getElem?_cons_succ, List.getElem?_cons_zero]) <;> with_reducible rfl
  · kernel_rfl
  · kernel_rfl
  · exact fun _ _ _ h => h
  · exact Or.inl ⟨by rfl, by (intro w hSw; (try dsimp only at hSw); go_simp <;> with_reducible rfl)⟩
  try simp only [Act.put, List.setIfInBounds_toArray, List.set_cons_zero, List.set_cons_succ]
  refine wpAnyH_done (by kernel_rfl) ?_ _
  clear hHeld s6
  go_wp2
  go_ret2
  exact ⟨a6, k6, r6, rfl, by show _ = _; rw [unhide hr6, unhide hr4, unhide hr5, unhide HR3]; exact unhide HW, (unhide ho6).base (Nat.le_succ _), (unhide HJ6).bel⟩

set_option linter.unusedSimpArgs false in
set_option maxHeartbeats 4000000 in
theorem write_fml (n : Nat) (hn : n ≤ 10) (x : Option Addr) (cx : Nat) (l : List UInt8) (b : Option Addr) (cb : Nat) (m : List UInt8) (w : World) (hL : Bs w x cx l) (hM : Bs w b cb m) (hm : m.length = 4) (hmay : mayB (n : Int) false (l.length : Int) = true) (hl : l.length ≤ 16384) (h125 : 125 < l.length) :
    Calls Tryd.prog 13 #[.agg #[.bool false, .int .i64 (n : Int), .slice x l.length cx], .slice b m.length cb] w fun e w' => ∃ a' c' r, e = .returned (.tuple #[.slice a' r.length c', .int .i64 0]) ∧ Hid (r = wrB n false m l) ∧ Hid (OwnB w' w.heap.size a' c' r) ∧ Hid (Below w.heap.size w w') := by
  have HL := hide hL
  have HM := hide hM
  have HMY := hide hmay
  clear hmay
  have hg2 : IntKind.u8.wrap (n : Int) = (n : Int) := by rw [IntKind.wrap_u8]; omega
  have d1 : decide ((16384 : Int) < (l.length : Int)) = false := decide_eq_false (by omega)
  have d2 : ¬ (l.length : Int) ≤ 125 := by omega
  have hmz : ((m.length : Int) != 0) = true := by rw [hm]; rfl
  have hm4 : ((m.length : Int) != 4) = false := by rw [hm]; rfl
  have hmp : (0 : Int) < (m.length : Int) := by omega
  obtain ⟨c1, hc1⟩ : ∃ c, c = hd1 n false := ⟨_, rfl⟩
  obtain ⟨c2, hc2⟩ : ∃ c, c = UInt8.ofNat (mk1 m + 126) := ⟨_, rfl⟩
  obtain ⟨c3, hc3⟩ : ∃ c, c = UInt8.ofNat (l.length / 256) := ⟨_, rfl⟩
  obtain ⟨c4, hc4⟩ : ∃ c, c = UInt8.ofNat (l.length % 256) := ⟨_, rfl⟩
  have HW : Hid (([c1] ++ [c2, c3, c4] ++ m) ++ xm m l = wrB n false m l) := by
    show _ = _
    rw [hc1, hc2, hc3, hc4]
    unfold wrB hd2
    rw [if_neg (by omega)]
    simp
  have HF : Hid ((n : Int) = (c1.toNat : Int)) := by show _ = _; rw [hc1]; exact or_nof ⟨n, by omega⟩
  have HK : Hid (bits .or .u8 128 126 = (c2.toNat : Int)) := by show _ = _; rw [hc2, mk1, if_neg (by intro e; rw [e] at hm; simp at hm)]; decide +kernel
  have H3 : Hid ((l.length : Int) / 256 = (c3.toNat : Int)) := by show _ = _; rw [hc3]; exact hi8 _ hl
  have H4 : Hid ((l.length : Int) % 256 = (c4.toNat : Int)) := by show _ = _; rw [hc4]; exact lo8 _
  have HML := hide hm
  have HMM : Hid (m = [] ∨ m.length = 4) := .inr hm
  have hml : m.length ≤ 4 := by omega
  clear hc1 hc2 hc3 hc4 hm
  go_enter Tryd.func13, Tryd.ntmps13
  go_wp2_with fail
  refine (mayBe_any (n : Int) false (l.length : Int) _).mono ?_
  rintro e w2 ⟨rfl, hw2⟩
  rw [unhide HMY]
  have WS := hide (WJ.start (fin := false) (op := (n : Int)) w hL hM)
  rw [← hw2] at WS
  have HW2 : Hid (w2.heap.size = w.heap.size + 1) := by show _ = _; rw [hw2]; simp
  have hwle : w.heap.size + 1 ≤ w2.heap.size := by rw [unhide HW2]; exact Nat.le_refl _
  have hz2 : w.heap.size < w2.heap.size := by omega
  clear hw2 hL hM
  have f0 : w2.cell? ⟨w.heap.size, 0, none⟩ = some (.bool false) := by rw [cell_of_row w2 w.heap.size 0 _ _ _ (unhide WS).fr]; rfl
  have f1 : w2.cell? ⟨w.heap.size, 1, none⟩ = some (.int .i64 (n : Int)) := by rw [cell_of_row w2 w.heap.size 1 _ _ _ (unhide WS).fr]; rfl
  have f2 : w2.cell? ⟨w.heap.size, 2, none⟩ = some (.slice x l.length cx) := by rw [cell_of_row w2 w.heap.size 2 _ _ _ (unhide WS).fr]; rfl
  have HRL : Hid (Row ((w2.alloc (.cells #[.int .u8 (n : Int)] 5)).alloc (.cells #[.int .u8 (bits .or .u8 128 126), .int .u8 ((l.length : Int) / 256), .int .u8 ((l.length : Int) % 256)] 5)) (some ⟨w2.heap.size + 1, 0, none⟩) [c2, c3, c4]) := by
    have := row_lit3 (w2.alloc (.cells #[.int .u8 (n : Int)] 5)) _ _ _ c2 c3 c4 (unhide HK) (unhide H3) (unhide H4)
    rw [show (w2.alloc (.cells #[.int .u8 (n : Int)] 5)).heap.size = w2.heap.size + 1 by simp] at this
    exact this
  go_wp2_with (at_builtin; refine wp_app2 _ rfl _ _ rfl (w.heap.size + 1) (some ⟨w2.heap.size, 0, none⟩) 1 [c1] rfl ((own_litz w2 _ (n : Int) c1 (unhide HF) hwle).alloc _) (some ⟨w2.heap.size + 1, 0, none⟩) 3 [c2, c3, c4] 3 rfl rfl (unhide HRL) (fun h => by cases h) (by simp) (Nat.le_trans hwle (by simp; omega)) ?_)
  intro a3 k3 r3 w3 hr3 ho3 hg3 hl3
  have HJ3 : Hid (WJ w false (n : Int) x cx l b cb m w3) := by
    have j1 := ((unhide WS).below (W' := w2.alloc (.cells #[.int .u8 (n : Int)] 5)) ((Below.refl _ _).alloc (Nat.le_refl _) _)).below (W' := (w2.alloc (.cells #[.int .u8 (n : Int)] 5)).alloc (.cells #[.int .u8 (bits .or .u8 128 126), .int .u8 ((l.length : Int) / 256), .int .u8 ((l.length : Int) % 256)] 5)) ((Below.refl _ _).alloc (Nat.le_refl _) _)
    exact j1.app ((own_litz w2 _ (n : Int) c1 (unhide HF) hwle).alloc _) (unhide HL) (unhide HM) hg3
  have HO3 := hide ho3
  have HR3 : Hid (r3 = [c1] ++ [c2, c3, c4]) := hr3
  have hr3l : r3.length ≤ 4 := by rw [unhide HR3]; simp
  have HJ := hide ((unhide HJ3).below (W' := w3.drew) (Below.refl _ _).drew)
  have HO := hide ((unhide HO3).below (w' := w3.drew) (Below.refl _ _).drew (Nat.le_refl _))
  have s3 : w3.drew.cell? ⟨w.heap.size, 2, none⟩ = some (.slice x l.length cx) := by rw [cell_of_row w3.drew w.heap.size 2 _ _ _ (unhide HJ).fr]; rfl
  clear ho3 hr3 hg3 hl3 f0 f1 f2 HRL WS hwle hz2 HJ3 HO3
  go_wp2_with fail
  refine wp_region_held_drew (S := fun w' => w'.cell? ⟨w.heap.size, 2, none⟩ = some (.slice x l.length cx)) (by kernel_rfl) s3 (fun hHeld => ?_)
  refine wpAnyH_take (i := 0) (oi := ?_) (v := ?_) ?_ (by kernel_rfl) ?_ ?_ ?_ ?_ hHeld ?_
  rotate_left 2
  · (simp only [List.getElem?_toArray, List.getElem?_cons_succ, List.getElem?_cons_zero]) <;> with_reducible rfl
  · kernel_rfl
  · kernel_rfl
  · exact fun _ _ _ h => h
  · exact Or.inl ⟨by rfl, by (intro w hSw; (try dsimp only at hSw); go_simp <;> with_reducible rfl)⟩
  try simp only [Act.put, List.setIfInBounds_toArray, List.set_cons_zero, List.set_cons_succ]
  refine wpAnyH_take (i := 1) (oi := ?_) (v := ?_) ?_ (by kernel_rfl) ?_ ?_ ?_ ?_ hHeld ?_
  rotate_left 2
  · (simp only [List.getElem?_toArray, List.getElem?_cons_succ, List.getElem?_cons_zero]) <;> with_reducible rfl
  · kernel_rfl
  · kernel_rfl
  · exact fun _ _ _ h => h
  · exact Or.inl ⟨by rfl, by (intro w hSw; (try dsimp only at hSw); go_simp <;> with_reducible rfl)⟩
  try simp only [Act.put, List.setIfInBounds_toArray, List.set_cons_zero, List.set_cons_succ]
  refine wpAnyH_take (i := 3) (oi := ?_) (v := ?_) ?_ (by kernel_rfl) ?_ ?_ ?_ ?_ hHeld ?_
  rotate_left 2
  · (simp only [List.getElem?_toArray, List.getElem?_cons_succ, List.getElem?_cons_zero]) <;> with_reducible rfl
  · kernel_rfl
  · kernel_rfl
  · exact fun _ _ _ h => h
  · exact Or.inl ⟨by rfl, by (intro w hSw; (try dsimp only at hSw); go_simp <;> with_reducible rfl)⟩
  try simp only [Act.put, List.setIfInBounds_toArray, List.set_cons_zero, List.set_cons_succ]
  refine wpAnyH_take (i := 4) (oi := ?_) (v := ?_) ?_ (by kernel_rfl) ?_ ?_ ?_ ?_ hHeld ?_
  rotate_left 2
  · (simp only [List.getElem?_toArray, List.getElem?_cons_succ, List.getElem?_cons_zero]) <;> with_reducible rfl
  · kernel_rfl
  · kernel_rfl
  · exact fun _ _ _ h => h
  · exact Or.inl ⟨by rfl, by (intro w hSw; (try dsimp only at hSw); go_simp <;> with_reducible rfl)⟩
  try simp only [Act.put, List.setIfInBounds_toArray, List.set_cons_zero, List.set_cons_succ]
  refine wpAnyH_take (i := 5) (oi := ?_) (v := ?_) ?_ (by kernel_rfl) ?_ ?_ ?_ ?_ hHeld ?_
  rotate_left 2
  · (simp only [List.getElem?_toArray, List.getElem?_cons_succ, List.getElem?_cons_zero]) <;> with_reducible rfl
  · kernel_rfl
  · kernel_rfl
  · exact fun _ _ _ h => h
  · exact Or.inl ⟨by rfl, by (intro w hSw; (try dsimp only at hSw); go_simp <;> with_reducible rfl)⟩
  try simp only [Act.put, List.setIfInBounds_toArray, List.set_cons_zero, List.set_cons_succ]
  refine wpAnyH_ready (rs := [2]) (by kernel_rfl) (by simp) (AllReadyH.cons (o := ?_) ?_ (fun K hK => ?_) AllReadyH.nil)
  rotate_left 1
  · (simp only [List.getElem?_toArray, List.getElem?_cons_succ, List.getElem?_cons_zero]) <;> with_reducible rfl
  refine stp_app2 _ rfl _ _ rfl (w.heap.size + 1) a3 k3 r3 _ rfl rfl (unhide HO) b cb m _ rfl rfl (unhide HJ).mask.row (unhide HJ).mask.nz (by omega) (unhide HJ).lt ?_
  intro a4 k4 r4 w4 hr4 ho4 hg4 hl4
  have HJ4 := hide ((unhide HJ).app (unhide HO) (unhide HL) (unhide HM) (unhide hg4))
  have s4 : w4.cell? ⟨w.heap.size, 2, none⟩ = some (.slice x l.length cx) := by rw [cell_of_row w4 w.heap.size 2 _ _ _ (unhide HJ4).fr]; rfl
  clear hHeld HJ HO
  refine hK.out _ _ s4 (fun hHeld => ?_)
  clear hK K
  try simp only [Act.put, List.setIfInBounds_toArray, List.set_cons_zero, List.set_cons_succ]
  refine wpAnyH_ready (rs := [6]) (by kernel_rfl) (by simp) (AllReadyH.cons (o := ?_) ?_ (fun K hK => ?_) AllReadyH.nil)
  rotate_left 1
  · (simp only [List.getElem?_toArray, List.getElem?_cons_succ, List.getElem?_cons_zero]) <;> with_reducible rfl
  go_simp
  refine (wmask_any x cx l b cb m _ (unhide HJ4).load (unhide HJ4).mask (by omega) (unhide HMM)).mono ?_
  rintro e w5 ⟨a5, c5, r5, rfl, hr5, ho5, hb5⟩
  have HJ5 := hide ((unhide HJ4).below (unhide hb5))
  have HO4 := hide ((unhide ho4).below (unhide hb5) (Nat.le_refl _))
  have s5 : w5.cell? ⟨w.heap.size, 2, none⟩ = some (.slice x l.length cx) := by rw [cell_of_row w5 w.heap.size 2 _ _ _ (unhide HJ5).fr]; rfl
  clear hHeld s4
  refine hK.out _ _ s5 (fun hHeld => ?_)
  clear hK K
  try simp only [Act.put, List.setIfInBounds_toArray, List.set_cons_zero, List.set_cons_succ]
  refine wpAnyH_ready (rs := [7]) (by kernel_rfl) (by simp) (AllReadyH.cons (o := ?_) ?_ (fun K hK => ?_) AllReadyH.nil)
  rotate_left 1
  · (simp only [List.getElem?_toArray, List.getElem?_cons_succ, List.getElem?_cons_zero]) <;> with_reducible rfl
  have hr4l : r4.length ≤ 8 := by rw [unhide hr4, List.length_append]; omega
  have hr5l : r5.length ≤ 16384 := by rw [unhide hr5, xm_length]; exact hl
  refine stp_app2 _ rfl _ _ rfl (w.heap.size + 1) a4 k4 r4 _ rfl rfl (unhide HO4) a5 c5 r5 _ rfl rfl (unhide ho5).toBs.row (unhide ho5).toBs.nz (by omega) (unhide HJ5).lt ?_
  intro a6 k6 r6 w6 hr6 ho6 hg6 hl6
  have HJ6 := hide ((unhide HJ5).app (unhide HO4) (unhide HL) (unhide HM) (unhide hg6))
  have s6 : w6.cell? ⟨w.heap.size, 2, none⟩ = some (.slice x l.length cx) := by rw [cell_of_row w6 w.heap.size 2 _ _ _ (unhide HJ6).fr]; rfl
  clear hHeld s5
  refine hK.out _ _ s6 (fun hHeld => ?_)
  clear hK K
  try simp only [Act.put, List.setIfInBounds_toArray, List.set_cons_zero, List.set_cons_succ]
  refine wpAnyH_take (i := 8) (oi := ?_) (v := ?_) ?_ (by kernel_rfl) ?_ ?_ ?_ ?_ hHeld ?_
  rotate_left 2
  · (simp only [List.getElem?_toArray, List.getElem?_cons_succ, List.getElem?_cons_zero]) <;> with_reducible rfl
  · kernel_rfl
  · kernel_rfl
  · exact fun _ _ _ h => h
  · exact Or.inl ⟨by rfl, by (intro w hSw; (try dsimp only at hSw); go_simp <;> with_reducible rfl)⟩
  try simp only [Act.put, List.setIfInBounds_toArray, List.set_cons_zero, List.set_cons_succ]
  refine wpAnyH_take (i := 9) (oi := ?_) (v := ?_) ?_ (by kernel_rfl) ?_ ?_ ?_ ?_ hHeld ?_
  rotate_left 2
  · (simp only [List.getElem?_toArray, List.getElem?_cons_succ, List.getElem?_cons_zero]) <;> with_reducible rfl
  · kernel_rfl
  · kernel_rfl
  · exact fun _ _ _ h => h
  · exact Or.inl ⟨by rfl, by (intro w hSw; (try dsimp only at hSw); go_simp <;> with_reducible rfl)⟩
  try simp only [Act.put, List.setIfInBounds_toArray, List.set_cons_zero, List.set_cons_succ]
  refine wpAnyH_done (by kernel_rfl) ?_ _
  clear hHeld s6
  go_wp2
  go_ret2
  exact ⟨a6, k6, r6, rfl, by show _ = _; rw [unhide hr6, unhide hr4, unhide hr5, unhide HR3]; exact unhide HW, (unhide ho6).base (Nat.le_succ _), (unhide HJ6).bel⟩

set_option linter.unusedSimpArgs false in
set_option maxHeartbeats 4000000 in
theorem write_tnl (n : Nat) (hn : n ≤ 10) (x : Option Addr) (cx : Nat) (l : List UInt8) (b : Option Addr) (cb : Nat) (m : List UInt8) (w : World) (hL : Bs w x cx l) (hM : Bs w b cb m) (hm : m = []) (hmay : mayB (n : Int) true (l.length : Int) = true) (hl : l.length ≤ 16384) (h125 : 125 < l.length) :
    Calls Tryd.prog 13 #[.agg #[.bool true, .int .i64 (n : Int), .slice x l.length cx], .slice b m.length cb] w fun e w' => ∃ a' c' r, e = .returned (.tuple #[.slice a' r.length c', .int .i64 0]) ∧ Hid (r = wrB n true m l) ∧ Hid (OwnB w' w.heap.size a' c' r) ∧ Hid (Below w.heap.size w w') := by
  have HL := hide hL
  have HM := hide hM
  have HMY := hide hmay
  clear hmay
  have hg2 : IntKind.u8.wrap (n : Int) = (n : Int) := by rw [IntKind.wrap_u8]; omega
  have d1 : decide ((16384 : Int) < (l.length : Int)) = false := decide_eq_false (by omega)
  have d2 : ¬ (l.length : Int) ≤ 125 := by omega
  have hmz : ((m.length : Int) != 0) = false := by rw [hm]; rfl
  have hmp : ¬ (0 : Int) < (m.length : Int) := by rw [hm]; simp
  obtain ⟨c1, hc1⟩ : ∃ c, c = hd1 n true := ⟨_, rfl⟩
  obtain ⟨c2, hc2⟩ : ∃ c, c = UInt8.ofNat (mk1 m + 126) := ⟨_, rfl⟩
  obtain ⟨c3, hc3⟩ : ∃ c, c = UInt8.ofNat (l.length / 256) := ⟨_, rfl⟩
  obtain ⟨c4, hc4⟩ : ∃ c, c = UInt8.ofNat (l.length % 256) := ⟨_, rfl⟩
  have HW : Hid (([c1] ++ [c2, c3, c4] ++ m) ++ xm m l = wrB n true m l) := by
    show _ = _
    rw [hc1, hc2, hc3, hc4]
    unfold wrB hd2
    rw [if_neg (by omega)]
    simp
  have hf : bits .or .u8 (n : Int) 128 = (c1.toNat : Int) := by rw [hc1]; exact or_fin ⟨n, by omega⟩
  have HK : Hid (bits .or .u8 0 126 = (c2.toNat : Int)) := by show _ = _; rw [hc2, mk1, if_pos hm]; decide +kernel
  have H3 : Hid ((l.length : Int) / 256 = (c3.toNat : Int)) := by show _ = _; rw [hc3]; exact hi8 _ hl
  have H4 : Hid ((l.length : Int) % 256 = (c4.toNat : Int)) := by show _ = _; rw [hc4]; exact lo8 _
  have HML := hide hm
  have HMM : Hid (m = [] ∨ m.length = 4) := .inl hm
  have hml : m.length ≤ 4 := by rw [hm]; simp
  clear hc1 hc2 hc3 hc4 hm
  go_enter Tryd.func13, Tryd.ntmps13
  go_wp2_with fail
  refine (mayBe_any (n : Int) true (l.length : Int) _).mono ?_
  rintro e w2 ⟨rfl, hw2⟩
  rw [unhide HMY]
  have WS := hide (WJ.start (fin := true) (op := (n : Int)) w hL hM)
  rw [← hw2] at WS
  have HW2 : Hid (w2.heap.size = w.heap.size + 1) := by show _ = _; rw [hw2]; simp
  have hwle : w.heap.size + 1 ≤ w2.heap.size := by rw [unhide HW2]; exact Nat.le_refl _
  have hz2 : w.heap.size < w2.heap.size := by omega
  clear hw2 hL hM
  have f0 : w2.cell? ⟨w.heap.size, 0, none⟩ = some (.bool true) := by rw [cell_of_row w2 w.heap.size 0 _ _ _ (unhide WS).fr]; rfl
  have f1 : w2.cell? ⟨w.heap.size, 1, none⟩ = some (.int .i64 (n : Int)) := by rw [cell_of_row w2 w.heap.size 1 _ _ _ (unhide WS).fr]; rfl
  have f2 : w2.cell? ⟨w.heap.size, 2, none⟩ = some (.slice x l.length cx) := by rw [cell_of_row w2 w.heap.size 2 _ _ _ (unhide WS).fr]; rfl
  have HRL : Hid (Row ((w2.alloc (.cells #[.int .u8 (c1.toNat : Int)] 5)).alloc (.cells #[.int .u8 (bits .or .u8 0 126), .int .u8 ((l.length : Int) / 256), .int .u8 ((l.length : Int) % 256)] 5)) (some ⟨w2.heap.size + 1, 0, none⟩) [c2, c3, c4]) := by
    have := row_lit3 (w2.alloc (.cells #[.int .u8 (c1.toNat : Int)] 5)) _ _ _ c2 c3 c4 (unhide HK) (unhide H3) (unhide H4)
    rw [show (w2.alloc (.cells #[.int .u8 (c1.toNat : Int)] 5)).heap.size = w2.heap.size + 1 by simp] at this
    exact this
  go_wp2_with (at_builtin; refine wp_app2 _ rfl _ _ rfl (w.heap.size + 1) (some ⟨w2.heap.size, 0, none⟩) 1 [c1] rfl ((own_lit1 w2 _ c1 hwle).alloc _) (some ⟨w2.heap.size + 1, 0, none⟩) 3 [c2, c3, c4] 3 rfl rfl (unhide HRL) (fun h => by cases h) (by simp) (Nat.le_trans hwle (by simp; omega)) ?_)
  intro a3 k3 r3 w3 hr3 ho3 hg3 hl3
  have HJ3 : Hid (WJ w true (n : Int) x cx l b cb m w3) := by
    have j1 := ((unhide WS).below (W' := w2.alloc (.cells #[.int .u8 (c1.toNat : Int)] 5)) ((Below.refl _ _).alloc (Nat.le_refl _) _)).below (W' := (w2.alloc (.cells #[.int .u8 (c1.toNat : Int)] 5)).alloc (.cells #[.int .u8 (bits .or .u8 0 126), .int .u8 ((l.length : Int) / 256), .int .u8 ((l.length : Int) % 256)] 5)) ((Below.refl _ _).alloc (Nat.le_refl _) _)
    exact j1.app ((own_lit1 w2 _ c1 hwle).alloc _) (unhide HL) (unhide HM) hg3
  have HO3 := hide ho3
  have HR3 : Hid (r3 = [c1] ++ [c2, c3, c4]) := hr3
  have hr3l : r3.length ≤ 4 := by rw [unhide HR3]; simp
  have HJ := hide ((unhide HJ3).below (W' := w3.drew) (Below.refl _ _).drew)
  have HO := hide ((unhide HO3).below (w' := w3.drew) (Below.refl _ _).drew (Nat.le_refl _))
  have s3 : w3.drew.cell? ⟨w.heap.size, 2, none⟩ = some (.slice x l.length cx) := by rw [cell_of_row w3.drew w.heap.size 2 _ _ _ (unhide HJ).fr]; rfl
  clear ho3 hr3 hg3 hl3 f0 f1 f2 HRL WS hwle hz2 HJ3 HO3
  go_wp2_with fail
  refine wp_region_held_drew (S := fun w' => w'.cell? ⟨w.heap.size, 2, none⟩ = some (.slice x l.length cx)) (by kernel_rfl) s3 (fun hHeld => ?_)
  refine wpAnyH_take (i := 0) (oi := ?_) (v := ?_) ?_ (by kernel_rfl) ?_ ?_ ?_ ?_ hHeld ?_
  rotate_left 2
  · (simp only [List.getElem?_toArray, List.getElem?_cons_succ, List.getElem?_cons_zero]) <;> with_reducible rfl
  · kernel_rfl
  · kernel_rfl
  · exact fun _ _ _ h => h
  · exact Or.inl ⟨by rfl, by (intro w hSw; (try dsimp only at hSw); go_simp <;> with_reducible rfl)⟩
  try simp only [Act.put, List.setIfInBounds_toArray, List.set_cons_zero, List.set_cons_succ]
  refine wpAnyH_take (i := 1) (oi := ?_) (v := ?_) ?_ (by kernel_rfl) ?_ ?_ ?_ ?_ hHeld ?_
  rotate_left 2
  · (simp only [List.getElem?_toArray, List.getElem?_cons_succ, List.getElem?_cons_zero]) <;> with_reducible rfl
  · kernel_rfl
  · kernel_rfl
  · exact fun _ _ _ h => h
  · exact Or.inl ⟨by rfl, by (intro w hSw; (try dsimp only at hSw); go_simp <;> with_reducible rfl)⟩
  try simp only [Act.put, List.setIfInBounds_toArray, List.set_cons_zero, List.set_cons_succ]
  refine wpAnyH_take (i := 3) (oi := ?_) (v := ?_) ?_ (by kernel_rfl) ?_ ?_ ?_ ?_ hHeld ?_
  rotate_left 2
  · (simp only [List.getElem?_toArray, List.getElem?_cons_succ, List.getElem?_cons_zero]) <;> with_reducible rfl
  · kernel_rfl
  · kernel_rfl
  · exact fun _ _ _ h => h
  · exact Or.inl ⟨by rfl, by (intro w hSw; (try dsimp only at hSw); go_simp <;> with_reducible rfl)⟩
  try simp only [Act.put, List.setIfInBounds_toArray, List.set_cons_zero, List.set_cons_succ]
  refine wpAnyH_take (i := 4) (oi := ?_) (v := ?_) ?_ (by kernel_rfl) ?_ ?_ ?_ ?_ hHeld ?_
  rotate_left 2
  · (simp only [List.getElem?_toArray, List.getElem?_cons_succ, List.getElem?_cons_zero]) <;> with_reducible rfl
  · kernel_rfl
  · kernel_rfl
  · exact fun _ _ _ h => h
  · exact Or.inl ⟨by rfl, by (intro w hSw; (try dsimp only at hSw); go_simp <;> with_reducible rfl)⟩
  try simp only [Act.put, List.setIfInBounds_toArray, List.set_cons_zero, List.set_cons_succ]
  refine wpAnyH_take (i := 5) (oi := ?_) (v := ?_) ?_ (by kernel_rfl) ?_ ?_ ?_ ?_ hHeld ?_
  rotate_left 2
  · (simp only [List.getElem?_toArray, List.getElem?_cons_succ, List.getElem?_cons_zero]) <;> with_reducible rfl
  · kernel_rfl
  · kernel_rfl
  · exact fun _ _ _ h => h
  · exact Or.inl ⟨by rfl, by (intro w hSw; (try dsimp only at hSw); go_simp <;> with_reducible rfl)⟩
  try simp only [Act.put, List.setIfInBounds_toArray, List.set_cons_zero, List.set_cons_succ]
  refine wpAnyH_ready (rs := [2]) (by kernel_rfl) (by simp) (AllReadyH.cons (o := ?_) ?_ (fun K hK => ?_) AllReadyH.nil)
  rotate_left 1
  · (simp only [List.getElem?_toArray, List.getElem?_cons_succ, List.getElem?_cons_zero]) <;> with_reducible rfl
  refine stp_app2 _ rfl _ _ rfl (w.heap.size + 1) a3 k3 r3 _ rfl rfl (unhide HO) b cb m _ rfl rfl (unhide HJ).mask.row (unhide HJ).mask.nz (by omega) (unhide HJ).lt ?_
  intro a4 k4 r4 w4 hr4 ho4 hg4 hl4
  have HJ4 := hide ((unhide HJ).app (unhide HO) (unhide HL) (unhide HM) (unhide hg4))
  have s4 : w4.cell? ⟨w.heap.size, 2, none⟩ = some (.slice x l.length cx) := by rw [cell_of_row w4 w.heap.size 2 _ _ _ (unhide HJ4).fr]; rfl
  clear hHeld HJ HO
  refine hK.out _ _ s4 (fun hHeld => ?_)
  clear hK K
  try simp only [Act.put, List.setIfInBounds_toArray, List.set_cons_zero, List.set_cons_succ]
  refine wpAnyH_ready (rs := [6]) (by kernel_rfl) (by simp) (AllReadyH.cons (o := ?_) ?_ (fun K hK => ?_) AllReadyH.nil)
  rotate_left 1
  · (simp only [List.getElem?_toArray, List.getElem?_cons_succ, List.getElem?_cons_zero]) <;> with_reducible rfl
  go_simp
  refine (wmask_any x cx l b cb m _ (unhide HJ4).load (unhide HJ4).mask (by omega) (unhide HMM)).mono ?_
  rintro e w5 ⟨a5, c5, r5, rfl, hr5, ho5, hb5⟩
  have HJ5 := hide ((unhide HJ4).below (unhide hb5))
  have HO4 := hide ((unhide ho4).below (unhide hb5) (Nat.le_refl _))
  have s5 : w5.cell? ⟨w.heap.size, 2, none⟩ = some (.slice x l.length cx) := by rw [cell_of_row w5 w.heap.size 2 _ _ _ (unhide HJ5).fr]; rfl
  clear hHeld s4
  refine hK.out _ _ s5 (fun hHeld => ?_)
  clear hK K
  try simp only [Act.put, List.setIfInBounds_toArray, List.set_cons_zero, List.set_cons_succ]
  refine wpAnyH_ready (rs := [7]) (by kernel_rfl) (by simp) (AllReadyH.cons (o := ?_) ?_ (fun K hK => ?_) AllReadyH.nil)
  rotate_left 1
  · (simp only [List.getElem?_toArray, List.getElem?_cons_succ, List.getElem?_cons_zero]) <;> with_reducible rfl
  have hr4l : r4.length ≤ 8 := by rw [unhide hr4, List.length_append]; omega
  have hr5l : r5.length ≤ 16384 := by rw [unhide hr5, xm_length]; exact hl
  refine stp_app2 _ rfl _ _ rfl (w.heap.size + 1) a4 k4 r4 _ rfl rfl (unhide HO4) a5 c5 r5 _ rfl rfl (unhide ho5).toBs.row (unhide ho5).toBs.nz (by omega) (unhide HJ5).lt ?_
  intro a6 k6 r6 w6 hr6 ho6 hg6 hl6
  have HJ6 := hide ((unhide HJ5).app (unhide HO4) (unhide HL) (unhide HM) (unhide hg6))
  have s6 : w6.cell? ⟨w.heap.size, 2, none⟩ = some (.slice x l.length cx) := by rw [cell_of_row w6 w.heap.size 2 _ _ _ (unhide HJ6).fr]; rfl
  clear hHeld s5
  refine hK.out _ _ s6 (fun hHeld => ?_)
  clear hK K
  try simp only [Act.put, List.setIfInBounds_toArray, List.set_cons_zero, List.set_cons_succ]
  refine wpAnyH_take (i := 8) (oi := ?_) (v := ?_) ?_ (by kernel_rfl) ?_ ?_ ?_ ?_ hHeld ?_
  rotate_left 2
  · (simp only [List.getElem?_toArray, List.getElem?_cons_succ, List.getElem?_cons_zero]) <;> with_reducible rfl
  · kernel_rfl
  · kernel_rfl
  · exact fun _ _ _ h => h
  · exact Or.inl ⟨by rfl, by (intro w hSw; (try dsimp only at hSw); go_simp <;> with_reducible rfl)⟩
  try simp only [Act.put, List.setIfInBounds_toArray, List.set_cons_zero, List.set_cons_succ]
  refine wpAnyH_take (i := 9) (oi := ?_) (v := ?_) ?_ (by kernel_rfl) ?_ ?_ ?_ ?_ hHeld ?_
  rotate_left 2
  · (simp only [List.getElem?_toArray, List.getElem?_cons_succ, List.getElem?_cons_zero]) <;> with_reducible rfl
  · kernel_rfl
  · kernel_rfl
  · exact fun _ _ _ h => h
  · exact Or.inl ⟨by rfl, by (intro w hSw; (try dsimp only at hSw); go_simp <;> with_reducible rfl)⟩
  try simp only [Act.put, List.setIfInBounds_toArray, List.set_cons_zero, List.set_cons_succ]
  refine wpAnyH_done (by kernel_rfl) ?_ _
  clear hHeld s6
  go_wp2
  go_ret2
  exact ⟨a6, k6, r6, rfl, by show _ = _; rw [unhide hr6, unhide hr4, unhide hr5, unhide HR3]; exact unhide HW, (unhide ho6).base (Nat.le_succ _), (unhide HJ6).bel⟩

set_option linter.unusedSimpArgs false in
set_option maxHeartbeats 4000000 in
theorem write_fnl (n : Nat) (hn : n ≤ 10) (x : Option Addr) (cx : Nat) (l : List UInt8) (b : Option Addr) (cb : Nat) (m : List UInt8) (w : World) (hL : Bs w x cx l) (hM : Bs w b cb m) (hm : m = []) (hmay : mayB (n : Int) false (l.length : Int) = true) (hl : l.length ≤ 16384) (h125 : 125 < l.length) :
    Calls Tryd.prog 13 #[.agg #[.bool false, .int .i64 (n : Int), .slice x l.length cx], .slice b m.length cb] w fun e w' => ∃ a' c' r, e = .returned (.tuple #[.slice a' r.length c', .int .i64 0]) ∧ Hid (r = wrB n false m l) ∧ Hid (OwnB w' w.heap.size a' c' r) ∧ Hid (Below w.heap.size w w') := by
  have HL := hide hL
  have HM := hide hM
  have HMY := hide hmay
  clear hmay
  have hg2 : IntKind.u8.wrap (n : Int) = (n : Int) := by rw [IntKind.wrap_u8]; omega
  have d1 : decide ((16384 : Int) < (l.length : Int)) = false := decide_eq_false (by omega)
  have d2 : ¬ (l.length : Int) ≤ 125 := by omega
  have hmz : ((m.length : Int) != 0) = false := by rw [hm]; rfl
  have hmp : ¬ (0 : Int) < (m.length : Int) := by rw [hm]; simp
  obtain ⟨c1, hc1⟩ : ∃ c, c = hd1 n false := ⟨_, rfl⟩
  obtain ⟨c2, hc2⟩ : ∃ c, c = UInt8.ofNat (mk1 m + 126) := ⟨_, rfl⟩
  obtain ⟨c3, hc3⟩ : ∃ c, c = UInt8.ofNat (l.length / 256) := ⟨_, rfl⟩
  obtain ⟨c4, hc4⟩ : ∃ c, c = UInt8.ofNat (l.length % 256) := ⟨_, rfl⟩
  have HW : Hid (([c1] ++ [c2, c3, c4] ++ m) ++ xm m l = wrB n false m l) := by
    show _ = _
    rw [hc1, hc2, hc3, hc4]
    unfold wrB hd2
    rw [if_neg (by omega)]
    simp
  have HF : Hid ((n : Int) = (c1.toNat : Int)) := by show _ = _; rw [hc1]; exact or_nof ⟨n, by omega⟩
  have HK : Hid (bits .or .u8 0 126 = (c2.toNat : Int)) := by show _ = _; rw [hc2, mk1, if_pos hm]; decide +kernel
  have H3 : Hid ((l.length : Int) / 256 = (c3.toNat : Int)) := by show _ = _; rw [hc3]; exact hi8 _ hl
  have H4 : Hid ((l.length : Int) % 256 = (c4.toNat : Int)) := by show _ = _; rw [hc4]; exact lo8 _
  have HML := hide hm
  have HMM : Hid (m = [] ∨ m.length = 4) := .inl hm
  have hml : m.length ≤ 4 := by rw [hm]; simp
  clear hc1 hc2 hc3 hc4 hm
  go_enter Tryd.func13, Tryd.ntmps13
  go_wp2_with fail
  refine (mayBe_any (n : Int) false (l.length : Int) _).mono ?_
  rintro e w2 ⟨rfl, hw2⟩
  rw [unhide HMY]
  have WS := hide (WJ.start (fin := false) (op := (n : Int)) w hL hM)
  rw [← hw2] at WS
  have HW2 : Hid (w2.heap.size = w.heap.size + 1) := by show _ = _; rw [hw2]; simp
  have hwle : w.heap.size + 1 ≤ w2.heap.size := by rw [unhide HW2]; exact Nat.le_refl _
  have hz2 : w.heap.size < w2.heap.size := by omega
  clear hw2 hL hM
  have f0 : w2.cell? ⟨w.heap.size, 0, none⟩ = some (.bool false) := by rw [cell_of_row w2 w.heap.size 0 _ _ _ (unhide WS).fr]; rfl
  have f1 : w2.cell? ⟨w.heap.size, 1, none⟩ = some (.int .i64 (n : Int)) := by rw [cell_of_row w2 w.heap.size 1 _ _ _ (unhide WS).fr]; rfl
  have f2 : w2.cell? ⟨w.heap.size, 2, none⟩ = some (.slice x l.length cx) := by rw [cell_of_row w2 w.heap.size 2 _ _ _ (unhide WS).fr]; rfl
  have HRL : Hid (Row ((w2.alloc (.cells #[.int .u8 (n : Int)] 5)).alloc (.cells #[.int .u8 (bits .or .u8 0 126), .int .u8 ((l.length : Int) / 256), .int .u8 ((l.length : Int) % 256)] 5)) (some ⟨w2.heap.size + 1, 0, none⟩) [c2, c3, c4]) := by
    have := row_lit3 (w2.alloc (.cells #[.int .u8 (n : Int)] 5)) _ _ _ c2 c3 c4 (unhide HK) (unhide H3) (unhide H4)
    rw [show (w2.alloc (.cells #[.int .u8 (n : Int)] 5)).heap.size = w2.heap.size + 1 by simp] at this
    exact this
  go_wp2_with (at_builtin; refine wp_app2 _ rfl _ _ rfl (w.heap.size + 1) (some ⟨w2.heap.size, 0, none⟩) 1 [c1] rfl ((own_litz w2 _ (n : Int) c1 (unhide HF) hwle).alloc _) (some ⟨w2.heap.size + 1, 0, none⟩) 3 [c2, c3, c4] 3 rfl rfl (unhide HRL) (fun h => by cases h) (by simp) (Nat.le_trans hwle (by simp; omega)) ?_)
  intro a3 k3 r3 w3 hr3 ho3 hg3 hl3
  have HJ3 : Hid (WJ w false (n : Int) x cx l b cb m w3) := by
    have j1 := ((unhide WS).below (W' := w2.alloc (.cells #[.int .u8 (n : Int)] 5)) ((Below.refl _ _).alloc (Nat.le_refl _) _)).below (W' := (w2.alloc (.cells #[.int .u8 (n : Int)] 5)).alloc (.cells #[.int .u8 (bits .or .u8 0 126), .int .u8 ((l.length : Int) / 256), .int .u8 ((l.length : Int) % 256)] 5)) ((Below.refl _ _).alloc (Nat.le_refl _) _)
    exact j1.app ((own_litz w2 _ (n : Int) c1 (unhide HF) hwle).alloc _) (unhide HL) (unhide HM) hg3
  have HO3 := hide ho3
  have HR3 : Hid (r3 = [c1] ++ [c2, c3, c4]) := hr3
  have hr3l : r3.length ≤ 4 := by rw [unhide HR3]; simp
  have HJ := hide ((unhide HJ3).below (W' := w3.drew) (Below.refl _ _).drew)
  have HO := hide ((unhide HO3).below (w' := w3.drew) (Below.refl _ _).drew (Nat.le_refl _))
  have s3 : w3.drew.cell? ⟨w.heap.size, 2, none⟩ = some (.slice x l.length cx) := by rw [cell_of_row w3.drew w.heap.size 2 _ _ _ (unhide HJ).fr]; rfl
  clear ho3 hr3 hg3 hl3 f0 f1 f2 HRL WS hwle hz2 HJ3 HO3
  go_wp2_with fail
  refine wp_region_held_drew (S := fun w' => w'.cell? ⟨w.heap.size, 2, none⟩ = some (.slice x l.length cx)) (by kernel_rfl) s3 (fun hHeld => ?_)
  refine wpAnyH_take (i := 0) (oi := ?_) (v := ?_) ?_ (by kernel_rfl) ?_ ?_ ?_ ?_ hHeld ?_
  rotate_left 2
  · (simp only [List.getElem?_toArray, List.getElem?_cons_succ, List.getElem?_cons_zero]) <;> with_reducible rfl
  · kernel_rfl
  · kernel_rfl
  · exact fun _ _ _ h => h
  · exact Or.inl ⟨by rfl, by (intro w hSw; (try dsimp only at hSw); go_simp <;> with_reducible rfl)⟩
  try simp only [Act.put, List.setIfInBounds_toArray, List.set_cons_zero, List.set_cons_succ]
  refine wpAnyH_take (i := 1) (oi := ?_) (v := ?_) ?_ (by kernel_rfl) ?_ ?_ ?_ ?_ hHeld ?_
  rotate_left 2
  · (simp only [List.getElem?_toArray, List.getElem?_cons_succ, List.getElem?_cons_zero]) <;> with_reducible rfl
  · kernel_rfl
  · kernel_rfl
  · exact fun _ _ _ h => h
  · exact Or.inl ⟨by rfl, by (intro w hSw; (try dsimp only at hSw); go_simp <;> with_reducible rfl)⟩
  try simp only [Act.put, List.setIfInBounds_toArray, List.set_cons_zero, List.set_cons_succ]
  refine wpAnyH_take (i := 3) (oi := ?_) (v := ?_) ?_ (by kernel_rfl) ?_ ?_ ?_ ?_ hHeld ?_
  rotate_left 2
  · (simp only [List.getElem?_toArray, List.getElem?_cons_succ, List.getElem?_cons_zero]) <;> with_reducible rfl
  · kernel_rfl
  · kernel_rfl
  · exact fun _ _ _ h => h
  · exact Or.inl ⟨by rfl, by (intro w hSw; (try dsimp only at hSw); go_simp <;> with_reducible rfl)⟩
  try simp only [Act.put, List.setIfInBounds_toArray, List.set_cons_zero, List.set_cons_succ]
  refine wpAnyH_take (i := 4) (oi := ?_) (v := ?_) ?_ (by kernel_rfl) ?_ ?_ ?_ ?_ hHeld ?_
  rotate_left 2
  · (simp only [List.getElem?_toArray, List.getElem?_cons_succ, List.getElem?_cons_zero]) <;> with_reducible rfl
  · kernel_rfl
  · kernel_rfl
  · exact fun _ _ _ h => h
  · exact Or.inl ⟨by rfl, by (intro w hSw; (try dsimp only at hSw); go_simp <;> with_reducible rfl)⟩
  try simp only [Act.put, List.setIfInBounds_toArray, List.set_cons_zero, List.set_cons_succ]
  refine wpAnyH_take (i := 5) (oi := ?_) (v := ?_) ?_ (by kernel_rfl) ?_ ?_ ?_ ?_ hHeld ?_
  rotate_left 2
  · (simp only [List.getElem?_toArray, List.getElem?_cons_succ, List.getElem?_cons_zero]) <;> with_reducible rfl
  · kernel_rfl
  · kernel_rfl
  · exact fun _ _ _ h => h
  · exact Or.inl ⟨by rfl, by (intro w hSw; (try dsimp only at hSw); go_simp <;> with_reducible rfl)⟩
  try simp only [Act.put, List.setIfInBounds_toArray, List.set_cons_zero, List.set_cons_succ]
  refine wpAnyH_ready (rs := [2]) (by kernel_rfl) (by simp) (AllReadyH.cons (o := ?_) ?_ (fun K hK => ?_) AllReadyH.nil)
  rotate_left 1
  · (simp only [List.getElem?_toArray, List.getElem?_cons_succ, List.getElem?_cons_zero]) <;> with_reducible rfl
  refine stp_app2 _ rfl _ _ rfl (w.heap.size + 1) a3 k3 r3 _ rfl rfl (unhide HO) b cb m _ rfl rfl (unhide HJ).mask.row (unhide HJ).mask.nz (by omega) (unhide HJ).lt ?_
  intro a4 k4 r4 w4 hr4 ho4 hg4 hl4
  have HJ4 := hide ((unhide HJ).app (unhide HO) (unhide HL) (unhide HM) (unhide hg4))
  have s4 : w4.cell? ⟨w.heap.size, 2, none⟩ = some (.slice x l.length cx) := by rw [cell_of_row w4 w.heap.size 2 _ _ _ (unhide HJ4).fr]; rfl
  clear hHeld HJ HO
  refine hK.out _ _ s4 (fun hHeld => ?_)
  clear hK K
  try simp only [Act.put, List.setIfInBounds_toArray, List.set_cons_zero, List.set_cons_succ]
  refine wpAnyH_ready (rs := [6]) (by kernel_rfl) (by simp) (AllReadyH.cons (o := ?_) ?_ (fun K hK => ?_) AllReadyH.nil)
  rotate_left 1
  · (simp only [List.getElem?_toArray, List.getElem?_cons_succ, List.getElem?_cons_zero]) <;> with_reducible rfl
  go_simp
  refine (wmask_any x cx l b cb m _ (unhide HJ4).load (unhide HJ4).mask (by omega) (unhide HMM)).mono ?_
  rintro e w5 ⟨a5, c5, r5, rfl, hr5, ho5, hb5⟩
  have HJ5 := hide ((unhide HJ4).below (unhide hb5))
  have HO4 := hide ((unhide ho4).below (unhide hb5) (Nat.le_refl _))
  have s5 : w5.cell? ⟨w.heap.size, 2, none⟩ = some (.slice x l.length cx) := by rw [cell_of_row w5 w.heap.size 2 _ _ _ (unhide HJ5).fr]; rfl
  clear hHeld s4
  refine hK.out _ _ s5 (fun hHeld => ?_)
  clear hK K
  try simp only [Act.put, List.setIfInBounds_toArray, List.set_cons_zero, List.set_cons_succ]
  refine wpAnyH_ready (rs := [7]) (by kernel_rfl) (by simp) (AllReadyH.cons (o := ?_) ?_ (fun K hK => ?_) AllReadyH.nil)
  rotate_left 1
  · (simp only [List.getElem?_toArray, List.getElem?_cons_succ, List.getElem?_cons_zero]) <;> with_reducible rfl
  have hr4l : r4.length ≤ 8 := by rw [unhide hr4, List.length_append]; omega
  have hr5l : r5.length ≤ 16384 := by rw [unhide hr5, xm_length]; exact hl
  refine stp_app2 _ rfl _ _ rfl (w.heap.size + 1) a4 k4 r4 _ rfl rfl (unhide HO4) a5 c5 r5 _ rfl rfl (unhide ho5).toBs.row (unhide ho5).toBs.nz (by omega) (unhide HJ5).lt ?_
  intro a6 k6 r6 w6 hr6 ho6 hg6 hl6
  have HJ6 := hide ((unhide HJ5).app (unhide HO4) (unhide HL) (unhide HM) (unhide hg6))
  have s6 : w6.cell? ⟨w.heap.size, 2, none⟩ = some (.slice x l.length cx) := by rw [cell_of_row w6 w.heap.size 2 _ _ _ (unhide HJ6).fr]; rfl
  clear hHeld s5
  refine hK.out _ _ s6 (fun hHeld => ?_)
  clear hK K
  try simp only [Act.put, List.setIfInBounds_toArray, List.set_cons_zero, List.set_cons_succ]
  refine wpAnyH_take (i := 8) (oi := ?_) (v := ?_) ?_ (by kernel_rfl) ?_ ?_ ?_ ?_ hHeld ?_
  rotate_left 2
  · (simp only [List.getElem?_toArray, List.getElem?_cons_succ, List.getElem?_cons_zero]) <;> with_reducible rfl
  · kernel_rfl
  · kernel_rfl
  · exact fun _ _ _ h => h
  · exact Or.inl ⟨by rfl, by (intro w hSw; (try dsimp only at hSw); go_simp <;> with_reducible rfl)⟩
  try simp only [Act.put, List.setIfInBounds_toArray, List.set_cons_zero, List.set_cons_succ]
  refine wpAnyH_take (i := 9) (oi := ?_) (v := ?_) ?_ (by kernel_rfl) ?_ ?_ ?_ ?_ hHeld ?_
  rotate_left 2
  · (simp only [List.getElem?_toArray, List.getElem?_cons_succ, List.getElem?_cons_zero]) <;> with_reducible rfl
  · kernel_rfl
  · kernel_rfl
  · exact fun _ _ _ h => h
  · exact Or.inl ⟨by rfl, by (intro w hSw; (try dsimp only at hSw); go_simp <;> with_reducible rfl)⟩
  try simp only [Act.put, List.setIfInBounds_toArray, List.set_cons_zero, List.set_cons_succ]
  refine wpAnyH_done (by kernel_rfl) ?_ _
  clear hHeld s6
  go_wp2
  go_ret2
  exact ⟨a6, k6, r6, rfl, by show _ = _; rw [unhide hr6, unhide hr4, unhide hr5, unhide HR3]; exact unhide HW, (unhide ho6).base (Nat.le_succ _), (unhide HJ6).bel⟩
end Go.Proofs.YtegbcjfceooflaaDoor
end
section
set_option linter.unusedVariables false
namespace Go.Proofs.YtegbcjfceooflaaDoor
open Go.RowKit

/-- What Write answers: the error, the bytes. -/
def wrE (op : Int) (fin : Bool) (m l : List UInt8) : Int := if m = [] ∨ m.length = 4 then (if mayB op fin (l.length : Int) = true then (if l.length ≤ 16384 then 0 else 4) else 90) else 1
def wrR (op : Int) (fin : Bool) (m l : List UInt8) : List UInt8 := if wrE op fin m l = 0 then wrB op.toNat fin m l else []

set_option maxHeartbeats 2000000 in
theorem write_any (op : Int) (fin : Bool) (x : Option Addr) (cx : Nat) (l : List UInt8) (b : Option Addr) (cb : Nat) (m : List UInt8) (w : World) (hL : Bs w x cx l) (hM : Bs w b cb m) :
    Calls Tryd.prog 13 #[.agg #[.bool fin, .int .i64 op, .slice x l.length cx], .slice b m.length cb] w fun e w' => ∃ a' c' r, e = .returned (.tuple #[.slice a' r.length c', .int .i64 (wrE op fin m l)]) ∧ Hid (r = wrR op fin m l) ∧ Hid (OwnB w' w.heap.size a' c' r) ∧ Hid (Below w.heap.size w w') := by
  have hlm := hL.le
  have hmost := hL.most
  have hmm := hM.le
  have hmmost := hM.most
  unfold maxLen at hmost hmmost
  by_cases hm : m = [] ∨ m.length = 4
  · by_cases hmay : mayB op fin (l.length : Int) = true
    · by_cases hl : l.length ≤ 16384
      · have hE : wrE op fin m l = 0 := by unfold wrE; rw [if_pos hm, if_pos hmay, if_pos hl]
        obtain ⟨n, rfl, hn⟩ := mayB_op hmay
        have hR : wrR (n : Int) fin m l = wrB n fin m l := by unfold wrR; rw [if_pos hE]; rfl
        rw [hE, hR]
        by_cases h125 : l.length ≤ 125
        · rcases hm with hm | hm
          · cases fin
            · exact write_fns n hn x cx l b cb m w hL hM hm hmay hl h125
            · exact write_tns n hn x cx l b cb m w hL hM hm hmay hl h125
          · cases fin
            · exact write_fms n hn x cx l b cb m w hL hM hm hmay hl h125
            · exact write_tms n hn x cx l b cb m w hL hM hm hmay hl h125
        · have h125' : 125 < l.length := by omega
          rcases hm with hm | hm
          · cases fin
            · exact write_fnl n hn x cx l b cb m w hL hM hm hmay hl h125'
            · exact write_tnl n hn x cx l b cb m w hL hM hm hmay hl h125'
          · cases fin
            · exact write_fml n hn x cx l b cb m w hL hM hm hmay hl h125'
            · exact write_tml n hn x cx l b cb m w hL hM hm hmay hl h125'
      · have hE : wrE op fin m l = 4 := by unfold wrE; rw [if_pos hm, if_pos hmay, if_neg hl]
        have HR : Hid ([] = wrR op fin m l) := by show _ = _; unfold wrR; rw [hE]; rfl
        rw [hE]
        have hl' : (16384 : Int) < (l.length : Int) := by omega
        have HMY := hide hmay
        clear hmay hL hM
        rcases hm with hm | hm
        · have hmz : ((m.length : Int) != 0) = false := by rw [hm]; rfl
          clear hm
          go_enter Tryd.func13, Tryd.ntmps13
          go_wp2_with fail
          refine (mayBe_any op fin (l.length : Int) _).mono ?_
          rintro e w2 ⟨rfl, hw2⟩
          rw [unhide HMY]
          subst hw2
          go_wp2
          go_ret2
          exact ⟨none, 0, [], rfl, HR, OwnB.nil _ _, (Below.refl _ _).alloc (Nat.le_refl _) _⟩
        · have hmz : ((m.length : Int) != 0) = true := by rw [hm]; rfl
          have hm4 : ((m.length : Int) != 4) = false := by rw [hm]; rfl
          clear hm
          go_enter Tryd.func13, Tryd.ntmps13
          go_wp2_with fail
          refine (mayBe_any op fin (l.length : Int) _).mono ?_
          rintro e w2 ⟨rfl, hw2⟩
          rw [unhide HMY]
          subst hw2
          go_wp2
          go_ret2
          exact ⟨none, 0, [], rfl, HR, OwnB.nil _ _, (Below.refl _ _).alloc (Nat.le_refl _) _⟩
    · have hE : wrE op fin m l = 90 := by unfold wrE; rw [if_pos hm, if_neg hmay]
      have HR : Hid ([] = wrR op fin m l) := by show _ = _; unfold wrR; rw [hE]; rfl
      rw [hE]
      have HMY : Hid (mayB op fin (l.length : Int) = false) := by show _ = _; simpa using hmay
      clear hmay hL hM
      rcases hm with hm | hm
      · have hmz : ((m.length : Int) != 0) = false := by rw [hm]; rfl
        clear hm
        go_enter Tryd.func13, Tryd.ntmps13
        go_wp2_with fail
        refine (mayBe_any op fin (l.length : Int) _).mono ?_
        rintro e w2 ⟨rfl, hw2⟩
        rw [unhide HMY]
        subst hw2
        go_wp2
        go_ret2
        exact ⟨none, 0, [], rfl, HR, OwnB.nil _ _, (Below.refl _ _).alloc (Nat.le_refl _) _⟩
      · have hmz : ((m.length : Int) != 0) = true := by rw [hm]; rfl
        have hm4 : ((m.length : Int) != 4) = false := by rw [hm]; rfl
        clear hm
        go_enter Tryd.func13, Tryd.ntmps13
        go_wp2_with fail
        refine (mayBe_any op fin (l.length : Int) _).mono ?_
        rintro e w2 ⟨rfl, hw2⟩
        rw [unhide HMY]
        subst hw2
        go_wp2
        go_ret2
        exact ⟨none, 0, [], rfl, HR, OwnB.nil _ _, (Below.refl _ _).alloc (Nat.le_refl _) _⟩
  · have hE : wrE op fin m l = 1 := by unfold wrE; rw [if_neg hm]
    have HR : Hid ([] = wrR op fin m l) := by show _ = _; unfold wrR; rw [hE]; rfl
    rw [hE]
    have hmz : ((m.length : Int) != 0) = true := by
      simp only [bne_iff_ne, ne_eq]
      intro h
      exact hm (.inl (List.eq_nil_of_length_eq_zero (by omega)))
    have hm4 : ((m.length : Int) != 4) = true := by
      simp only [bne_iff_ne, ne_eq]
      intro h
      exact hm (.inr (by omega))
    clear hm hL hM
    go_enter Tryd.func13, Tryd.ntmps13
    go_wp2
    go_ret2
    exact ⟨none, 0, [], rfl, HR, OwnB.nil _ _, (Below.refl _ _).alloc (Nat.le_refl _) _⟩
#print axioms write_any
end Go.Proofs.YtegbcjfceooflaaDoor
end
