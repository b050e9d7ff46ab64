/-
  jsonx: the document's machine: ends.; jsonx: the document's machine: figure.; jsonx: the document's machine: begins, but for what opens.; jsonx: the document's machine: a list or an object that opens.; jsonx: the document's machine: begins.
-/
import Derived.Test.YtbnbngmnoffmkaaGreatDoorPkJsesbj
section
set_option linter.unusedVariables false
set_option maxRecDepth 1000000
namespace Go.Proofs.YtbnbngmnoffmkaaGreatDoor
open Go.RowKit

set_option maxHeartbeats 16000000 in
theorem rends_any (base N : Nat) (hN : N ≤ 1000000) (c : UInt8) (w : World) (g : Nat → Nat) (P : Nat) (m : Mc) (hmb : Mb w g P base m) (hbs : base ≤ w.heap.size) (hos : ∀ o ∈ m.l, o.ns.length ≤ N ∧ o.is.length ≤ N) (hl16 : m.l.length ≤ 16) :
  Calls Tryz.prog 42 #[.pointer (some ⟨P, 0, none⟩), .int .u8 (c.toNat : Int)] w fun e w' => Mp w g P base (endsM m c) e w' := by
 obtain ⟨la, lc, vk, vn, vt, va1, vn1, vc1, va2, vn2, vc2, ta, tc, ca, cc, fs, h⟩ := hmb
 obtain ⟨hcell, hfr⟩ := h.cells
 have c1 := hcell 1 _ rfl
 have HBk := hide (rblank_any c w)
 have H := hide h
 obtain ⟨R, hR⟩ : ∃ R, R = endsM m c := ⟨_, rfl⟩
 rw [← hR]
 unfold endsM at hR
 have HR := hide hR
 have HBS := hide hbs
 have HOS := hide hos
 by_cases hb : blB4 c = true
 ·have HE : Hid (R = (0, m)) := by show _ = _; rw [unhide HR, if_pos hb]
  rw [hb] at HBk
  clear hb hR HR hcell hfr hbs hos h c1
  go_enter Tryz.func42, Tryz.ntmps42
  go_wp2_with fail
  refine (unhide HBk).mono ?_
  rintro e w1 ⟨rfl, rfl⟩
  go_wp2_with fail
  go_ret
  show Mp _ g P base R _ _
  rw [unhide HE]
  exact ⟨g, rfl, fun _ => (unhide H).mb, Kq.refl _ _ _⟩
 ·have hbf : blB4 c = false := by simpa using hb
  rw [hbf] at HBk
  by_cases hl : m.l = []
  ·have HE : Hid (R = (40, m)) := by show _ = _; rw [unhide HR, if_neg hb, if_pos hl]
   rw [show m.l.length = 0 by rw [hl]; rfl] at c1
   clear hb hbf hl hR HR hcell hfr hbs hos h hl16
   go_enter Tryz.func42, Tryz.ntmps42
   go_wp2_with fail
   refine (unhide HBk).mono ?_
   rintro e w1 ⟨rfl, rfl⟩
   go_wp2_with fail
   go_ret
   show Mp _ g P base R _ _
   rw [unhide HE]
   exact ⟨g, rfl, fun (e : 40 = 0) => absurd e (by decide), Kq.refl _ _ _⟩
  ·obtain ⟨l0, o, hlo⟩ : ∃ l0 o, m.l = l0 ++ [o] := ⟨m.l.dropLast, m.l.getLast hl, (List.dropLast_concat_getLast hl).symm⟩
   obtain ⟨T, hT⟩ : ∃ T, T = m.l.length := ⟨_, rfl⟩
   obtain ⟨i, hi⟩ : ∃ i, i = l0.length := ⟨_, rfl⟩
   have hTi : T = i + 1 := by rw [hT, hlo, hi]; simp
   obtain ⟨L, rfl⟩ : ∃ L, la = some ⟨L, 0, none⟩ := by
    rcases owns_cases h.lo with ⟨_, _, h3, _⟩ | ⟨gg, _, h3, _⟩
    ·have : T = 0 := by rw [hT]; exact h3
     omega
    ·exact ⟨gg, h3⟩
   obtain ⟨a1, d1, a2, d2, xs, q0, q1, q2, q3, q4, q5, hT0, hJ0, t1, t2, hE0⟩ := h.el i o (by rw [hlo, hi]; simp)
   dsimp only at q0 q1 q2 q3 q4 q5
   rw [Nat.add_zero] at q0
   have htop : topO m.l = o := by rw [hlo]; simp [topO]
   have hdl : m.l.dropLast = l0 := by rw [hlo]; simp
   have HE : Hid (R = if c = 44 ∧ o.k = 4 then (0, { m with st := 0 }) else if c = 44 then (0, { m with st := 2 }) else if (c = 93 ∧ o.k = 4) ∨ (c = 125 ∧ o.k = 5) then (0, doneM { m with l := l0 } o.v) else (40, m)) := by
    show _ = _; rw [unhide HR, if_neg hb, if_neg hl]; simp only [htop, hdl]
   have HQ := hide (And.intro q0 (And.intro q1 (And.intro q2 (And.intro q3 (And.intro q4 q5)))))
   have HJ0 := hide hJ0
   have HT0 := hide hT0
   have HE0 := hide hE0
   have HT1 := hide t1
   have HT2 := hide t2
   have HLC : Hid (∀ u, Below w.heap.size w u → u.cell? ⟨P, 1, none⟩ = some (.slice (some ⟨L, 0, none⟩) T lc) ∧ u.cell? ⟨L, i * 6, none⟩ = some (.int .i64 o.k) ∧ u.cell? ⟨L, i * 6 + 1, none⟩ = some (.int .i64 0) ∧ u.cell? ⟨L, i * 6 + 2, none⟩ = some (.string (str [])) ∧ u.cell? ⟨L, i * 6 + 3, none⟩ = some (.slice a1 o.ns.length d1) ∧ u.cell? ⟨L, i * 6 + 4, none⟩ = some (.slice a2 o.is.length d2) ∧ u.cell? ⟨L, i * 6 + 5, none⟩ = some (.string (str o.nm))) := fun u hu => by
    have hx := owns_same (w' := u) h.lo (fun k hk => hu.block k (owns_lt h.lo k hk).2)
    have hp := ((h.below hu).cells).1 1 _ rfl
    rw [← hT] at hp
    exact ⟨hp, (owns_cell hx _ _ q0).1, (owns_cell hx _ _ q1).1, (owns_cell hx _ _ q2).1, (owns_cell hx _ _ q3).1, (owns_cell hx _ _ q4).1, (owns_cell hx _ _ q5).1⟩
   rw [← hT] at c1
   have z1 : ((T : Int) == 0) = false := by simp; omega
   have z2 : IntKind.i64.wrap ((T : Int) - 1) = (i : Int) := by simp [IntKind.wrap, IntKind.bits, IntKind.signed]; omega
   have z3 : (T : Int) - 1 = (i : Int) := by omega
   have hi16 : i ≤ 16 := by omega
   have z4 : IntKind.i64.wrap (i : Int) = (i : Int) := by simp [IntKind.wrap, IntKind.bits, IntKind.signed]; omega
   have hiT : (i : Int) < (T : Int) := by omega
   have hi0 : (0 : Int) ≤ (i : Int) := by omega
   have HLO := hide hlo
   have HT := hide hT
   have HI := hide hi
   have HTI := hide hTi
   clear hb hbf hl hR HR hcell hfr hbs hos h hl16 hlo hT hi hTi htop hdl hT0 hJ0 hE0 q0 q1 q2 q3 q4 q5 t1 t2
   go_enter Tryz.func42, Tryz.ntmps42
   go_wp2_with fail
   refine (unhide HBk).mono ?_
   rintro e w1 ⟨rfl, rfl⟩
   go_upto_region 5 with fail
   obtain ⟨D, hD⟩ : ∃ D, D = w1.drew := ⟨_, rfl⟩
   have HBD : Hid (Below w1.heap.size w1 D) := by show Below _ _ _; rw [hD]; exact (Below.refl _ _).drew
   refine wp_region_held_drew (S := fun u => u.cell? ⟨P, 1, none⟩ = some (.slice (some ⟨L, 0, none⟩) T lc) ∧ u.cell? ⟨L, i * 6, none⟩ = some (.int .i64 o.k) ∧ u.cell? ⟨L, i * 6 + 1, none⟩ = some (.int .i64 0) ∧ u.cell? ⟨L, i * 6 + 2, none⟩ = some (.string (str [])) ∧ u.cell? ⟨L, i * 6 + 3, none⟩ = some (.slice a1 o.ns.length d1) ∧ u.cell? ⟨L, i * 6 + 4, none⟩ = some (.slice a2 o.is.length d2) ∧ u.cell? ⟨L, i * 6 + 5, none⟩ = some (.string (str o.nm))) (by kernel_rfl) (by rw [← hD]; exact unhide HLC D (unhide HBD)) (fun hHeld => ?_)
   rw [← hD] at hHeld ⊢
   clear hD c1
   refine wpAnyH_take (i := 0) (oi := ?_) (v := ?_) ?_ (by kernel_rfl) ?_ ?_ ?_ ?_ hHeld ?_
   rotate_left 2
   ·(simp only [List.getElem?_toArray, List.getElem?_cons_zero]) <;> with_reducible rfl
   ·kernel_rfl
   ·kernel_rfl
   ·exact fun _ _ _ h => h
   ·exact Or.inl ⟨by rfl, by (intro w hSw; (try dsimp only at hSw); obtain ⟨b0, b1, b2, b3, b4, b5, b6⟩ := hSw; go_simp <;> with_reducible rfl)⟩
   simp only [Act.put, List.setIfInBounds_toArray, List.set_cons_zero, List.set_cons_succ]
   refine wpAnyH_take (i := 1) (oi := ?_) (v := ?_) ?_ (by kernel_rfl) ?_ ?_ ?_ ?_ hHeld ?_
   rotate_left 2
   ·(simp only [List.getElem?_toArray, List.getElem?_cons_succ, List.getElem?_cons_zero]) <;> with_reducible rfl
   ·kernel_rfl
   ·kernel_rfl
   ·exact fun _ _ _ h => h
   ·exact Or.inl ⟨by rfl, by (intro w hSw; (try dsimp only at hSw); obtain ⟨b0, b1, b2, b3, b4, b5, b6⟩ := hSw; go_simp <;> with_reducible rfl)⟩
   simp only [Act.put, List.setIfInBounds_toArray, List.set_cons_zero, List.set_cons_succ]
   refine wpAnyH_take (i := 2) (oi := ?_) (v := ?_) ?_ (by kernel_rfl) ?_ ?_ ?_ ?_ hHeld ?_
   rotate_left 2
   ·(simp only [List.getElem?_toArray, List.getElem?_cons_succ, List.getElem?_cons_zero]) <;> with_reducible rfl
   ·kernel_rfl
   ·kernel_rfl
   ·exact fun _ _ _ h => h
   ·exact Or.inl ⟨by rfl, by (intro w hSw; (try dsimp only at hSw); obtain ⟨b0, b1, b2, b3, b4, b5, b6⟩ := hSw; go_simp <;> with_reducible rfl)⟩
   simp only [Act.put, List.setIfInBounds_toArray, List.set_cons_zero, List.set_cons_succ]
   refine wpAnyH_take (i := 3) (oi := ?_) (v := ?_) ?_ (by kernel_rfl) ?_ ?_ ?_ ?_ hHeld ?_
   rotate_left 2
   ·(simp only [List.getElem?_toArray, List.getElem?_cons_succ, List.getElem?_cons_zero]) <;> with_reducible rfl
   ·kernel_rfl
   ·kernel_rfl
   ·exact fun _ _ _ h => h
   ·exact Or.inl ⟨by rfl, by (intro w hSw; (try dsimp only at hSw); obtain ⟨b0, b1, b2, b3, b4, b5, b6⟩ := hSw; go_simp <;> with_reducible rfl)⟩
   simp only [Act.put, List.setIfInBounds_toArray, List.set_cons_zero, List.set_cons_succ]
   refine wpAnyH_take (i := 4) (oi := ?_) (v := ?_) ?_ (by kernel_rfl) ?_ ?_ ?_ ?_ hHeld ?_
   rotate_left 2
   ·(simp only [List.getElem?_toArray, List.getElem?_cons_succ, List.getElem?_cons_zero]) <;> with_reducible rfl
   ·kernel_rfl
   ·kernel_rfl
   ·exact fun _ _ _ h => h
   ·exact Or.inl ⟨by rfl, by (intro w hSw; (try dsimp only at hSw); obtain ⟨b0, b1, b2, b3, b4, b5, b6⟩ := hSw; go_simp <;> with_reducible rfl)⟩
   simp only [Act.put, List.setIfInBounds_toArray, List.set_cons_zero, List.set_cons_succ]
   refine wpAnyH_take (i := 5) (oi := ?_) (v := ?_) ?_ (by kernel_rfl) ?_ ?_ ?_ ?_ hHeld ?_
   rotate_left 2
   ·(simp only [List.getElem?_toArray, List.getElem?_cons_succ, List.getElem?_cons_zero]) <;> with_reducible rfl
   ·kernel_rfl
   ·kernel_rfl
   ·exact fun _ _ _ h => h
   ·exact Or.inl ⟨by rfl, by (intro w hSw; (try dsimp only at hSw); obtain ⟨b0, b1, b2, b3, b4, b5, b6⟩ := hSw; go_simp <;> with_reducible rfl)⟩
   simp only [Act.put, List.setIfInBounds_toArray, List.set_cons_zero, List.set_cons_succ]
   refine wpAnyH_take (i := 6) (oi := ?_) (v := ?_) ?_ (by kernel_rfl) ?_ ?_ ?_ ?_ hHeld ?_
   rotate_left 2
   ·(simp only [List.getElem?_toArray, List.getElem?_cons_succ, List.getElem?_cons_zero]) <;> with_reducible rfl
   ·kernel_rfl
   ·kernel_rfl
   ·exact fun _ _ _ h => h
   ·exact Or.inl ⟨by rfl, by (intro w hSw; (try dsimp only at hSw); obtain ⟨b0, b1, b2, b3, b4, b5, b6⟩ := hSw; go_simp <;> with_reducible rfl)⟩
   simp only [Act.put, List.setIfInBounds_toArray, List.set_cons_zero, List.set_cons_succ]
   refine wpAnyH_take (i := 7) (oi := ?_) (v := ?_) ?_ (by kernel_rfl) ?_ ?_ ?_ ?_ hHeld ?_
   rotate_left 2
   ·(simp only [List.getElem?_toArray, List.getElem?_cons_succ, List.getElem?_cons_zero]) <;> with_reducible rfl
   ·kernel_rfl
   ·kernel_rfl
   ·exact fun _ _ _ h => h
   ·exact Or.inl ⟨by rfl, by (intro w hSw; (try dsimp only at hSw); obtain ⟨b0, b1, b2, b3, b4, b5, b6⟩ := hSw; go_simp <;> with_reducible rfl)⟩
   simp only [Act.put, List.setIfInBounds_toArray, List.set_cons_zero, List.set_cons_succ]
   refine wpAnyH_take (i := 8) (oi := ?_) (v := ?_) ?_ (by kernel_rfl) ?_ ?_ ?_ ?_ hHeld ?_
   rotate_left 2
   ·(simp only [List.getElem?_toArray, List.getElem?_cons_succ, List.getElem?_cons_zero]) <;> with_reducible rfl
   ·kernel_rfl
   ·kernel_rfl
   ·exact fun _ _ _ h => h
   ·exact Or.inl ⟨by rfl, by (intro w hSw; (try dsimp only at hSw); obtain ⟨b0, b1, b2, b3, b4, b5, b6⟩ := hSw; go_simp <;> with_reducible rfl)⟩
   simp only [Act.put, List.setIfInBounds_toArray, List.set_cons_zero, List.set_cons_succ]
   refine wpAnyH_take (i := 9) (oi := ?_) (v := ?_) ?_ (by kernel_rfl) ?_ ?_ ?_ ?_ hHeld ?_
   rotate_left 2
   ·(simp only [List.getElem?_toArray, List.getElem?_cons_succ, List.getElem?_cons_zero]) <;> with_reducible rfl
   ·kernel_rfl
   ·kernel_rfl
   ·exact fun _ _ _ h => h
   ·exact Or.inl ⟨by rfl, by (intro w hSw; (try dsimp only at hSw); obtain ⟨b0, b1, b2, b3, b4, b5, b6⟩ := hSw; go_simp <;> with_reducible rfl)⟩
   simp only [Act.put, List.setIfInBounds_toArray, List.set_cons_zero, List.set_cons_succ]
   refine wpAnyH_take (i := 10) (oi := ?_) (v := ?_) ?_ (by kernel_rfl) ?_ ?_ ?_ ?_ hHeld ?_
   rotate_left 2
   ·(simp only [List.getElem?_toArray, List.getElem?_cons_succ, List.getElem?_cons_zero]) <;> with_reducible rfl
   ·kernel_rfl
   ·kernel_rfl
   ·exact fun _ _ _ h => h
   ·exact Or.inl ⟨by rfl, by (intro w hSw; (try dsimp only at hSw); obtain ⟨b0, b1, b2, b3, b4, b5, b6⟩ := hSw; go_simp <;> with_reducible rfl)⟩
   simp only [Act.put, List.setIfInBounds_toArray, List.set_cons_zero, List.set_cons_succ]
   refine wpAnyH_take (i := 11) (oi := ?_) (v := ?_) ?_ (by kernel_rfl) ?_ ?_ ?_ ?_ hHeld ?_
   rotate_left 2
   ·(simp only [List.getElem?_toArray, List.getElem?_cons_succ, List.getElem?_cons_zero]) <;> with_reducible rfl
   ·kernel_rfl
   ·kernel_rfl
   ·exact fun _ _ _ h => h
   ·exact Or.inl ⟨by rfl, by (intro w hSw; (try dsimp only at hSw); obtain ⟨b0, b1, b2, b3, b4, b5, b6⟩ := hSw; go_simp <;> with_reducible rfl)⟩
   simp only [Act.put, List.setIfInBounds_toArray, List.set_cons_zero, List.set_cons_succ]
   refine wpAnyH_ready (rs := [12]) (by kernel_rfl) (by simp) ?rda
   refine AllReadyH.cons (o := ?oa12) ?ha12 (fun K hK => ?ba12) AllReadyH.nil
   case ha12 => (simp only [List.getElem?_toArray, List.getElem?_cons_succ, List.getElem?_cons_zero]) <;> with_reducible rfl
   case ba12 =>
    obtain ⟨u, hu⟩ : ∃ u, u = D.alloc (.cells #[.int .i64 0, .int .i64 0, .string ⟨#[]⟩, .slice none 0 0, .slice none 0 0, .string ⟨#[]⟩] 112) := ⟨_, rfl⟩
    obtain ⟨Z, hZ⟩ : ∃ Z, Z = D.heap.size := ⟨_, rfl⟩
    have HBu : Hid (Below w1.heap.size w1 u) := by show Below _ _ _; rw [hu]; exact (unhide HBD).alloc (unhide HBD).size _
    have HZu : Hid (u.heap[Z]? = some (.cells #[.int .i64 0, .int .i64 0, .string ⟨#[]⟩, .slice none 0 0, .slice none 0 0, .string ⟨#[]⟩] 112 (0, 0))) := by show _ = _; rw [hu, hZ]; exact heap_alloc_new _ _
    have HZw : Hid (w1.heap.size ≤ Z) := by have := (unhide HBD).size; show _ ≤ _; omega
    go_simp
    rw [← hu, ← hZ]
    clear hu hZ
    refine hK.out _ _ (unhide HLC u (unhide HBu)) (fun hHeld => ?_)
    clear hK K
    try simp only [Act.put, List.setIfInBounds_toArray, List.set_cons_zero, List.set_cons_succ]
    refine wpAnyH_ready (rs := [13]) (by kernel_rfl) (by simp) ?rds
    refine AllReadyH.cons (o := ?os13) ?hs13 (fun K hK => ?bs13) AllReadyH.nil
    case hs13 => (simp only [List.getElem?_toArray, List.getElem?_cons_succ, List.getElem?_cons_zero]) <;> with_reducible rfl
    case bs13 =>
     obtain ⟨y0, y1, y2, y3, y4, y5⟩ : u.cell? ⟨Z, 0, none⟩ = some (.int .i64 0) ∧ u.cell? ⟨Z, 1, none⟩ = some (.int .i64 0) ∧ u.cell? ⟨Z, 2, none⟩ = some (.string ⟨#[]⟩) ∧ u.cell? ⟨Z, 3, none⟩ = some (.slice none 0 0) ∧ u.cell? ⟨Z, 4, none⟩ = some (.slice none 0 0) ∧ u.cell? ⟨Z, 5, none⟩ = some (.string ⟨#[]⟩) := ⟨cell_of_row u Z 0 _ _ _ (unhide HZu), cell_of_row u Z 1 _ _ _ (unhide HZu), cell_of_row u Z 2 _ _ _ (unhide HZu), cell_of_row u Z 3 _ _ _ (unhide HZu), cell_of_row u Z 4 _ _ _ (unhide HZu), cell_of_row u Z 5 _ _ _ (unhide HZu)⟩
     have yf := fun k => frozen_of_row u Z k _ _ (unhide HZu)
     obtain ⟨v, hv⟩ : ∃ v, v = ((((((u.setCell ⟨Z, 0, none⟩ (.int .i64 o.k)).setCell ⟨Z, 1, none⟩ (.int .i64 0)).setCell ⟨Z, 2, none⟩ (.string (str []))).setCell ⟨Z, 3, none⟩ (.slice a1 o.ns.length d1)).setCell ⟨Z, 4, none⟩ (.slice a2 o.is.length d2)).setCell ⟨Z, 5, none⟩ (.string (str o.nm))) := ⟨_, rfl⟩
     have mv : Mv u v Z := by rw [hv]; exact (((((Mv.set _ _ _ _).trans (Mv.set _ _ _ _)).trans (Mv.set _ _ _ _)).trans (Mv.set _ _ _ _)).trans (Mv.set _ _ _ _)).trans (Mv.set _ _ _ _)
     have HBv : Hid (Below w1.heap.size w1 v) := by
      have b := unhide HBu
      have hz := unhide HZw
      exact ⟨mv.os.trans b.os, mv.tape.trans b.tape, mv.output.trans b.output, Nat.le_trans b.size mv.size, fun k hk => (mv.block k (Nat.lt_of_lt_of_le hk b.size) (fun e => by have := Option.some.inj e; omega)).trans (b.block k hk)⟩
     have HRv : Hid (v.heap[Z]? = some (.cells #[.int .i64 o.k, .int .i64 0, .string (str []), .slice a1 o.ns.length d1, .slice a2 o.is.length d2, .string (str o.nm)] 112 (0, 0))) := by
      show _ = _; rw [hv]; exact heap_setCell_same _ _ _ _ _ _ (heap_setCell_same _ _ _ _ _ _ (heap_setCell_same _ _ _ _ _ _ (heap_setCell_same _ _ _ _ _ _ (heap_setCell_same _ _ _ _ _ _ (heap_setCell_same _ _ _ _ _ _ (unhide HZu))))))
     clear mv
     go_simp
     rw [← hv]
     clear hv y0 y1 y2 y3 y4 y5 yf
     refine hK.out _ _ (unhide HLC v (unhide HBv)) (fun hHeld => ?_)
     clear hK K hHeld
     try simp only [Act.put, List.setIfInBounds_toArray, List.set_cons_zero, List.set_cons_succ]
     refine wpAnyH_done (by kernel_rfl) ?_ _
     clear HBD HBu HZu
     have hPl : P < w1.heap.size := (unhide H).lt
     have hZP : Z ≠ P := by have := unhide HZw; omega
     clear hPl
     have H8 := hide ((unhide H).below (unhide HBv))
     obtain ⟨hc8, hf8⟩ := (unhide H8).cells
     have e0 := hc8 0 _ rfl
     have g0 := hf8 0
     obtain ⟨x0, x1, x2, x3, x4⟩ : v.cell? ⟨Z, 0, none⟩ = some (.int .i64 o.k) ∧ v.cell? ⟨Z, 1, none⟩ = some (.int .i64 0) ∧ v.cell? ⟨Z, 2, none⟩ = some (.string (str [])) ∧ v.cell? ⟨Z, 3, none⟩ = some (.slice a1 o.ns.length d1) ∧ v.cell? ⟨Z, 4, none⟩ = some (.slice a2 o.is.length d2) := ⟨cell_of_row v Z 0 _ _ _ (unhide HRv), cell_of_row v Z 1 _ _ _ (unhide HRv), cell_of_row v Z 2 _ _ _ (unhide HRv), cell_of_row v Z 3 _ _ _ (unhide HRv), cell_of_row v Z 4 _ _ _ (unhide HRv)⟩
     have HF : Hid (∀ s w', w' = v.setCell ⟨P, 0, none⟩ (.int .i64 ((s : Nat) : Int)) → Mp w1 g P base (0, { m with st := s }) (.returned (.int .i64 0)) w') := fun s w' e => by
      have mv : Mv v w' P := by rw [e]; exact Mv.set _ _ _ _
      have := (unhide H8).mv (m' := { m with st := s }) mv rfl rfl rfl rfl (by rw [e]; exact heap_setCell_same _ _ _ _ _ _ (unhide H8).row)
      exact ⟨g, rfl, fun _ => this.mb, ((Kq.ofB (unhide HBv)).trans (Kq.ofMv mv (unhide H8).tP)).mono (fun t ht => by omega)⟩
     have key : ∀ n : UInt8, ((c.toNat : Int) == (n.toNat : Int)) = (c == n) := fun n => by
      rw [Bool.eq_iff_iff]
      simp only [beq_iff_eq]
      exact ⟨fun h => UInt8.toNat_inj.1 (by omega), fun h => by rw [h]⟩
     have k44 : ((c.toNat : Int) == 44) = (c == 44) := key 44
     have k93 : ((c.toNat : Int) == 93) = (c == 93) := key 93
     have k125 : ((c.toNat : Int) == 125) = (c == 125) := key 125
     clear key hc8 hf8
     by_cases q44 : c = 44
     ·have t44 : ((c.toNat : Int) == 44) = true := by rw [k44]; simpa using q44
      by_cases q4 : o.k = 4
      ·have t4 : (o.k == 4) = true := by simpa using q4
       have HE2 : Hid (R = (0, { m with st := 0 })) := by show _ = _; rw [unhide HE, if_pos ⟨q44, q4⟩]
       clear q4 q44 k44 k93 k125 HE
       go_wp2_with fail
       go_ret
       show Mp _ g P base R _ _
       rw [unhide HE2]
       exact unhide HF 0 _ rfl
      ·have t4 : (o.k == 4) = false := by simpa using q4
       have HE2 : Hid (R = (0, { m with st := 2 })) := by show _ = _; rw [unhide HE, if_neg (fun h => q4 h.2), if_pos q44]
       clear q4 q44 k44 k93 k125 HE
       go_wp2_with fail
       go_ret
       show Mp _ g P base R _ _
       rw [unhide HE2]
       exact unhide HF 2 _ rfl
     ·have t44 : ((c.toNat : Int) == 44) = false := by rw [k44]; simpa using q44
      have HE1 : Hid (R = if (c = 93 ∧ o.k = 4) ∨ (c = 125 ∧ o.k = 5) then (0, doneM { m with l := l0 } o.v) else (40, m)) := by show _ = _; rw [unhide HE, if_neg (fun h => q44 h.1), if_neg q44]
      clear HE q44 k44
      by_cases q93 : c = 93
      ·have t93 : ((c.toNat : Int) == 93) = true := by rw [k93]; simpa using q93
       have t125 : ((c.toNat : Int) == 125) = false := by rw [q93]; rfl
       by_cases q4 : o.k = 4
       ·have t4 : (o.k == 4) = true := by simpa using q4
        have HE2 : Hid (R = (0, doneM { m with l := l0 } o.v)) := by show _ = _; rw [unhide HE1, if_pos (Or.inl ⟨q93, q4⟩)]
        clear q4 q93 k93 k125 HE1
        go_upto_region 13 with fail
        obtain ⟨E, hE⟩ : ∃ E, E = v.drew := ⟨_, rfl⟩
        have HBE : Hid (Below w1.heap.size w1 E) := by show Below _ _ _; rw [hE]; exact (unhide HBv).drew
        have HRE : Hid (E.heap[Z]? = some (.cells #[.int .i64 o.k, .int .i64 0, .string (str []), .slice a1 o.ns.length d1, .slice a2 o.is.length d2, .string (str o.nm)] 112 (0, 0))) := by show _ = _; rw [hE]; exact unhide HRv
        have y1 := (unhide HLC E (unhide HBE)).1
        have f1 := (((unhide H).below (unhide HBE)).cells).2 1
        have hcap : (i : Int) ≤ (lc : Int) := by have := (owns_cap (unhide H).lo).1; have := unhide HT; omega
        refine wp_region_held_drew (S := fun _ => True) (by kernel_rfl) (trivial) (fun hHeld => ?_)
        rw [← hE]
        clear hE x0 x1 x2 x3 x4 e0 g0
        refine wpAnyH_take (i := 0) (oi := ?_) (v := ?_) ?_ (by kernel_rfl) ?_ ?_ ?_ ?_ hHeld ?_
        rotate_left 2
        ·(simp only [List.getElem?_toArray, List.getElem?_cons_zero]) <;> with_reducible rfl
        ·kernel_rfl
        ·kernel_rfl
        ·exact fun _ _ _ h => h
        ·exact Or.inl ⟨by rfl, by (intro w hSw; (try dsimp only at hSw); skip; go_simp <;> with_reducible rfl)⟩
        simp only [Act.put, List.setIfInBounds_toArray, List.set_cons_zero, List.set_cons_succ]
        refine wpAnyH_take (i := 1) (oi := ?_) (v := ?_) ?_ (by kernel_rfl) ?_ ?_ ?_ ?_ hHeld ?_
        rotate_left 2
        ·(simp only [List.getElem?_toArray, List.getElem?_cons_succ, List.getElem?_cons_zero]) <;> with_reducible rfl
        ·kernel_rfl
        ·kernel_rfl
        ·exact fun _ _ _ h => h
        ·exact Or.inl ⟨by rfl, by (intro w hSw; (try dsimp only at hSw); skip; go_simp <;> with_reducible rfl)⟩
        simp only [Act.put, List.setIfInBounds_toArray, List.set_cons_zero, List.set_cons_succ]
        refine wpAnyH_take (i := 2) (oi := ?_) (v := ?_) ?_ (by kernel_rfl) ?_ ?_ ?_ ?_ hHeld ?_
        rotate_left 2
        ·(simp only [List.getElem?_toArray, List.getElem?_cons_succ, List.getElem?_cons_zero]) <;> with_reducible rfl
        ·kernel_rfl
        ·kernel_rfl
        ·exact fun _ _ _ h => h
        ·exact Or.inl ⟨by rfl, by (intro w hSw; (try dsimp only at hSw); skip; go_simp <;> with_reducible rfl)⟩
        simp only [Act.put, List.setIfInBounds_toArray, List.set_cons_zero, List.set_cons_succ]
        refine wpAnyH_take (i := 3) (oi := ?_) (v := ?_) ?_ (by kernel_rfl) ?_ ?_ ?_ ?_ hHeld ?_
        rotate_left 2
        ·(simp only [List.getElem?_toArray, List.getElem?_cons_succ, List.getElem?_cons_zero]) <;> with_reducible rfl
        ·kernel_rfl
        ·kernel_rfl
        ·exact fun _ _ _ h => h
        ·exact Or.inl ⟨by rfl, by (intro w hSw; (try dsimp only at hSw); skip; go_simp <;> with_reducible rfl)⟩
        simp only [Act.put, List.setIfInBounds_toArray, List.set_cons_zero, List.set_cons_succ]
        refine wpAnyH_take (i := 5) (oi := ?_) (v := ?_) ?_ (by kernel_rfl) ?_ ?_ ?_ ?_ hHeld ?_
        rotate_left 2
        ·(simp only [List.getElem?_toArray, List.getElem?_cons_succ, List.getElem?_cons_zero]) <;> with_reducible rfl
        ·kernel_rfl
        ·kernel_rfl
        ·exact fun _ _ _ h => h
        ·exact Or.inl ⟨by rfl, by (intro w hSw; (try dsimp only at hSw); skip; go_simp <;> with_reducible rfl)⟩
        simp only [Act.put, List.setIfInBounds_toArray, List.set_cons_zero, List.set_cons_succ]
        refine wpAnyH_take (i := 6) (oi := ?_) (v := ?_) ?_ (by kernel_rfl) ?_ ?_ ?_ ?_ hHeld ?_
        rotate_left 2
        ·(simp only [List.getElem?_toArray, List.getElem?_cons_succ, List.getElem?_cons_zero]) <;> with_reducible rfl
        ·kernel_rfl
        ·kernel_rfl
        ·exact fun _ _ _ h => h
        ·exact Or.inl ⟨by rfl, by (intro w hSw; (try dsimp only at hSw); skip; go_simp <;> with_reducible rfl)⟩
        simp only [Act.put, List.setIfInBounds_toArray, List.set_cons_zero, List.set_cons_succ]
        refine wpAnyH_take (i := 7) (oi := ?_) (v := ?_) ?_ (by kernel_rfl) ?_ ?_ ?_ ?_ hHeld ?_
        rotate_left 2
        ·(simp only [List.getElem?_toArray, List.getElem?_cons_succ, List.getElem?_cons_zero]) <;> with_reducible rfl
        ·kernel_rfl
        ·kernel_rfl
        ·exact fun _ _ _ h => h
        ·exact Or.inl ⟨by rfl, by (intro w hSw; (try dsimp only at hSw); skip; go_simp <;> with_reducible rfl)⟩
        simp only [Act.put, List.setIfInBounds_toArray, List.set_cons_zero, List.set_cons_succ]
        refine wpAnyH_ready (rs := [4, 8]) (by kernel_rfl) (by simp) ?rdpl
        refine AllReadyH.cons (o := ?opl4) ?hpl4 (fun K hK => ?bpl4) (AllReadyH.cons (o := ?opl8) ?hpl8 (fun K hK => ?bpl8) AllReadyH.nil)
        case hpl4 => (simp only [List.getElem?_toArray, List.getElem?_cons_succ, List.getElem?_cons_zero]) <;> with_reducible rfl
        case hpl8 => (simp only [List.getElem?_toArray, List.getElem?_cons_succ, List.getElem?_cons_zero]) <;> with_reducible rfl
        case bpl4 =>
         go_simp
         refine hK.out _ _ trivial (fun hHeld => ?_)
         clear hK K
         try simp only [Act.put, List.setIfInBounds_toArray, List.set_cons_zero, List.set_cons_succ]
         refine wpAnyH_ready (rs := [8]) (by kernel_rfl) (by simp) ?rdpm4
         refine AllReadyH.cons (o := ?opm48) ?hpm48 (fun K hK => ?bpm48) AllReadyH.nil
         case hpm48 => (simp only [List.getElem?_toArray, List.getElem?_cons_succ, List.getElem?_cons_zero]) <;> with_reducible rfl
         case bpm48 =>
          go_simp
          refine hK.out _ _ trivial (fun hHeld => ?_)
          clear hK K
          try simp only [Act.put, List.setIfInBounds_toArray, List.set_cons_zero, List.set_cons_succ]
          refine wpAnyH_take (i := 9) (oi := ?_) (v := ?_) ?_ (by kernel_rfl) ?_ ?_ ?_ ?_ hHeld ?_
          rotate_left 2
          ·(simp only [List.getElem?_toArray, List.getElem?_cons_succ, List.getElem?_cons_zero]) <;> with_reducible rfl
          ·kernel_rfl
          ·kernel_rfl
          ·exact fun _ _ _ h => h
          ·exact Or.inl ⟨by rfl, by (intro w hSw; (try dsimp only at hSw); skip; go_simp <;> with_reducible rfl)⟩
          simp only [Act.put, List.setIfInBounds_toArray, List.set_cons_zero, List.set_cons_succ]
          refine wpAnyH_take (i := 10) (oi := ?_) (v := ?_) ?_ (by kernel_rfl) ?_ ?_ ?_ ?_ hHeld ?_
          rotate_left 2
          ·(simp only [List.getElem?_toArray, List.getElem?_cons_succ, List.getElem?_cons_zero]) <;> with_reducible rfl
          ·kernel_rfl
          ·kernel_rfl
          ·exact fun _ _ _ h => h
          ·exact Or.inl ⟨by rfl, by (intro w hSw; (try dsimp only at hSw); skip; go_simp <;> with_reducible rfl)⟩
          simp only [Act.put, List.setIfInBounds_toArray, List.set_cons_zero, List.set_cons_succ]
          refine wpAnyH_take (i := 11) (oi := ?_) (v := ?_) ?_ (by kernel_rfl) ?_ ?_ ?_ ?_ hHeld ?_
          rotate_left 2
          ·(simp only [List.getElem?_toArray, List.getElem?_cons_succ, List.getElem?_cons_zero]) <;> with_reducible rfl
          ·kernel_rfl
          ·kernel_rfl
          ·exact fun _ _ _ h => h
          ·exact Or.inl ⟨by rfl, by (intro w hSw; (try dsimp only at hSw); skip; go_simp <;> with_reducible rfl)⟩
          simp only [Act.put, List.setIfInBounds_toArray, List.set_cons_zero, List.set_cons_succ]
          refine wpAnyH_ready (rs := [12]) (by kernel_rfl) (by simp) ?rdpr4v12v
          refine AllReadyH.cons (o := ?opr4v12v12) ?hpr4v12v12 (fun K hK => ?bpr4v12v12) AllReadyH.nil
          case hpr4v12v12 => (simp only [List.getElem?_toArray, List.getElem?_cons_succ, List.getElem?_cons_zero]) <;> with_reducible rfl
          case bpr4v12v12 =>
           go_simp
           refine hK.out _ _ trivial (fun hHeld => ?_)
           clear hK K
           try simp only [Act.put, List.setIfInBounds_toArray, List.set_cons_zero, List.set_cons_succ]
           refine wpAnyH_ready (rs := [13]) (by kernel_rfl) (by simp) ?rdpr4v13v
           refine AllReadyH.cons (o := ?opr4v13v13) ?hpr4v13v13 (fun K hK => ?bpr4v13v13) AllReadyH.nil
           case hpr4v13v13 => (simp only [List.getElem?_toArray, List.getElem?_cons_succ, List.getElem?_cons_zero]) <;> with_reducible rfl
           case bpr4v13v13 =>
            go_simp
            refine hK.out _ _ trivial (fun hHeld => ?_)
            clear hK K
            try simp only [Act.put, List.setIfInBounds_toArray, List.set_cons_zero, List.set_cons_succ]
            refine wpAnyH_ready (rs := [14]) (by kernel_rfl) (by simp) ?rdpr4
            refine AllReadyH.cons (o := ?opr414) ?hpr414 (fun K hK => ?bpr414) AllReadyH.nil
            case hpr414 => (simp only [List.getElem?_toArray, List.getElem?_cons_succ, List.getElem?_cons_zero]) <;> with_reducible rfl
            case bpr414 =>
             obtain ⟨w6, h6⟩ : ∃ w6, w6 = E.setCell ⟨P, 1, none⟩ (.slice (some ⟨L, 0, none⟩) i lc) := ⟨_, rfl⟩
             have mv : Mv E w6 P := by rw [h6]; exact Mv.set _ _ _ _
             have HE6 := hide ((unhide H).below (unhide HBE))
             obtain ⟨p1, p2⟩ := MS.pop (unhide HE6) (unhide HLO) (w' := w6) mv (by rw [h6, unhide HI]; exact heap_setCell_same _ _ _ _ _ _ (unhide HE6).row)
             rw [← unhide HI] at p1 p2
             have r6 := (mv.block Z (Array.getElem?_eq_some_iff.1 (unhide HRE)).1 (fun e => hZP (Option.some.inj e))).trans (unhide HRE)
             obtain ⟨x0, x1, x2, x3, x4⟩ : w6.cell? ⟨Z, 0, none⟩ = some (.int .i64 o.k) ∧ w6.cell? ⟨Z, 1, none⟩ = some (.int .i64 0) ∧ w6.cell? ⟨Z, 2, none⟩ = some (.string (str [])) ∧ w6.cell? ⟨Z, 3, none⟩ = some (.slice a1 o.ns.length d1) ∧ w6.cell? ⟨Z, 4, none⟩ = some (.slice a2 o.is.length d2) := ⟨cell_of_row w6 Z 0 _ _ _ r6, cell_of_row w6 Z 1 _ _ _ r6, cell_of_row w6 Z 2 _ _ _ r6, cell_of_row w6 Z 3 _ _ _ r6, cell_of_row w6 Z 4 _ _ _ r6⟩
             have tP : popG g i P = 1 := p1.tP
             have K6 : Kq w1 w6 (popG g i) (popG g i) (· ≠ 1) := (Kq.ofB (unhide HBE)).trans (Kq.ofMv mv tP)
             have j6 := jv_kq K6 (by omega) (op_jv (unhide HT0) (unhide HJ0) (unhide HT1) (unhide HT2) (unhide HE0))
             have HK6 : Hid (Kq w1 w6 g (popG g i) (· = 5)) := ((Kq.ofB (unhide HBE)).trans p2).mono (fun t ht => by omega)
             have HDn := hide (rdone_any base N hN o.v o.k 0 [] a1 o.ns.length d1 a2 o.is.length d2 w6 (popG g i) P { m with l := l0 } p1.mb j6 (Nat.le_trans (unhide HBS) K6.size) (fun q hq => unhide HOS q (by rw [unhide HLO]; exact List.mem_append_left _ hq)) (by show l0.length ≤ 16; have := unhide HI; omega))
             clear p1 p2 r6 tP K6 j6 mv
             go_simp
             rw [← h6]
             clear h6 y1 f1
             refine hK.out _ _ trivial (fun hHeld => ?_)
             clear hK K
             try simp only [Act.put, List.setIfInBounds_toArray, List.set_cons_zero, List.set_cons_succ]
             refine wpAnyH_done (by kernel_rfl) ?_ _
             go_wp2_with fail
             refine (unhide HDn).mono ?_
             rintro e w9 ⟨g9, rfl, hm9, hk9⟩
             have HM9 := hide hm9
             have HK9 := hide hk9
             clear hm9 hk9
             go_wp2_with fail
             go_ret
             show Mp _ g P base R _ _
             rw [unhide HE2]
             exact ⟨g9, rfl, fun _ => unhide HM9, (unhide HK6).trans (unhide HK9)⟩
        case bpl8 =>
         go_simp
         refine hK.out _ _ trivial (fun hHeld => ?_)
         clear hK K
         try simp only [Act.put, List.setIfInBounds_toArray, List.set_cons_zero, List.set_cons_succ]
         refine wpAnyH_take (i := 9) (oi := ?_) (v := ?_) ?_ (by kernel_rfl) ?_ ?_ ?_ ?_ hHeld ?_
         rotate_left 2
         ·(simp only [List.getElem?_toArray, List.getElem?_cons_succ, List.getElem?_cons_zero]) <;> with_reducible rfl
         ·kernel_rfl
         ·kernel_rfl
         ·exact fun _ _ _ h => h
         ·exact Or.inl ⟨by rfl, by (intro w hSw; (try dsimp only at hSw); skip; go_simp <;> with_reducible rfl)⟩
         simp only [Act.put, List.setIfInBounds_toArray, List.set_cons_zero, List.set_cons_succ]
         refine wpAnyH_take (i := 10) (oi := ?_) (v := ?_) ?_ (by kernel_rfl) ?_ ?_ ?_ ?_ hHeld ?_
         rotate_left 2
         ·(simp only [List.getElem?_toArray, List.getElem?_cons_succ, List.getElem?_cons_zero]) <;> with_reducible rfl
         ·kernel_rfl
         ·kernel_rfl
         ·exact fun _ _ _ h => h
         ·exact Or.inl ⟨by rfl, by (intro w hSw; (try dsimp only at hSw); skip; go_simp <;> with_reducible rfl)⟩
         simp only [Act.put, List.setIfInBounds_toArray, List.set_cons_zero, List.set_cons_succ]
         refine wpAnyH_ready (rs := [4]) (by kernel_rfl) (by simp) ?rdpm8
         refine AllReadyH.cons (o := ?opm84) ?hpm84 (fun K hK => ?bpm84) AllReadyH.nil
         case hpm84 => (simp only [List.getElem?_toArray, List.getElem?_cons_succ, List.getElem?_cons_zero]) <;> with_reducible rfl
         case bpm84 =>
          go_simp
          refine hK.out _ _ trivial (fun hHeld => ?_)
          clear hK K
          try simp only [Act.put, List.setIfInBounds_toArray, List.set_cons_zero, List.set_cons_succ]
          refine wpAnyH_take (i := 11) (oi := ?_) (v := ?_) ?_ (by kernel_rfl) ?_ ?_ ?_ ?_ hHeld ?_
          rotate_left 2
          ·(simp only [List.getElem?_toArray, List.getElem?_cons_succ, List.getElem?_cons_zero]) <;> with_reducible rfl
          ·kernel_rfl
          ·kernel_rfl
          ·exact fun _ _ _ h => h
          ·exact Or.inl ⟨by rfl, by (intro w hSw; (try dsimp only at hSw); skip; go_simp <;> with_reducible rfl)⟩
          simp only [Act.put, List.setIfInBounds_toArray, List.set_cons_zero, List.set_cons_succ]
          refine wpAnyH_ready (rs := [12]) (by kernel_rfl) (by simp) ?rdpr8v12v
          refine AllReadyH.cons (o := ?opr8v12v12) ?hpr8v12v12 (fun K hK => ?bpr8v12v12) AllReadyH.nil
          case hpr8v12v12 => (simp only [List.getElem?_toArray, List.getElem?_cons_succ, List.getElem?_cons_zero]) <;> with_reducible rfl
          case bpr8v12v12 =>
           go_simp
           refine hK.out _ _ trivial (fun hHeld => ?_)
           clear hK K
           try simp only [Act.put, List.setIfInBounds_toArray, List.set_cons_zero, List.set_cons_succ]
           refine wpAnyH_ready (rs := [13]) (by kernel_rfl) (by simp) ?rdpr8v13v
           refine AllReadyH.cons (o := ?opr8v13v13) ?hpr8v13v13 (fun K hK => ?bpr8v13v13) AllReadyH.nil
           case hpr8v13v13 => (simp only [List.getElem?_toArray, List.getElem?_cons_succ, List.getElem?_cons_zero]) <;> with_reducible rfl
           case bpr8v13v13 =>
            go_simp
            refine hK.out _ _ trivial (fun hHeld => ?_)
            clear hK K
            try simp only [Act.put, List.setIfInBounds_toArray, List.set_cons_zero, List.set_cons_succ]
            refine wpAnyH_ready (rs := [14]) (by kernel_rfl) (by simp) ?rdpr8
            refine AllReadyH.cons (o := ?opr814) ?hpr814 (fun K hK => ?bpr814) AllReadyH.nil
            case hpr814 => (simp only [List.getElem?_toArray, List.getElem?_cons_succ, List.getElem?_cons_zero]) <;> with_reducible rfl
            case bpr814 =>
             obtain ⟨w6, h6⟩ : ∃ w6, w6 = E.setCell ⟨P, 1, none⟩ (.slice (some ⟨L, 0, none⟩) i lc) := ⟨_, rfl⟩
             have mv : Mv E w6 P := by rw [h6]; exact Mv.set _ _ _ _
             have HE6 := hide ((unhide H).below (unhide HBE))
             obtain ⟨p1, p2⟩ := MS.pop (unhide HE6) (unhide HLO) (w' := w6) mv (by rw [h6, unhide HI]; exact heap_setCell_same _ _ _ _ _ _ (unhide HE6).row)
             rw [← unhide HI] at p1 p2
             have r6 := (mv.block Z (Array.getElem?_eq_some_iff.1 (unhide HRE)).1 (fun e => hZP (Option.some.inj e))).trans (unhide HRE)
             obtain ⟨x0, x1, x2, x3, x4⟩ : w6.cell? ⟨Z, 0, none⟩ = some (.int .i64 o.k) ∧ w6.cell? ⟨Z, 1, none⟩ = some (.int .i64 0) ∧ w6.cell? ⟨Z, 2, none⟩ = some (.string (str [])) ∧ w6.cell? ⟨Z, 3, none⟩ = some (.slice a1 o.ns.length d1) ∧ w6.cell? ⟨Z, 4, none⟩ = some (.slice a2 o.is.length d2) := ⟨cell_of_row w6 Z 0 _ _ _ r6, cell_of_row w6 Z 1 _ _ _ r6, cell_of_row w6 Z 2 _ _ _ r6, cell_of_row w6 Z 3 _ _ _ r6, cell_of_row w6 Z 4 _ _ _ r6⟩
             have tP : popG g i P = 1 := p1.tP
             have K6 : Kq w1 w6 (popG g i) (popG g i) (· ≠ 1) := (Kq.ofB (unhide HBE)).trans (Kq.ofMv mv tP)
             have j6 := jv_kq K6 (by omega) (op_jv (unhide HT0) (unhide HJ0) (unhide HT1) (unhide HT2) (unhide HE0))
             have HK6 : Hid (Kq w1 w6 g (popG g i) (· = 5)) := ((Kq.ofB (unhide HBE)).trans p2).mono (fun t ht => by omega)
             have HDn := hide (rdone_any base N hN o.v o.k 0 [] a1 o.ns.length d1 a2 o.is.length d2 w6 (popG g i) P { m with l := l0 } p1.mb j6 (Nat.le_trans (unhide HBS) K6.size) (fun q hq => unhide HOS q (by rw [unhide HLO]; exact List.mem_append_left _ hq)) (by show l0.length ≤ 16; have := unhide HI; omega))
             clear p1 p2 r6 tP K6 j6 mv
             go_simp
             rw [← h6]
             clear h6 y1 f1
             refine hK.out _ _ trivial (fun hHeld => ?_)
             clear hK K
             try simp only [Act.put, List.setIfInBounds_toArray, List.set_cons_zero, List.set_cons_succ]
             refine wpAnyH_done (by kernel_rfl) ?_ _
             go_wp2_with fail
             refine (unhide HDn).mono ?_
             rintro e w9 ⟨g9, rfl, hm9, hk9⟩
             have HM9 := hide hm9
             have HK9 := hide hk9
             clear hm9 hk9
             go_wp2_with fail
             go_ret
             show Mp _ g P base R _ _
             rw [unhide HE2]
             exact ⟨g9, rfl, fun _ => unhide HM9, (unhide HK6).trans (unhide HK9)⟩
       ·have t4 : (o.k == 4) = false := by simpa using q4
        have HE2 : Hid (R = (40, m)) := by show _ = _; rw [unhide HE1, if_neg (fun h => h.elim (fun h => q4 h.2) (fun h => absurd (q93.symm.trans h.1) (by decide)))]
        clear q4 q93 k93 k125 HE1
        go_wp2_with fail
        go_ret
        show Mp _ g P base R _ _
        rw [unhide HE2]
        exact ⟨g, rfl, fun (e : 40 = 0) => absurd e (by decide), Kq.ofB (unhide HBv)⟩
      ·have t93 : ((c.toNat : Int) == 93) = false := by rw [k93]; simpa using q93
       by_cases q125 : c = 125
       ·have t125 : ((c.toNat : Int) == 125) = true := by rw [k125]; simpa using q125
        by_cases q5 : o.k = 5
        ·have t5 : (o.k == 5) = true := by simpa using q5
         have HE2 : Hid (R = (0, doneM { m with l := l0 } o.v)) := by show _ = _; rw [unhide HE1, if_pos (Or.inr ⟨q125, q5⟩)]
         clear q5 q93 q125 k93 k125 HE1
         go_upto_region 13 with fail
         obtain ⟨E, hE⟩ : ∃ E, E = v.drew := ⟨_, rfl⟩
         have HBE : Hid (Below w1.heap.size w1 E) := by show Below _ _ _; rw [hE]; exact (unhide HBv).drew
         have HRE : Hid (E.heap[Z]? = some (.cells #[.int .i64 o.k, .int .i64 0, .string (str []), .slice a1 o.ns.length d1, .slice a2 o.is.length d2, .string (str o.nm)] 112 (0, 0))) := by show _ = _; rw [hE]; exact unhide HRv
         have y1 := (unhide HLC E (unhide HBE)).1
         have f1 := (((unhide H).below (unhide HBE)).cells).2 1
         have hcap : (i : Int) ≤ (lc : Int) := by have := (owns_cap (unhide H).lo).1; have := unhide HT; omega
         refine wp_region_held_drew (S := fun _ => True) (by kernel_rfl) (trivial) (fun hHeld => ?_)
         rw [← hE]
         clear hE x0 x1 x2 x3 x4 e0 g0
         refine wpAnyH_take (i := 0) (oi := ?_) (v := ?_) ?_ (by kernel_rfl) ?_ ?_ ?_ ?_ hHeld ?_
         rotate_left 2
         ·(simp only [List.getElem?_toArray, List.getElem?_cons_zero]) <;> with_reducible rfl
         ·kernel_rfl
         ·kernel_rfl
         ·exact fun _ _ _ h => h
         ·exact Or.inl ⟨by rfl, by (intro w hSw; (try dsimp only at hSw); skip; go_simp <;> with_reducible rfl)⟩
         simp only [Act.put, List.setIfInBounds_toArray, List.set_cons_zero, List.set_cons_succ]
         refine wpAnyH_take (i := 1) (oi := ?_) (v := ?_) ?_ (by kernel_rfl) ?_ ?_ ?_ ?_ hHeld ?_
         rotate_left 2
         ·(simp only [List.getElem?_toArray, List.getElem?_cons_succ, List.getElem?_cons_zero]) <;> with_reducible rfl
         ·kernel_rfl
         ·kernel_rfl
         ·exact fun _ _ _ h => h
         ·exact Or.inl ⟨by rfl, by (intro w hSw; (try dsimp only at hSw); skip; go_simp <;> with_reducible rfl)⟩
         simp only [Act.put, List.setIfInBounds_toArray, List.set_cons_zero, List.set_cons_succ]
         refine wpAnyH_take (i := 2) (oi := ?_) (v := ?_) ?_ (by kernel_rfl) ?_ ?_ ?_ ?_ hHeld ?_
         rotate_left 2
         ·(simp only [List.getElem?_toArray, List.getElem?_cons_succ, List.getElem?_cons_zero]) <;> with_reducible rfl
         ·kernel_rfl
         ·kernel_rfl
         ·exact fun _ _ _ h => h
         ·exact Or.inl ⟨by rfl, by (intro w hSw; (try dsimp only at hSw); skip; go_simp <;> with_reducible rfl)⟩
         simp only [Act.put, List.setIfInBounds_toArray, List.set_cons_zero, List.set_cons_succ]
         refine wpAnyH_take (i := 3) (oi := ?_) (v := ?_) ?_ (by kernel_rfl) ?_ ?_ ?_ ?_ hHeld ?_
         rotate_left 2
         ·(simp only [List.getElem?_toArray, List.getElem?_cons_succ, List.getElem?_cons_zero]) <;> with_reducible rfl
         ·kernel_rfl
         ·kernel_rfl
         ·exact fun _ _ _ h => h
         ·exact Or.inl ⟨by rfl, by (intro w hSw; (try dsimp only at hSw); skip; go_simp <;> with_reducible rfl)⟩
         simp only [Act.put, List.setIfInBounds_toArray, List.set_cons_zero, List.set_cons_succ]
         refine wpAnyH_take (i := 5) (oi := ?_) (v := ?_) ?_ (by kernel_rfl) ?_ ?_ ?_ ?_ hHeld ?_
         rotate_left 2
         ·(simp only [List.getElem?_toArray, List.getElem?_cons_succ, List.getElem?_cons_zero]) <;> with_reducible rfl
         ·kernel_rfl
         ·kernel_rfl
         ·exact fun _ _ _ h => h
         ·exact Or.inl ⟨by rfl, by (intro w hSw; (try dsimp only at hSw); skip; go_simp <;> with_reducible rfl)⟩
         simp only [Act.put, List.setIfInBounds_toArray, List.set_cons_zero, List.set_cons_succ]
         refine wpAnyH_take (i := 6) (oi := ?_) (v := ?_) ?_ (by kernel_rfl) ?_ ?_ ?_ ?_ hHeld ?_
         rotate_left 2
         ·(simp only [List.getElem?_toArray, List.getElem?_cons_succ, List.getElem?_cons_zero]) <;> with_reducible rfl
         ·kernel_rfl
         ·kernel_rfl
         ·exact fun _ _ _ h => h
         ·exact Or.inl ⟨by rfl, by (intro w hSw; (try dsimp only at hSw); skip; go_simp <;> with_reducible rfl)⟩
         simp only [Act.put, List.setIfInBounds_toArray, List.set_cons_zero, List.set_cons_succ]
         refine wpAnyH_take (i := 7) (oi := ?_) (v := ?_) ?_ (by kernel_rfl) ?_ ?_ ?_ ?_ hHeld ?_
         rotate_left 2
         ·(simp only [List.getElem?_toArray, List.getElem?_cons_succ, List.getElem?_cons_zero]) <;> with_reducible rfl
         ·kernel_rfl
         ·kernel_rfl
         ·exact fun _ _ _ h => h
         ·exact Or.inl ⟨by rfl, by (intro w hSw; (try dsimp only at hSw); skip; go_simp <;> with_reducible rfl)⟩
         simp only [Act.put, List.setIfInBounds_toArray, List.set_cons_zero, List.set_cons_succ]
         refine wpAnyH_ready (rs := [4, 8]) (by kernel_rfl) (by simp) ?rdql
         refine AllReadyH.cons (o := ?oql4) ?hql4 (fun K hK => ?bql4) (AllReadyH.cons (o := ?oql8) ?hql8 (fun K hK => ?bql8) AllReadyH.nil)
         case hql4 => (simp only [List.getElem?_toArray, List.getElem?_cons_succ, List.getElem?_cons_zero]) <;> with_reducible rfl
         case hql8 => (simp only [List.getElem?_toArray, List.getElem?_cons_succ, List.getElem?_cons_zero]) <;> with_reducible rfl
         case bql4 =>
          go_simp
          refine hK.out _ _ trivial (fun hHeld => ?_)
          clear hK K
          try simp only [Act.put, List.setIfInBounds_toArray, List.set_cons_zero, List.set_cons_succ]
          refine wpAnyH_ready (rs := [8]) (by kernel_rfl) (by simp) ?rdqm4
          refine AllReadyH.cons (o := ?oqm48) ?hqm48 (fun K hK => ?bqm48) AllReadyH.nil
          case hqm48 => (simp only [List.getElem?_toArray, List.getElem?_cons_succ, List.getElem?_cons_zero]) <;> with_reducible rfl
          case bqm48 =>
           go_simp
           refine hK.out _ _ trivial (fun hHeld => ?_)
           clear hK K
           try simp only [Act.put, List.setIfInBounds_toArray, List.set_cons_zero, List.set_cons_succ]
           refine wpAnyH_take (i := 9) (oi := ?_) (v := ?_) ?_ (by kernel_rfl) ?_ ?_ ?_ ?_ hHeld ?_
           rotate_left 2
           ·(simp only [List.getElem?_toArray, List.getElem?_cons_succ, List.getElem?_cons_zero]) <;> with_reducible rfl
           ·kernel_rfl
           ·kernel_rfl
           ·exact fun _ _ _ h => h
           ·exact Or.inl ⟨by rfl, by (intro w hSw; (try dsimp only at hSw); skip; go_simp <;> with_reducible rfl)⟩
           simp only [Act.put, List.setIfInBounds_toArray, List.set_cons_zero, List.set_cons_succ]
           refine wpAnyH_take (i := 10) (oi := ?_) (v := ?_) ?_ (by kernel_rfl) ?_ ?_ ?_ ?_ hHeld ?_
           rotate_left 2
           ·(simp only [List.getElem?_toArray, List.getElem?_cons_succ, List.getElem?_cons_zero]) <;> with_reducible rfl
           ·kernel_rfl
           ·kernel_rfl
           ·exact fun _ _ _ h => h
           ·exact Or.inl ⟨by rfl, by (intro w hSw; (try dsimp only at hSw); skip; go_simp <;> with_reducible rfl)⟩
           simp only [Act.put, List.setIfInBounds_toArray, List.set_cons_zero, List.set_cons_succ]
           refine wpAnyH_take (i := 11) (oi := ?_) (v := ?_) ?_ (by kernel_rfl) ?_ ?_ ?_ ?_ hHeld ?_
           rotate_left 2
           ·(simp only [List.getElem?_toArray, List.getElem?_cons_succ, List.getElem?_cons_zero]) <;> with_reducible rfl
           ·kernel_rfl
           ·kernel_rfl
           ·exact fun _ _ _ h => h
           ·exact Or.inl ⟨by rfl, by (intro w hSw; (try dsimp only at hSw); skip; go_simp <;> with_reducible rfl)⟩
           simp only [Act.put, List.setIfInBounds_toArray, List.set_cons_zero, List.set_cons_succ]
           refine wpAnyH_ready (rs := [12]) (by kernel_rfl) (by simp) ?rdqr4v12v
           refine AllReadyH.cons (o := ?oqr4v12v12) ?hqr4v12v12 (fun K hK => ?bqr4v12v12) AllReadyH.nil
           case hqr4v12v12 => (simp only [List.getElem?_toArray, List.getElem?_cons_succ, List.getElem?_cons_zero]) <;> with_reducible rfl
           case bqr4v12v12 =>
            go_simp
            refine hK.out _ _ trivial (fun hHeld => ?_)
            clear hK K
            try simp only [Act.put, List.setIfInBounds_toArray, List.set_cons_zero, List.set_cons_succ]
            refine wpAnyH_ready (rs := [13]) (by kernel_rfl) (by simp) ?rdqr4v13v
            refine AllReadyH.cons (o := ?oqr4v13v13) ?hqr4v13v13 (fun K hK => ?bqr4v13v13) AllReadyH.nil
            case hqr4v13v13 => (simp only [List.getElem?_toArray, List.getElem?_cons_succ, List.getElem?_cons_zero]) <;> with_reducible rfl
            case bqr4v13v13 =>
             go_simp
             refine hK.out _ _ trivial (fun hHeld => ?_)
             clear hK K
             try simp only [Act.put, List.setIfInBounds_toArray, List.set_cons_zero, List.set_cons_succ]
             refine wpAnyH_ready (rs := [14]) (by kernel_rfl) (by simp) ?rdqr4
             refine AllReadyH.cons (o := ?oqr414) ?hqr414 (fun K hK => ?bqr414) AllReadyH.nil
             case hqr414 => (simp only [List.getElem?_toArray, List.getElem?_cons_succ, List.getElem?_cons_zero]) <;> with_reducible rfl
             case bqr414 =>
              obtain ⟨w6, h6⟩ : ∃ w6, w6 = E.setCell ⟨P, 1, none⟩ (.slice (some ⟨L, 0, none⟩) i lc) := ⟨_, rfl⟩
              have mv : Mv E w6 P := by rw [h6]; exact Mv.set _ _ _ _
              have HE6 := hide ((unhide H).below (unhide HBE))
              obtain ⟨p1, p2⟩ := MS.pop (unhide HE6) (unhide HLO) (w' := w6) mv (by rw [h6, unhide HI]; exact heap_setCell_same _ _ _ _ _ _ (unhide HE6).row)
              rw [← unhide HI] at p1 p2
              have r6 := (mv.block Z (Array.getElem?_eq_some_iff.1 (unhide HRE)).1 (fun e => hZP (Option.some.inj e))).trans (unhide HRE)
              obtain ⟨x0, x1, x2, x3, x4⟩ : w6.cell? ⟨Z, 0, none⟩ = some (.int .i64 o.k) ∧ w6.cell? ⟨Z, 1, none⟩ = some (.int .i64 0) ∧ w6.cell? ⟨Z, 2, none⟩ = some (.string (str [])) ∧ w6.cell? ⟨Z, 3, none⟩ = some (.slice a1 o.ns.length d1) ∧ w6.cell? ⟨Z, 4, none⟩ = some (.slice a2 o.is.length d2) := ⟨cell_of_row w6 Z 0 _ _ _ r6, cell_of_row w6 Z 1 _ _ _ r6, cell_of_row w6 Z 2 _ _ _ r6, cell_of_row w6 Z 3 _ _ _ r6, cell_of_row w6 Z 4 _ _ _ r6⟩
              have tP : popG g i P = 1 := p1.tP
              have K6 : Kq w1 w6 (popG g i) (popG g i) (· ≠ 1) := (Kq.ofB (unhide HBE)).trans (Kq.ofMv mv tP)
              have j6 := jv_kq K6 (by omega) (op_jv (unhide HT0) (unhide HJ0) (unhide HT1) (unhide HT2) (unhide HE0))
              have HK6 : Hid (Kq w1 w6 g (popG g i) (· = 5)) := ((Kq.ofB (unhide HBE)).trans p2).mono (fun t ht => by omega)
              have HDn := hide (rdone_any base N hN o.v o.k 0 [] a1 o.ns.length d1 a2 o.is.length d2 w6 (popG g i) P { m with l := l0 } p1.mb j6 (Nat.le_trans (unhide HBS) K6.size) (fun q hq => unhide HOS q (by rw [unhide HLO]; exact List.mem_append_left _ hq)) (by show l0.length ≤ 16; have := unhide HI; omega))
              clear p1 p2 r6 tP K6 j6 mv
              go_simp
              rw [← h6]
              clear h6 y1 f1
              refine hK.out _ _ trivial (fun hHeld => ?_)
              clear hK K
              try simp only [Act.put, List.setIfInBounds_toArray, List.set_cons_zero, List.set_cons_succ]
              refine wpAnyH_done (by kernel_rfl) ?_ _
              go_wp2_with fail
              refine (unhide HDn).mono ?_
              rintro e w9 ⟨g9, rfl, hm9, hk9⟩
              have HM9 := hide hm9
              have HK9 := hide hk9
              clear hm9 hk9
              go_wp2_with fail
              go_ret
              show Mp _ g P base R _ _
              rw [unhide HE2]
              exact ⟨g9, rfl, fun _ => unhide HM9, (unhide HK6).trans (unhide HK9)⟩
         case bql8 =>
          go_simp
          refine hK.out _ _ trivial (fun hHeld => ?_)
          clear hK K
          try simp only [Act.put, List.setIfInBounds_toArray, List.set_cons_zero, List.set_cons_succ]
          refine wpAnyH_take (i := 9) (oi := ?_) (v := ?_) ?_ (by kernel_rfl) ?_ ?_ ?_ ?_ hHeld ?_
          rotate_left 2
          ·(simp only [List.getElem?_toArray, List.getElem?_cons_succ, List.getElem?_cons_zero]) <;> with_reducible rfl
          ·kernel_rfl
          ·kernel_rfl
          ·exact fun _ _ _ h => h
          ·exact Or.inl ⟨by rfl, by (intro w hSw; (try dsimp only at hSw); skip; go_simp <;> with_reducible rfl)⟩
          simp only [Act.put, List.setIfInBounds_toArray, List.set_cons_zero, List.set_cons_succ]
          refine wpAnyH_take (i := 10) (oi := ?_) (v := ?_) ?_ (by kernel_rfl) ?_ ?_ ?_ ?_ hHeld ?_
          rotate_left 2
          ·(simp only [List.getElem?_toArray, List.getElem?_cons_succ, List.getElem?_cons_zero]) <;> with_reducible rfl
          ·kernel_rfl
          ·kernel_rfl
          ·exact fun _ _ _ h => h
          ·exact Or.inl ⟨by rfl, by (intro w hSw; (try dsimp only at hSw); skip; go_simp <;> with_reducible rfl)⟩
          simp only [Act.put, List.setIfInBounds_toArray, List.set_cons_zero, List.set_cons_succ]
          refine wpAnyH_ready (rs := [4]) (by kernel_rfl) (by simp) ?rdqm8
          refine AllReadyH.cons (o := ?oqm84) ?hqm84 (fun K hK => ?bqm84) AllReadyH.nil
          case hqm84 => (simp only [List.getElem?_toArray, List.getElem?_cons_succ, List.getElem?_cons_zero]) <;> with_reducible rfl
          case bqm84 =>
           go_simp
           refine hK.out _ _ trivial (fun hHeld => ?_)
           clear hK K
           try simp only [Act.put, List.setIfInBounds_toArray, List.set_cons_zero, List.set_cons_succ]
           refine wpAnyH_take (i := 11) (oi := ?_) (v := ?_) ?_ (by kernel_rfl) ?_ ?_ ?_ ?_ hHeld ?_
           rotate_left 2
           ·(simp only [List.getElem?_toArray, List.getElem?_cons_succ, List.getElem?_cons_zero]) <;> with_reducible rfl
           ·kernel_rfl
           ·kernel_rfl
           ·exact fun _ _ _ h => h
           ·exact Or.inl ⟨by rfl, by (intro w hSw; (try dsimp only at hSw); skip; go_simp <;> with_reducible rfl)⟩
           simp only [Act.put, List.setIfInBounds_toArray, List.set_cons_zero, List.set_cons_succ]
           refine wpAnyH_ready (rs := [12]) (by kernel_rfl) (by simp) ?rdqr8v12v
           refine AllReadyH.cons (o := ?oqr8v12v12) ?hqr8v12v12 (fun K hK => ?bqr8v12v12) AllReadyH.nil
           case hqr8v12v12 => (simp only [List.getElem?_toArray, List.getElem?_cons_succ, List.getElem?_cons_zero]) <;> with_reducible rfl
           case bqr8v12v12 =>
            go_simp
            refine hK.out _ _ trivial (fun hHeld => ?_)
            clear hK K
            try simp only [Act.put, List.setIfInBounds_toArray, List.set_cons_zero, List.set_cons_succ]
            refine wpAnyH_ready (rs := [13]) (by kernel_rfl) (by simp) ?rdqr8v13v
            refine AllReadyH.cons (o := ?oqr8v13v13) ?hqr8v13v13 (fun K hK => ?bqr8v13v13) AllReadyH.nil
            case hqr8v13v13 => (simp only [List.getElem?_toArray, List.getElem?_cons_succ, List.getElem?_cons_zero]) <;> with_reducible rfl
            case bqr8v13v13 =>
             go_simp
             refine hK.out _ _ trivial (fun hHeld => ?_)
             clear hK K
             try simp only [Act.put, List.setIfInBounds_toArray, List.set_cons_zero, List.set_cons_succ]
             refine wpAnyH_ready (rs := [14]) (by kernel_rfl) (by simp) ?rdqr8
             refine AllReadyH.cons (o := ?oqr814) ?hqr814 (fun K hK => ?bqr814) AllReadyH.nil
             case hqr814 => (simp only [List.getElem?_toArray, List.getElem?_cons_succ, List.getElem?_cons_zero]) <;> with_reducible rfl
             case bqr814 =>
              obtain ⟨w6, h6⟩ : ∃ w6, w6 = E.setCell ⟨P, 1, none⟩ (.slice (some ⟨L, 0, none⟩) i lc) := ⟨_, rfl⟩
              have mv : Mv E w6 P := by rw [h6]; exact Mv.set _ _ _ _
              have HE6 := hide ((unhide H).below (unhide HBE))
              obtain ⟨p1, p2⟩ := MS.pop (unhide HE6) (unhide HLO) (w' := w6) mv (by rw [h6, unhide HI]; exact heap_setCell_same _ _ _ _ _ _ (unhide HE6).row)
              rw [← unhide HI] at p1 p2
              have r6 := (mv.block Z (Array.getElem?_eq_some_iff.1 (unhide HRE)).1 (fun e => hZP (Option.some.inj e))).trans (unhide HRE)
              obtain ⟨x0, x1, x2, x3, x4⟩ : w6.cell? ⟨Z, 0, none⟩ = some (.int .i64 o.k) ∧ w6.cell? ⟨Z, 1, none⟩ = some (.int .i64 0) ∧ w6.cell? ⟨Z, 2, none⟩ = some (.string (str [])) ∧ w6.cell? ⟨Z, 3, none⟩ = some (.slice a1 o.ns.length d1) ∧ w6.cell? ⟨Z, 4, none⟩ = some (.slice a2 o.is.length d2) := ⟨cell_of_row w6 Z 0 _ _ _ r6, cell_of_row w6 Z 1 _ _ _ r6, cell_of_row w6 Z 2 _ _ _ r6, cell_of_row w6 Z 3 _ _ _ r6, cell_of_row w6 Z 4 _ _ _ r6⟩
              have tP : popG g i P = 1 := p1.tP
              have K6 : Kq w1 w6 (popG g i) (popG g i) (· ≠ 1) := (Kq.ofB (unhide HBE)).trans (Kq.ofMv mv tP)
              have j6 := jv_kq K6 (by omega) (op_jv (unhide HT0) (unhide HJ0) (unhide HT1) (unhide HT2) (unhide HE0))
              have HK6 : Hid (Kq w1 w6 g (popG g i) (· = 5)) := ((Kq.ofB (unhide HBE)).trans p2).mono (fun t ht => by omega)
              have HDn := hide (rdone_any base N hN o.v o.k 0 [] a1 o.ns.length d1 a2 o.is.length d2 w6 (popG g i) P { m with l := l0 } p1.mb j6 (Nat.le_trans (unhide HBS) K6.size) (fun q hq => unhide HOS q (by rw [unhide HLO]; exact List.mem_append_left _ hq)) (by show l0.length ≤ 16; have := unhide HI; omega))
              clear p1 p2 r6 tP K6 j6 mv
              go_simp
              rw [← h6]
              clear h6 y1 f1
              refine hK.out _ _ trivial (fun hHeld => ?_)
              clear hK K
              try simp only [Act.put, List.setIfInBounds_toArray, List.set_cons_zero, List.set_cons_succ]
              refine wpAnyH_done (by kernel_rfl) ?_ _
              go_wp2_with fail
              refine (unhide HDn).mono ?_
              rintro e w9 ⟨g9, rfl, hm9, hk9⟩
              have HM9 := hide hm9
              have HK9 := hide hk9
              clear hm9 hk9
              go_wp2_with fail
              go_ret
              show Mp _ g P base R _ _
              rw [unhide HE2]
              exact ⟨g9, rfl, fun _ => unhide HM9, (unhide HK6).trans (unhide HK9)⟩
        ·have t5 : (o.k == 5) = false := by simpa using q5
         have HE2 : Hid (R = (40, m)) := by show _ = _; rw [unhide HE1, if_neg (fun h => h.elim (fun h => q93 h.1) (fun h => q5 h.2))]
         clear q5 q93 q125 k93 k125 HE1
         go_wp2_with fail
         go_ret
         show Mp _ g P base R _ _
         rw [unhide HE2]
         exact ⟨g, rfl, fun (e : 40 = 0) => absurd e (by decide), Kq.ofB (unhide HBv)⟩
       ·have t125 : ((c.toNat : Int) == 125) = false := by rw [k125]; simpa using q125
        have HE2 : Hid (R = (40, m)) := by show _ = _; rw [unhide HE1, if_neg (fun h => h.elim (fun h => q93 h.1) (fun h => q125 h.1))]
        clear q93 q125 k93 k125 HE1
        go_wp2_with fail
        go_ret
        show Mp _ g P base R _ _
        rw [unhide HE2]
        exact ⟨g, rfl, fun (e : 40 = 0) => absurd e (by decide), Kq.ofB (unhide HBv)⟩
#print axioms rends_any
end Go.Proofs.YtbnbngmnoffmkaaGreatDoor
end
section
set_option linter.unusedVariables false
set_option maxRecDepth 1000000
namespace Go.Proofs.YtbnbngmnoffmkaaGreatDoor
open Go.RowKit

theorem doneM_bd {m : Mc} {v : Js} {N : Nat} (h : ∀ o ∈ m.l, o.ns.length ≤ N ∧ o.is.length ≤ N) : (∀ o ∈ (doneM m v).l, o.ns.length ≤ N + 1 ∧ o.is.length ≤ N + 1) ∧ (doneM m v).l.length = m.l.length := by
 unfold doneM
 by_cases hl : m.l = []
 ·rw [if_pos hl]
  exact ⟨fun o ho => by have := h o ho; omega, rfl⟩
 ·rw [if_neg hl]
  obtain ⟨l0, o, hlo⟩ : ∃ l0 o, m.l = l0 ++ [o] := ⟨m.l.dropLast, m.l.getLast hl, (List.dropLast_concat_getLast hl).symm⟩
  have e : upd (addV v) m.l = l0 ++ [addV v o] := by rw [hlo, upd_last]
  refine ⟨fun q hq => ?_, ?_⟩
  ·have hq' : q ∈ upd (addV v) m.l := hq
   rw [e] at hq'
   rcases List.mem_append.1 hq' with k | k
   ·have := h q (by rw [hlo]; exact List.mem_append_left _ k); omega
   ·have hqo : q = addV v o := by simpa using k
    have := h o (by rw [hlo]; simp)
    rw [hqo]
    unfold addV
    (repeat' split) <;> simp <;> omega
  ·show (upd (addV v) m.l).length = _
   rw [e, hlo]; simp
theorem jv_leaf (w : World) (S : Nat → Prop) (k n : Int) : JV w S (.agg #[.int .i64 k, .int .i64 n, .string (str []), .slice none 0 0, .slice none 0 0]) (.mk k n [] [] []) := by
 simp only [JV]
 refine ⟨none, 0, none, 0, rfl, ?_, Nat.le_refl _, Nat.zero_le _, fun _ => rfl, Nat.le_refl _, Nat.zero_le _, fun _ => rfl, ?_⟩ <;> simp [NsF, JVs]
set_option maxHeartbeats 16000000 in
theorem rfigure_any (base N : Nat) (hN : N + 1 ≤ 1000000) (c : UInt8) (w : World) (g : Nat → Nat) (P : Nat) (m : Mc) (hmb : Mb w g P base m) (hbs : base ≤ w.heap.size) (hi : Iv N m) :
  Calls Tryz.prog 45 #[.pointer (some ⟨P, 0, none⟩), .int .u8 (c.toNat : Int)] w fun e w' => Mp w g P base (figureM m c) e w' := by
 have HMB := hide hmb
 obtain ⟨la, lc, vk, vn, vt, va1, vn1, vc1, va2, vn2, vc2, ta, tc, ca, cc, fs, h⟩ := hmb
 obtain ⟨hcell, hfr⟩ := h.cells
 have c0 := hcell 0 _ rfl
 have c15 := hcell 15 _ rfl
 have H := hide h
 have HIv := hide hi
 have HBS := hide hbs
 obtain ⟨R, hR⟩ : ∃ R, R = figureM m c := ⟨_, rfl⟩
 rw [← hR]
 unfold figureM at hR
 have HR := hide hR
 have hst := hi.st
 obtain ⟨s, hs⟩ : ∃ s, s = m.st := ⟨_, rfl⟩
 rw [← hs] at c0 hst
 rw [← hs] at HR
 obtain ⟨n, hn⟩ : ∃ n, n = m.num := ⟨_, rfl⟩
 rw [← hn] at c15
 have HS := hide hs
 have HNM := hide hn
 have HDn : Hid (Calls Tryz.prog 44 #[.pointer (some ⟨P, 0, none⟩), .agg #[.int .i64 2, .int .i64 n, .string (str []), .slice none 0 0, .slice none 0 0]] w fun e w' => Mq w g P base (doneM m (.mk 2 n [] [] [])) e w') :=
  rdone_any base N (by omega) (.mk 2 n [] [] []) 2 n [] none 0 0 none 0 0 w g P m (unhide HMB) (jv_leaf _ _ _ _) hbs (fun o ho => ⟨(hi.ns o ho).1, (hi.ns o ho).2.1⟩) hi.l16
 have HEn : Hid (∀ w3 g3, Mb w3 g3 P base (doneM m (.mk 2 n [] [] [])) → Kq w w3 g g3 (· = 5) → Calls Tryz.prog 42 #[.pointer (some ⟨P, 0, none⟩), .int .u8 (c.toNat : Int)] w3 fun e w' => Mp w3 g3 P base (endsM (doneM m (.mk 2 n [] [] [])) c) e w') := fun w3 g3 m3 k3 =>
  rends_any base (N + 1) hN c w3 g3 P _ m3 (Nat.le_trans hbs k3.size) (doneM_bd (fun o ho => ⟨(hi.ns o ho).1, (hi.ns o ho).2.1⟩)).1 (by rw [(doneM_bd (v := .mk 2 n [] [] []) (fun o ho => ⟨(hi.ns o ho).1, (hi.ns o ho).2.1⟩)).2]; exact hi.l16)
 have z8 : ((s : Int) == 8) = (s == 8) := by rw [Bool.eq_iff_iff]; simp only [beq_iff_eq]; omega
 have z7 : ((s : Int) == 7) = (s == 7) := by rw [Bool.eq_iff_iff]; simp only [beq_iff_eq]; omega
 have HZ := hide (And.intro z8 z7)
 clear hcell hfr h hbs hR hs hn z8 z7
 cases hd : dgB4 c with
 | true =>
  have HDg := hide (rdigit_any N c hd (unhide H) hi)
  obtain ⟨d1, d2⟩ := dg_val hd
  have a1 : (48 : Int) ≤ (c.toNat : Int) := by omega
  have a2 : (c.toNat : Int) ≤ 57 := by omega
  obtain ⟨DM, hDM⟩ : ∃ DM, DM = digitM m c := ⟨_, rfl⟩
  rw [← hDM] at HR HDg
  by_cases q8 : s = 8
  ·have t8 : ((s : Int) == 8) = true := by rw [(unhide HZ).1]; simpa using q8
   have HE : Hid (R = DM) := by show _ = _; rw [unhide HR, if_pos q8, hd, if_pos rfl]
   clear hd d1 d2 hDM q8 HR hi hst
   go_enter Tryz.func45, Tryz.ntmps45
   go_wp2_with fail
   refine (unhide HDg).mono ?_
   rintro e w3 ⟨g3, rfl, m3, k3⟩
   have HM3 := hide m3
   have HK3 := hide k3
   clear m3 k3
   go_wp2_with fail
   go_ret
   show Mp _ g P base R _ _
   rw [unhide HE]
   exact ⟨g3, rfl, unhide HM3, unhide HK3⟩
  ·have t8 : ((s : Int) == 8) = false := by rw [(unhide HZ).1]; simpa using q8
   by_cases q7 : s = 7
   ·have t7 : ((s : Int) == 7) = true := by rw [(unhide HZ).2]; simpa using q7
    have HE : Hid (R = DM) := by show _ = _; rw [unhide HR, if_neg q8, hd, if_pos ⟨rfl, q7⟩]
    clear hd d1 d2 hDM q8 q7 HR hi hst
    go_enter Tryz.func45, Tryz.ntmps45
    go_wp2_with fail
    refine (unhide HDg).mono ?_
    rintro e w3 ⟨g3, rfl, m3, k3⟩
    have HM3 := hide m3
    have HK3 := hide k3
    clear m3 k3
    go_wp2_with fail
    go_ret
    show Mp _ g P base R _ _
    rw [unhide HE]
    exact ⟨g3, rfl, unhide HM3, unhide HK3⟩
   ·have t7 : ((s : Int) == 7) = false := by rw [(unhide HZ).2]; simpa using q7
    have u46 : ((c.toNat : Int) == 46) = false := by simp; omega
    have u101 : ((c.toNat : Int) == 101) = false := by simp; omega
    have u69 : ((c.toNat : Int) == 69) = false := by simp; omega
    have HE : Hid (R = endsM (doneM m (.mk 2 n [] [] [])) c) := by
     show _ = _
     rw [unhide HR, if_neg q8, if_neg (fun h => q7 h.2), if_neg (by rintro (h | h | h) <;> rw [h] at d1 d2 <;> revert d1 d2 <;> decide), ← unhide HNM]
    clear hd d1 d2 hDM q8 q7 HR hi hst HDg
    go_enter Tryz.func45, Tryz.ntmps45
    go_wp2_with fail
    refine (unhide HDn).mono ?_
    rintro e w3 ⟨g3, rfl, m3, k3⟩
    have HK3 := hide k3
    have HEn3 := hide (unhide HEn w3 g3 m3 k3)
    clear m3 k3 c0 c15
    generalize endsM (doneM m (.mk 2 n [] [] [])) c = X at HEn3 HE
    go_wp2_with fail
    refine (unhide HEn3).mono ?_
    rintro e w4 ⟨g4, rfl, m4, k4⟩
    have HM4 := hide m4
    have HK4 := hide k4
    clear m4 k4
    go_wp2_with fail
    go_ret
    show Mp _ g P base R _ _
    rw [unhide HE]
    exact ⟨g4, rfl, unhide HM4, (unhide HK3).trans (unhide HK4)⟩
 | false =>
  have hnd : ¬ (48 ≤ c.toNat ∧ c.toNat ≤ 57) := by
   intro hh
   have : dgB4 c = true := by unfold dgB4; simp [hh.1, hh.2]
   rw [hd] at this; cases this
  by_cases q8 : s = 8
  ·have t8 : ((s : Int) == 8) = true := by rw [(unhide HZ).1]; simpa using q8
   have HE : Hid (R = (40, m)) := by show _ = _; rw [unhide HR, if_pos q8, hd, if_neg (by decide)]
   by_cases a1 : (48 : Int) ≤ (c.toNat : Int)
   ·have a2 : ¬ ((c.toNat : Int) ≤ 57) := by omega
    clear hd hnd q8 HR hi hst
    go_enter Tryz.func45, Tryz.ntmps45
    go_wp2_with fail
    go_ret
    show Mp _ g P base R _ _
    rw [unhide HE]
    exact (unhide H).fail 40 (by omega) m
   ·clear hd hnd q8 HR hi hst
    go_enter Tryz.func45, Tryz.ntmps45
    go_wp2_with fail
    go_ret
    show Mp _ g P base R _ _
    rw [unhide HE]
    exact (unhide H).fail 40 (by omega) m
  ·have t8 : ((s : Int) == 8) = false := by rw [(unhide HZ).1]; simpa using q8
   have key : ∀ n : UInt8, ((c.toNat : Int) == (n.toNat : Int)) = (c == n) := fun n => by
    rw [Bool.eq_iff_iff]
    simp only [beq_iff_eq]
    exact ⟨fun h => UInt8.toNat_inj.1 (by omega), fun h => by rw [h]⟩
   have k46 : ((c.toNat : Int) == 46) = (c == 46) := key 46
   have k101 : ((c.toNat : Int) == 101) = (c == 101) := key 101
   have k69 : ((c.toNat : Int) == 69) = (c == 69) := key 69
   have HR2 : Hid (R = if c = 46 ∨ c = 101 ∨ c = 69 then (42, m) else endsM (doneM m (.mk 2 n [] [] [])) c) := by show _ = _; rw [unhide HR, if_neg q8, hd, if_neg (fun h => by cases h.1), ← unhide HNM]
   have hA : (48 : Int) ≤ (c.toNat : Int) ∨ ¬ (48 : Int) ≤ (c.toNat : Int) := Classical.em _
   have hB : (48 : Int) ≤ (c.toNat : Int) → ¬ ((c.toNat : Int) ≤ 57) := fun _ => by omega
   have HB := hide hB
   clear hd hnd q8 HR hi hst key hB
   by_cases p46 : c = 46
   ·have u46 : ((c.toNat : Int) == 46) = true := by rw [k46]; simpa using p46
    have HE : Hid (R = (42, m)) := by show _ = _; rw [unhide HR2, if_pos (Or.inl p46)]
    clear k46 k101 k69 p46 HR2
    rcases hA with a1 | a1
    ·have a2 := unhide HB a1
     go_enter Tryz.func45, Tryz.ntmps45
     go_wp2_with fail
     go_ret
     show Mp _ g P base R _ _
     rw [unhide HE]
     exact (unhide H).fail 42 (by omega) m
    ·skip
     go_enter Tryz.func45, Tryz.ntmps45
     go_wp2_with fail
     go_ret
     show Mp _ g P base R _ _
     rw [unhide HE]
     exact (unhide H).fail 42 (by omega) m
   ·have u46 : ((c.toNat : Int) == 46) = false := by rw [k46]; simpa using p46
    by_cases p101 : c = 101
    ·have u101 : ((c.toNat : Int) == 101) = true := by rw [k101]; simpa using p101
     have HE : Hid (R = (42, m)) := by show _ = _; rw [unhide HR2, if_pos (Or.inr (Or.inl p101))]
     clear k46 k101 k69 p46 p101 HR2
     rcases hA with a1 | a1
     ·have a2 := unhide HB a1
      go_enter Tryz.func45, Tryz.ntmps45
      go_wp2_with fail
      go_ret
      show Mp _ g P base R _ _
      rw [unhide HE]
      exact (unhide H).fail 42 (by omega) m
     ·skip
      go_enter Tryz.func45, Tryz.ntmps45
      go_wp2_with fail
      go_ret
      show Mp _ g P base R _ _
      rw [unhide HE]
      exact (unhide H).fail 42 (by omega) m
    ·have u101 : ((c.toNat : Int) == 101) = false := by rw [k101]; simpa using p101
     by_cases p69 : c = 69
     ·have u69 : ((c.toNat : Int) == 69) = true := by rw [k69]; simpa using p69
      have HE : Hid (R = (42, m)) := by show _ = _; rw [unhide HR2, if_pos (Or.inr (Or.inr p69))]
      clear k46 k101 k69 p46 p101 p69 HR2
      rcases hA with a1 | a1
      ·have a2 := unhide HB a1
       go_enter Tryz.func45, Tryz.ntmps45
       go_wp2_with fail
       go_ret
       show Mp _ g P base R _ _
       rw [unhide HE]
       exact (unhide H).fail 42 (by omega) m
      ·skip
       go_enter Tryz.func45, Tryz.ntmps45
       go_wp2_with fail
       go_ret
       show Mp _ g P base R _ _
       rw [unhide HE]
       exact (unhide H).fail 42 (by omega) m
     ·have u69 : ((c.toNat : Int) == 69) = false := by rw [k69]; simpa using p69
      have HE : Hid (R = endsM (doneM m (.mk 2 n [] [] [])) c) := by show _ = _; rw [unhide HR2, if_neg (by rintro (h | h | h); exact p46 h; exact p101 h; exact p69 h)]
      clear k46 k101 k69 p46 p101 p69 HR2
      rcases hA with a1 | a1
      ·have a2 := unhide HB a1
       go_enter Tryz.func45, Tryz.ntmps45
       go_wp2_with fail
       refine (unhide HDn).mono ?_
       rintro e w3 ⟨g3, rfl, m3, k3⟩
       have HK3 := hide k3
       have HEn3 := hide (unhide HEn w3 g3 m3 k3)
       clear m3 k3 c0 c15
       generalize endsM (doneM m (.mk 2 n [] [] [])) c = X at HEn3 HE
       go_wp2_with fail
       refine (unhide HEn3).mono ?_
       rintro e w4 ⟨g4, rfl, m4, k4⟩
       have HM4 := hide m4
       have HK4 := hide k4
       clear m4 k4
       go_wp2_with fail
       go_ret
       show Mp _ g P base R _ _
       rw [unhide HE]
       exact ⟨g4, rfl, unhide HM4, (unhide HK3).trans (unhide HK4)⟩
      ·skip
       go_enter Tryz.func45, Tryz.ntmps45
       go_wp2_with fail
       refine (unhide HDn).mono ?_
       rintro e w3 ⟨g3, rfl, m3, k3⟩
       have HK3 := hide k3
       have HEn3 := hide (unhide HEn w3 g3 m3 k3)
       clear m3 k3 c0 c15
       generalize endsM (doneM m (.mk 2 n [] [] [])) c = X at HEn3 HE
       go_wp2_with fail
       refine (unhide HEn3).mono ?_
       rintro e w4 ⟨g4, rfl, m4, k4⟩
       have HM4 := hide m4
       have HK4 := hide k4
       clear m4 k4
       go_wp2_with fail
       go_ret
       show Mp _ g P base R _ _
       rw [unhide HE]
       exact ⟨g4, rfl, unhide HM4, (unhide HK3).trans (unhide HK4)⟩
#print axioms rfigure_any
end Go.Proofs.YtbnbngmnoffmkaaGreatDoor
end
section
set_option linter.unusedVariables false
set_option maxRecDepth 1000000
namespace Go.Proofs.YtbnbngmnoffmkaaGreatDoor
open Go.RowKit

theorem MS.leaf {w : World} {g : Nat → Nat} {P base : Nat} {m : Mc} {la : Option Addr} {lc : Nat} {vk vn : Int} {vt : List UInt8} {va1 : Option Addr} {vn1 vc1 : Nat} {va2 : Option Addr} {vn2 vc2 : Nat} {ta : Option Addr} {tc : Nat} {ca : Option Addr} {cc : Nat} {fs : List Value}
  (h : MS w g P base m la lc vk vn vt va1 vn1 vc1 va2 vn2 vc2 ta tc ca cc fs) {w' : World} (mv : Mv w w' P) {m' : Mc} {vk' vn' : Int} (hl : m'.l = m.l) (ht : m'.text = m.text) (hc : m'.char = m.char) (hv : m'.v = .mk vk' vn' [] [] [])
  (row' : w'.heap[P]? = some (mcO m' la lc vk' vn' [] none 0 0 none 0 0 ta tc ca cc)) : Mp w g P base (0, m') (.returned (.int .i64 0)) w' := by
 have K := Kq.ofMv mv h.tP
 have := h.re (K.mono (fun t ht => ht.1)) hl row' (by rw [hv]; exact jv_leaf _ _ _ _) (by rw [ht]; exact owns_same h.tx (fun k hk => (K.tag k (owns_lt h.tx k hk).2 (by rw [h.tt k hk]; omega)).2)) (by rw [hc]; exact owns_same h.ch (fun k hk => (K.tag k (owns_lt h.ch k hk).2 (by rw [h.th k hk]; omega)).2)) h.tP h.tt h.th
 exact ⟨g, rfl, fun _ => this.mb, K.mono (fun t ht => by omega)⟩
theorem MS.untext {w : World} {g : Nat → Nat} {P base : Nat} {m : Mc} {la : Option Addr} {lc : Nat} {vk vn : Int} {vt : List UInt8} {va1 : Option Addr} {vn1 vc1 : Nat} {va2 : Option Addr} {vn2 vc2 : Nat} {ta : Option Addr} {tc : Nat} {ca : Option Addr} {cc : Nat} {fs : List Value}
  (h : MS w g P base m la lc vk vn vt va1 vn1 vc1 va2 vn2 vc2 ta tc ca cc fs) {w' : World} (mv : Mv w w' P) {m' : Mc} (hl : m'.l = m.l) (ht : m'.text = []) (hc : m'.char = m.char) (hv : m'.v = m.v)
  (row' : w'.heap[P]? = some (mcO m' la lc vk vn vt va1 vn1 vc1 va2 vn2 vc2 none 0 ca cc)) : Mp w g P base (0, m') (.returned (.int .i64 0)) w' := by
 have K := Kq.ofMv mv h.tP
 have := h.re (K.mono (fun t ht => ht.1)) hl row' (by rw [hv]; exact jv_kq K (by omega) h.jv) (by rw [ht]; exact OwnB.nil _ _) (by rw [hc]; exact owns_same h.ch (fun k hk => (K.tag k (owns_lt h.ch k hk).2 (by rw [h.th k hk]; omega)).2)) h.tP (fun k hk => by simp [blk] at hk) h.th
 exact ⟨g, rfl, fun _ => this.mb, K.mono (fun t ht => by omega)⟩
set_option maxHeartbeats 16000000 in
/-- begins, of what is neither [ nor an opening brace. -/
theorem rbeg_rest (N : Nat) (c : UInt8) (n91 : c ≠ 91) (n123 : c ≠ 123) {w : World} {g : Nat → Nat} {P base : Nat} {m : Mc} {la : Option Addr} {lc : Nat} {vk vn : Int} {vt : List UInt8} {va1 : Option Addr} {vn1 vc1 : Nat} {va2 : Option Addr} {vn2 vc2 : Nat} {ta : Option Addr} {tc : Nat} {ca : Option Addr} {cc : Nat} {fs : List Value}
  (h : MS w g P base m la lc vk vn vt va1 vn1 vc1 va2 vn2 vc2 ta tc ca cc fs) (hi : Iv N m) :
  Calls Tryz.prog 43 #[.pointer (some ⟨P, 0, none⟩), .int .u8 (c.toNat : Int)] w fun e w' => Mp w g P base (beginsM m c) e w' := by
 have H := hide h
 obtain ⟨hcell, hfr⟩ := h.cells
 have c0 := hcell 0 _ rfl
 have f0 := hfr 0
 have c2 := hcell 2 _ rfl
 have f2 := hfr 2
 have c3 := hcell 3 _ rfl
 have f3 := hfr 3
 have c4 := hcell 4 _ rfl
 have f4 := hfr 4
 have c5 := hcell 5 _ rfl
 have f5 := hfr 5
 have c6 := hcell 6 _ rfl
 have f6 := hfr 6
 have c7 := hcell 7 _ rfl
 have f7 := hfr 7
 have c8 := hcell 8 _ rfl
 have f8 := hfr 8
 have c9 := hcell 9 _ rfl
 have f9 := hfr 9
 have c14 := hcell 14 _ rfl
 have f14 := hfr 14
 have c15 := hcell 15 _ rfl
 have f15 := hfr 15
 obtain ⟨R, hR⟩ : ∃ R, R = beginsM m c := ⟨_, rfl⟩
 rw [← hR]
 unfold beginsM at hR
 have HR := hide hR
 clear hcell hfr h hR
 by_cases hc : c = 34
 ·skip
  have u91 : ((c.toNat : Int) == 91) = false := by rw [hc]; rfl
  have u123 : ((c.toNat : Int) == 123) = false := by rw [hc]; rfl
  have u34 : ((c.toNat : Int) == 34) = true := by rw [hc]; rfl
  have u110 : ((c.toNat : Int) == 110) = false := by rw [hc]; rfl
  have u116 : ((c.toNat : Int) == 116) = false := by rw [hc]; rfl
  have u102 : ((c.toNat : Int) == 102) = false := by rw [hc]; rfl
  have u45 : ((c.toNat : Int) == 45) = false := by rw [hc]; rfl
  have HE : Hid (R = (0, { m with st := 9, text := [], isKey := false })) := by show _ = _; rw [unhide HR, hc]; simp
  have HF : Hid (∀ w', w' = (((w.setCell ⟨P, 0, none⟩ (.int .i64 9)).setCell ⟨P, 8, none⟩ (.slice none 0 0)).setCell ⟨P, 9, none⟩ (.bool false)) → Mp w g P base (0, { m with st := 9, text := [], isKey := false }) (.returned (.int .i64 0)) w') := fun w' e => by
   have mv : Mv w w' P := by rw [e]; exact ((Mv.set _ _ _ _).trans (Mv.set _ _ _ _)).trans (Mv.set _ _ _ _)
   exact MS.untext (unhide H) mv rfl rfl rfl rfl (by rw [e]; exact heap_setCell_same _ _ _ _ _ _ (heap_setCell_same _ _ _ _ _ _ (heap_setCell_same _ _ _ _ _ _ ((unhide H).row))))
  clear hc HR hi
  go_enter Tryz.func43, Tryz.ntmps43
  go_wp2_with fail
  go_ret
  show Mp _ g P base R _ _
  rw [unhide HE]
  exact unhide HF _ rfl
 ·have n34 := hc
  clear hc
  by_cases hc : c = 110
  ·skip
   have u91 : ((c.toNat : Int) == 91) = false := by rw [hc]; rfl
   have u123 : ((c.toNat : Int) == 123) = false := by rw [hc]; rfl
   have u34 : ((c.toNat : Int) == 34) = false := by rw [hc]; rfl
   have u110 : ((c.toNat : Int) == 110) = true := by rw [hc]; rfl
   have u116 : ((c.toNat : Int) == 116) = false := by rw [hc]; rfl
   have u102 : ((c.toNat : Int) == 102) = false := by rw [hc]; rfl
   have u45 : ((c.toNat : Int) == 45) = false := by rw [hc]; rfl
   have HE : Hid (R = (0, { m with st := 6, v := Js.nul, rest := [117, 108, 108] })) := by show _ = _; rw [unhide HR, hc]; simp
   have HF : Hid (∀ w', w' = (((((((w.setCell ⟨P, 0, none⟩ (.int .i64 6)).setCell ⟨P, 3, none⟩ (.int .i64 0)).setCell ⟨P, 4, none⟩ (.int .i64 0)).setCell ⟨P, 5, none⟩ (.string ⟨#[]⟩)).setCell ⟨P, 6, none⟩ (.slice none 0 0)).setCell ⟨P, 7, none⟩ (.slice none 0 0)).setCell ⟨P, 2, none⟩ (.string ⟨#[117, 108, 108]⟩)) → Mp w g P base (0, { m with st := 6, v := Js.nul, rest := [117, 108, 108] }) (.returned (.int .i64 0)) w') := fun w' e => by
    have mv : Mv w w' P := by rw [e]; exact ((((((Mv.set _ _ _ _).trans (Mv.set _ _ _ _)).trans (Mv.set _ _ _ _)).trans (Mv.set _ _ _ _)).trans (Mv.set _ _ _ _)).trans (Mv.set _ _ _ _)).trans (Mv.set _ _ _ _)
    exact MS.leaf (unhide H) mv rfl rfl rfl rfl (by rw [e]; exact heap_setCell_same _ _ _ _ _ _ (heap_setCell_same _ _ _ _ _ _ (heap_setCell_same _ _ _ _ _ _ (heap_setCell_same _ _ _ _ _ _ (heap_setCell_same _ _ _ _ _ _ (heap_setCell_same _ _ _ _ _ _ (heap_setCell_same _ _ _ _ _ _ ((unhide H).row))))))))
   clear hc HR hi
   go_enter Tryz.func43, Tryz.ntmps43
   go_wp2_with fail
   go_ret
   show Mp _ g P base R _ _
   rw [unhide HE]
   exact unhide HF _ rfl
  ·have n110 := hc
   clear hc
   by_cases hc : c = 116
   ·skip
    have u91 : ((c.toNat : Int) == 91) = false := by rw [hc]; rfl
    have u123 : ((c.toNat : Int) == 123) = false := by rw [hc]; rfl
    have u34 : ((c.toNat : Int) == 34) = false := by rw [hc]; rfl
    have u110 : ((c.toNat : Int) == 110) = false := by rw [hc]; rfl
    have u116 : ((c.toNat : Int) == 116) = true := by rw [hc]; rfl
    have u102 : ((c.toNat : Int) == 102) = false := by rw [hc]; rfl
    have u45 : ((c.toNat : Int) == 45) = false := by rw [hc]; rfl
    have HE : Hid (R = (0, { m with st := 6, v := .mk 1 1 [] [] [], rest := [114, 117, 101] })) := by show _ = _; rw [unhide HR, hc]; simp
    obtain ⟨w1, hw1⟩ : ∃ w1, w1 = (((((((w.setCell ⟨P, 0, none⟩ (.int .i64 6)).setCell ⟨P, 3, none⟩ (.int .i64 0)).setCell ⟨P, 4, none⟩ (.int .i64 0)).setCell ⟨P, 5, none⟩ (.string ⟨#[]⟩)).setCell ⟨P, 6, none⟩ (.slice none 0 0)).setCell ⟨P, 7, none⟩ (.slice none 0 0)).setCell ⟨P, 2, none⟩ (.string ⟨#[117, 108, 108]⟩)) := ⟨_, rfl⟩
    have mv1 : Mv w w1 P := by rw [hw1]; exact ((((((Mv.set _ _ _ _).trans (Mv.set _ _ _ _)).trans (Mv.set _ _ _ _)).trans (Mv.set _ _ _ _)).trans (Mv.set _ _ _ _)).trans (Mv.set _ _ _ _)).trans (Mv.set _ _ _ _)
    have r1 : w1.heap[P]? = some (mcO { m with st := 6, v := Js.nul, rest := [117, 108, 108] } la lc 0 0 [] none 0 0 none 0 0 ta tc ca cc) := by rw [hw1]; exact heap_setCell_same _ _ _ _ _ _ (heap_setCell_same _ _ _ _ _ _ (heap_setCell_same _ _ _ _ _ _ (heap_setCell_same _ _ _ _ _ _ (heap_setCell_same _ _ _ _ _ _ (heap_setCell_same _ _ _ _ _ _ (heap_setCell_same _ _ _ _ _ _ ((unhide H).row)))))))
    have e3 : w1.cell? ⟨P, 3, none⟩ = some (.int .i64 0) := cell_of_row w1 P 3 _ _ _ r1
    have y3 : w1.frozen? ⟨P, 3, none⟩ = false := frozen_of_row w1 P 3 _ _ r1
    have e4 : w1.cell? ⟨P, 4, none⟩ = some (.int .i64 0) := cell_of_row w1 P 4 _ _ _ r1
    have y4 : w1.frozen? ⟨P, 4, none⟩ = false := frozen_of_row w1 P 4 _ _ r1
    have e5 : w1.cell? ⟨P, 5, none⟩ = some (.string ⟨#[]⟩) := cell_of_row w1 P 5 _ _ _ r1
    have y5 : w1.frozen? ⟨P, 5, none⟩ = false := frozen_of_row w1 P 5 _ _ r1
    have e6 : w1.cell? ⟨P, 6, none⟩ = some (.slice none 0 0) := cell_of_row w1 P 6 _ _ _ r1
    have y6 : w1.frozen? ⟨P, 6, none⟩ = false := frozen_of_row w1 P 6 _ _ r1
    have e7 : w1.cell? ⟨P, 7, none⟩ = some (.slice none 0 0) := cell_of_row w1 P 7 _ _ _ r1
    have y7 : w1.frozen? ⟨P, 7, none⟩ = false := frozen_of_row w1 P 7 _ _ r1
    have e2 : w1.cell? ⟨P, 2, none⟩ = some (.string ⟨#[117, 108, 108]⟩) := cell_of_row w1 P 2 _ _ _ r1
    have y2 : w1.frozen? ⟨P, 2, none⟩ = false := frozen_of_row w1 P 2 _ _ r1
    have HF : Hid (∀ w', w' = ((((((w1.setCell ⟨P, 3, none⟩ (.int .i64 1)).setCell ⟨P, 4, none⟩ (.int .i64 1)).setCell ⟨P, 5, none⟩ (.string ⟨#[]⟩)).setCell ⟨P, 6, none⟩ (.slice none 0 0)).setCell ⟨P, 7, none⟩ (.slice none 0 0)).setCell ⟨P, 2, none⟩ (.string ⟨#[114, 117, 101]⟩)) → Mp w g P base (0, { m with st := 6, v := .mk 1 1 [] [] [], rest := [114, 117, 101] }) (.returned (.int .i64 0)) w') := fun w' e => by
     have mv : Mv w w' P := by rw [e]; exact mv1.trans ((((((Mv.set _ _ _ _).trans (Mv.set _ _ _ _)).trans (Mv.set _ _ _ _)).trans (Mv.set _ _ _ _)).trans (Mv.set _ _ _ _)).trans (Mv.set _ _ _ _))
     exact MS.leaf (unhide H) mv rfl rfl rfl rfl (by rw [e]; exact heap_setCell_same _ _ _ _ _ _ (heap_setCell_same _ _ _ _ _ _ (heap_setCell_same _ _ _ _ _ _ (heap_setCell_same _ _ _ _ _ _ (heap_setCell_same _ _ _ _ _ _ (heap_setCell_same _ _ _ _ _ _ (r1)))))))
    clear hc HR hi r1 mv1
    go_enter Tryz.func43, Tryz.ntmps43
    go_upto_region 16 with fail
    rw [← hw1]
    clear hw1 c0 f0 c2 f2 c3 f3 c4 f4 c5 f5 c6 f6 c7 f7 c8 f8 c9 f9 c14 f14 c15 f15
    go_wp2_with fail
    go_ret
    show Mp _ g P base R _ _
    rw [unhide HE]
    exact unhide HF _ rfl
   ·have n116 := hc
    clear hc
    by_cases hc : c = 102
    ·skip
     have u91 : ((c.toNat : Int) == 91) = false := by rw [hc]; rfl
     have u123 : ((c.toNat : Int) == 123) = false := by rw [hc]; rfl
     have u34 : ((c.toNat : Int) == 34) = false := by rw [hc]; rfl
     have u110 : ((c.toNat : Int) == 110) = false := by rw [hc]; rfl
     have u116 : ((c.toNat : Int) == 116) = false := by rw [hc]; rfl
     have u102 : ((c.toNat : Int) == 102) = true := by rw [hc]; rfl
     have u45 : ((c.toNat : Int) == 45) = false := by rw [hc]; rfl
     have HE : Hid (R = (0, { m with st := 6, v := .mk 1 0 [] [] [], rest := [97, 108, 115, 101] })) := by show _ = _; rw [unhide HR, hc]; simp
     obtain ⟨w1, hw1⟩ : ∃ w1, w1 = (((((((w.setCell ⟨P, 0, none⟩ (.int .i64 6)).setCell ⟨P, 3, none⟩ (.int .i64 0)).setCell ⟨P, 4, none⟩ (.int .i64 0)).setCell ⟨P, 5, none⟩ (.string ⟨#[]⟩)).setCell ⟨P, 6, none⟩ (.slice none 0 0)).setCell ⟨P, 7, none⟩ (.slice none 0 0)).setCell ⟨P, 2, none⟩ (.string ⟨#[117, 108, 108]⟩)) := ⟨_, rfl⟩
     have mv1 : Mv w w1 P := by rw [hw1]; exact ((((((Mv.set _ _ _ _).trans (Mv.set _ _ _ _)).trans (Mv.set _ _ _ _)).trans (Mv.set _ _ _ _)).trans (Mv.set _ _ _ _)).trans (Mv.set _ _ _ _)).trans (Mv.set _ _ _ _)
     have r1 : w1.heap[P]? = some (mcO { m with st := 6, v := Js.nul, rest := [117, 108, 108] } la lc 0 0 [] none 0 0 none 0 0 ta tc ca cc) := by rw [hw1]; exact heap_setCell_same _ _ _ _ _ _ (heap_setCell_same _ _ _ _ _ _ (heap_setCell_same _ _ _ _ _ _ (heap_setCell_same _ _ _ _ _ _ (heap_setCell_same _ _ _ _ _ _ (heap_setCell_same _ _ _ _ _ _ (heap_setCell_same _ _ _ _ _ _ ((unhide H).row)))))))
     have e3 : w1.cell? ⟨P, 3, none⟩ = some (.int .i64 0) := cell_of_row w1 P 3 _ _ _ r1
     have y3 : w1.frozen? ⟨P, 3, none⟩ = false := frozen_of_row w1 P 3 _ _ r1
     have e4 : w1.cell? ⟨P, 4, none⟩ = some (.int .i64 0) := cell_of_row w1 P 4 _ _ _ r1
     have y4 : w1.frozen? ⟨P, 4, none⟩ = false := frozen_of_row w1 P 4 _ _ r1
     have e5 : w1.cell? ⟨P, 5, none⟩ = some (.string ⟨#[]⟩) := cell_of_row w1 P 5 _ _ _ r1
     have y5 : w1.frozen? ⟨P, 5, none⟩ = false := frozen_of_row w1 P 5 _ _ r1
     have e6 : w1.cell? ⟨P, 6, none⟩ = some (.slice none 0 0) := cell_of_row w1 P 6 _ _ _ r1
     have y6 : w1.frozen? ⟨P, 6, none⟩ = false := frozen_of_row w1 P 6 _ _ r1
     have e7 : w1.cell? ⟨P, 7, none⟩ = some (.slice none 0 0) := cell_of_row w1 P 7 _ _ _ r1
     have y7 : w1.frozen? ⟨P, 7, none⟩ = false := frozen_of_row w1 P 7 _ _ r1
     have e2 : w1.cell? ⟨P, 2, none⟩ = some (.string ⟨#[117, 108, 108]⟩) := cell_of_row w1 P 2 _ _ _ r1
     have y2 : w1.frozen? ⟨P, 2, none⟩ = false := frozen_of_row w1 P 2 _ _ r1
     have HF : Hid (∀ w', w' = ((((((w1.setCell ⟨P, 3, none⟩ (.int .i64 1)).setCell ⟨P, 4, none⟩ (.int .i64 0)).setCell ⟨P, 5, none⟩ (.string ⟨#[]⟩)).setCell ⟨P, 6, none⟩ (.slice none 0 0)).setCell ⟨P, 7, none⟩ (.slice none 0 0)).setCell ⟨P, 2, none⟩ (.string ⟨#[97, 108, 115, 101]⟩)) → Mp w g P base (0, { m with st := 6, v := .mk 1 0 [] [] [], rest := [97, 108, 115, 101] }) (.returned (.int .i64 0)) w') := fun w' e => by
      have mv : Mv w w' P := by rw [e]; exact mv1.trans ((((((Mv.set _ _ _ _).trans (Mv.set _ _ _ _)).trans (Mv.set _ _ _ _)).trans (Mv.set _ _ _ _)).trans (Mv.set _ _ _ _)).trans (Mv.set _ _ _ _))
      exact MS.leaf (unhide H) mv rfl rfl rfl rfl (by rw [e]; exact heap_setCell_same _ _ _ _ _ _ (heap_setCell_same _ _ _ _ _ _ (heap_setCell_same _ _ _ _ _ _ (heap_setCell_same _ _ _ _ _ _ (heap_setCell_same _ _ _ _ _ _ (heap_setCell_same _ _ _ _ _ _ (r1)))))))
     clear hc HR hi r1 mv1
     go_enter Tryz.func43, Tryz.ntmps43
     go_upto_region 16 with fail
     rw [← hw1]
     clear hw1 c0 f0 c2 f2 c3 f3 c4 f4 c5 f5 c6 f6 c7 f7 c8 f8 c9 f9 c14 f14 c15 f15
     go_wp2_with fail
     go_ret
     show Mp _ g P base R _ _
     rw [unhide HE]
     exact unhide HF _ rfl
    ·have n102 := hc
     clear hc
     by_cases hc : c = 45
     ·skip
      have u91 : ((c.toNat : Int) == 91) = false := by rw [hc]; rfl
      have u123 : ((c.toNat : Int) == 123) = false := by rw [hc]; rfl
      have u34 : ((c.toNat : Int) == 34) = false := by rw [hc]; rfl
      have u110 : ((c.toNat : Int) == 110) = false := by rw [hc]; rfl
      have u116 : ((c.toNat : Int) == 116) = false := by rw [hc]; rfl
      have u102 : ((c.toNat : Int) == 102) = false := by rw [hc]; rfl
      have u45 : ((c.toNat : Int) == 45) = true := by rw [hc]; rfl
      have HE : Hid (R = (0, { m with st := 8, neg := true, num := 0 })) := by show _ = _; rw [unhide HR, hc]; simp
      have HF : Hid (∀ w', w' = (((w.setCell ⟨P, 0, none⟩ (.int .i64 8)).setCell ⟨P, 14, none⟩ (.bool true)).setCell ⟨P, 15, none⟩ (.int .i64 0)) → Mp w g P base (0, { m with st := 8, neg := true, num := 0 }) (.returned (.int .i64 0)) w') := fun w' e => by
       have mv : Mv w w' P := by rw [e]; exact ((Mv.set _ _ _ _).trans (Mv.set _ _ _ _)).trans (Mv.set _ _ _ _)
       exact (unhide H).fin0 mv rfl rfl rfl rfl (by rw [e]; exact heap_setCell_same _ _ _ _ _ _ (heap_setCell_same _ _ _ _ _ _ (heap_setCell_same _ _ _ _ _ _ ((unhide H).row))))
      clear hc HR hi
      go_enter Tryz.func43, Tryz.ntmps43
      go_wp2_with fail
      go_ret
      show Mp _ g P base R _ _
      rw [unhide HE]
      exact unhide HF _ rfl
     ·have n45 := hc
      clear hc
      have key : ∀ n : UInt8, c ≠ n → ((c.toNat : Int) == (n.toNat : Int)) = false := fun n hn => by
       rw [beq_eq_false_iff_ne]
       exact fun h => hn (UInt8.toNat_inj.1 (by omega))
      have u91 : ((c.toNat : Int) == 91) = false := key 91 n91
      have u123 : ((c.toNat : Int) == 123) = false := key 123 n123
      have u34 : ((c.toNat : Int) == 34) = false := key 34 n34
      have u110 : ((c.toNat : Int) == 110) = false := key 110 n110
      have u116 : ((c.toNat : Int) == 116) = false := key 116 n116
      have u102 : ((c.toNat : Int) == 102) = false := key 102 n102
      have u45 : ((c.toNat : Int) == 45) = false := key 45 n45
      have HR2 : Hid (R = if dgB4 c = true then digitM { m with neg := false, num := 0 } c else (40, m)) := by show _ = _; rw [unhide HR, if_neg (by rintro (h | h); exact n91 h; exact n123 h), if_neg n34, if_neg n110, if_neg n116, if_neg n102, if_neg n45]
      clear HR key n91 n123 n34 n110 n116 n102 n45
      by_cases hd : dgB4 c = true
      ·obtain ⟨d1, d2⟩ := dg_val hd
       have a1 : (48 : Int) ≤ (c.toNat : Int) := by omega
       have a2 : (c.toNat : Int) ≤ 57 := by omega
       obtain ⟨w2, hw2⟩ : ∃ w2, w2 = ((w.setCell ⟨P, 14, none⟩ (.bool false)).setCell ⟨P, 15, none⟩ (.int .i64 0)) := ⟨_, rfl⟩
       have mv : Mv w w2 P := by rw [hw2]; exact (Mv.set _ _ _ _).trans (Mv.set _ _ _ _)
       have h2 := (unhide H).mv (m' := { m with neg := false, num := 0 }) mv rfl rfl rfl rfl (by rw [hw2]; exact heap_setCell_same _ _ _ _ _ _ (heap_setCell_same _ _ _ _ _ _ ((unhide H).row)))
       have HDg := hide (rdigit_any N c hd h2 ⟨hi.st, hi.l16, hi.tx, hi.ch, hi.ns, hi.n, hi.many, hi.hex, hi.high, hi.hxi, ⟨fun e => (by cases e), fun _ => ⟨by show (0 : Int) ≤ 0; omega, by show (0 : Int) ≤ 9223372036854775807; omega⟩⟩, hi.rest, hi.key, hi.four⟩)
       have HK2 : Hid (Kq w w2 g g (· = 5)) := (Kq.ofMv mv (unhide H).tP).mono (fun t ht => by omega)
       have HE : Hid (R = digitM { m with neg := false, num := 0 } c) := by show _ = _; rw [unhide HR2, if_pos hd]
       generalize digitM { m with neg := false, num := 0 } c = DM at HDg HE
       clear hd d1 d2 mv h2 hi HR2
       go_enter Tryz.func43, Tryz.ntmps43
       go_upto_region 24 with fail
       rw [← hw2]
       clear hw2
       go_wp2_with fail
       refine (unhide HDg).mono ?_
       rintro e w3 ⟨g3, rfl, m3, k3⟩
       have HM3 := hide m3
       have HK3 := hide k3
       clear m3 k3
       go_wp2_with fail
       go_ret
       show Mp _ g P base R _ _
       rw [unhide HE]
       exact ⟨g3, rfl, unhide HM3, (unhide HK2).trans (unhide HK3)⟩
      ·have HE : Hid (R = (40, m)) := by show _ = _; rw [unhide HR2, if_neg hd]
       have hnd : ¬ (48 ≤ c.toNat ∧ c.toNat ≤ 57) := fun hh => hd (by unfold dgB4; simp [hh.1, hh.2])
       by_cases a1 : (48 : Int) ≤ (c.toNat : Int)
       ·have a2 : ¬ ((c.toNat : Int) ≤ 57) := by omega
        clear hd hnd HR2 hi
        go_enter Tryz.func43, Tryz.ntmps43
        go_wp2_with fail
        go_ret
        show Mp _ g P base R _ _
        rw [unhide HE]
        exact (unhide H).fail 40 (by omega) m
       ·clear hd hnd HR2 hi
        go_enter Tryz.func43, Tryz.ntmps43
        go_wp2_with fail
        go_ret
        show Mp _ g P base R _ _
        rw [unhide HE]
        exact (unhide H).fail 40 (by omega) m
#print axioms rbeg_rest
end Go.Proofs.YtbnbngmnoffmkaaGreatDoor
end
section
set_option linter.unusedVariables false
set_option maxRecDepth 1000000
namespace Go.Proofs.YtbnbngmnoffmkaaGreatDoor
open Go.RowKit

theorem Tryz.infoO : (Tryz.prog.info? 112).map (fun i => (i.zero, i.size, i.bytes)) = some (some (.agg #[.int .i64 0, .int .i64 0, .string ByteArray.empty, .slice none 0 0, .slice none 0 0, .string ByteArray.empty]), 6, 96) := by kernel_rfl
def opZ (k : Int) : List Value := [.int .i64 k, .int .i64 0, .string (str []), .slice none 0 0, .slice none 0 0, .string (str [])]
/-- append(open, one that opens). -/
theorem wp_appO (w : World) {ops : Array Oper} {rest : List Oper} {o : Oper} {a : Act} {Q : Exit → Act → World → Prop} (hgd : o.guard = none) (s x : Operand)
  (ho : o.op = .call { callee := .builtin .append, args := #[s, x], argTypes := #[49, 49] })
  (base : Nat) (a1 : Option Addr) (cap1 n1 : Nat) (xs : List Value) (hs : a.eval s = .slice a1 n1 cap1) (hown : w.ownsRow base 112 6 (.slice a1 n1 cap1) n1 xs)
  (B c2 : Nat) (k : Int) (hx : a.eval x = .slice (some ⟨B, 0, none⟩) 1 c2) (hsrc : w.heap[B]? = some (.cells (opZ k).toArray 112 (0, 0))) (hlen : n1 ≤ 1000000) (hb : base ≤ w.heap.size)
  (h : ∀ g cap w', Hid (w'.ownsRow base 112 6 (.slice (some ⟨g, 0, none⟩) (n1 + 1) cap) (n1 + 1) (xs ++ opZ k)) → Hid (w.grownBy w' (blk a1)) → Hid (blk a1 = some g ∨ g = w.heap.size) → Hid (g < w'.heap.size) → wpList Tryz.prog ops Q rest (a.put o.dst (.slice (some ⟨g, 0, none⟩) (n1 + 1) cap)) w') : wpList Tryz.prog ops Q (o :: rest) a w := by
 obtain ⟨i, hi, hz0, hz1, hz2⟩ := info_parts Tryz.infoO
 refine wpList_append_lies w hgd s x 49 ho base 112 i _ 6 96 Tryz.underlying49 hi hz0 hz1 hz2 rfl (by decide) _ _ _ hs hown ⟨B, 0, none⟩ 1 c2 (opZ k) hx rfl ?_ (by simp [opZ, Value.oneCell']) (by decide) (by unfold maxLen; omega) (by omega) hb _ rfl ?_
 ·intro j u hu
  rw [addr_add, Nat.zero_add, cell_of_row w B j _ _ _ hsrc]
  simpa using hu
 ·intro g cap w' h1 h2 h3 h4
  have hblk : (Value.slice a1 n1 cap1).ownBlock = blk a1 := by cases a1 <;> rfl
  rw [hblk] at h2 h3
  exact h g cap w' h1 h2 h3 h4
section
variable {w : World} {g : Nat → Nat} {P base : Nat} {m : Mc} {la : Option Addr} {lc : Nat} {vk vn : Int} {vt : List UInt8} {va1 : Option Addr} {vn1 vc1 : Nat} {va2 : Option Addr} {vn2 vc2 : Nat} {ta : Option Addr} {tc : Nat} {ca : Option Addr} {cc : Nat} {fs : List Value}
/-- The machine with one open more. -/
theorem MS.push (h : MS w g P base m la lc vk vn vt va1 vn1 vc1 va2 vn2 vc2 ta tc ca cc fs) {k : Int} {u w2 w6 : World} {G cap s' : Nat} (hb : Below w.heap.size w u) (hg : u.grownBy w2 (blk la)) (hat : blk la = some G ∨ G = u.heap.size) (hGl : G < w2.heap.size)
  (hlo : w2.ownsRow base 112 6 (.slice (some ⟨G, 0, none⟩) (m.l.length + 1) cap) (m.l.length + 1) (fs ++ opZ k)) (e6 : w6 = (w2.setCell ⟨P, 1, none⟩ (.slice (some ⟨G, 0, none⟩) (m.l.length + 1) cap)).setCell ⟨P, 0, none⟩ (.int .i64 (s' : Int))) :
  MS w6 (tagB g G 2) P base { m with l := m.l ++ [⟨k, [], [], []⟩], st := s' } (some ⟨G, 0, none⟩) cap vk vn vt va1 vn1 vc1 va2 vn2 vc2 ta tc ca cc (fs ++ opZ k) ∧ Kq w w6 g (tagB g G 2) (fun t => t ≠ 1 ∧ t ≠ 2) := by
 have hu := h.below hb
 have hPG : P ≠ G := by
  rintro rfl
  rcases hat with e | e
  ·exact h.ne.2.2 P e rfl
  ·have := h.lt; have := hb.size; omega
 have mv : Mv w2 w6 P := by rw [e6]; exact (Mv.set _ _ _ _).trans (Mv.set _ _ _ _)
 have hk2 : ∀ k, k < u.heap.size → blk la ≠ some k → w2.heap[k]? = u.heap[k]? := fun k hk hn => hg.block k hk (fun e => hn e.symm)
 have hk6 : ∀ k, k < w2.heap.size → k ≠ P → w6.heap[k]? = w2.heap[k]? := fun k hk hn => mv.block k hk (fun e => hn (Option.some.inj e))
 have K : Kq w w6 g (tagB g G 2) (fun t => t ≠ 1 ∧ t ≠ 2) := by
  refine ⟨(mv.os.trans hg.os).trans hb.os, (mv.tape.trans hg.tape).trans hb.tape, (mv.output.trans hg.output).trans hb.output, Nat.le_trans hb.size (Nat.le_trans hg.size mv.size), fun k hk ht => ?_⟩
  have hkG : k ≠ G := by
   rintro rfl
   rcases hat with e | e
   ·exact ht.2 (h.tl k e)
   ·have := hb.size; omega
  have hkP : k ≠ P := fun e => ht.1 (by rw [e]; exact h.tP)
  have hku := Nat.lt_of_lt_of_le hk hb.size
  exact ⟨tagB_ne hkG, (hk6 k (Nat.lt_of_lt_of_le hku hg.size) hkP).trans ((hk2 k hku (fun e => ht.2 (h.tl k e))).trans (hb.block k hk))⟩
 have row2 : w2.heap[P]? = some (mcO m la lc vk vn vt va1 vn1 vc1 va2 vn2 vc2 ta tc ca cc) := (hk2 P hu.lt (fun e => h.ne.2.2 P e rfl)).trans hu.row
 refine ⟨⟨?_, jv_kq K (by omega) h.jv, ?_, fun i p hi => ?_, ?_, ?_, ?_, fun k hk => ?_, fun k hk => ?_, fun k hk => ?_, h.bP⟩, K⟩
 ·rw [e6, show (m.l.length + 1) = (m.l ++ [(⟨k, [], [], []⟩ : Opn)]).length by simp]
  exact heap_setCell_same _ _ _ _ _ _ (heap_setCell_same _ _ _ _ _ _ row2)
 ·show w6.ownsRow base _ 6 (.slice _ (m.l ++ [_]).length cap) (m.l ++ [_]).length _
  rw [List.length_append]
  exact owns_same hlo (fun k hk => hk6 k (owns_lt hlo k hk).2 (by have : G = k := (by simpa [blk] using hk); omega))
 ·have hi' : (m.l ++ [(⟨k, [], [], []⟩ : Opn)])[i]? = some p := hi
  have hfl : fs.length = m.l.length * 6 := h.lo.1
  by_cases hlt : i < m.l.length
  ·rw [List.getElem?_append_left hlt] at hi'
   exact op_same (op_kq K (by omega) ⟨by omega, by omega⟩ ⟨by omega, by omega⟩ (h.el i p hi')) (fun r hr => List.getElem?_append_left (by omega))
  ·have hil := (List.getElem?_eq_some_iff.1 hi').1
   simp at hil
   obtain rfl : i = m.l.length := by omega
   simp at hi'
   subst hi'
   have q : ∀ r, r < 6 → (fs ++ opZ k)[m.l.length * 6 + r]? = (opZ k)[r]? := fun r hr => by rw [List.getElem?_append_right (by omega), show m.l.length * 6 + r - fs.length = r by omega]
   refine ⟨none, 0, none, 0, [], (q 0 (by omega)).trans rfl, (q 1 (by omega)).trans rfl, (q 2 (by omega)).trans rfl, (q 3 (by omega)).trans rfl, (q 4 (by omega)).trans rfl, (q 5 (by omega)).trans rfl, World.ownsRow_nil _ _ _ _, World.ownsRow_nil _ _ _ _, fun k hk => by simp [blk] at hk, fun k hk => by simp [blk] at hk, fun q j hj => by simp at hj⟩
 ·exact owns_same h.tx (fun k hk => (K.tag k (owns_lt h.tx k hk).2 (by rw [h.tt k hk]; omega)).2)
 ·exact owns_same h.ch (fun k hk => (K.tag k (owns_lt h.ch k hk).2 (by rw [h.th k hk]; omega)).2)
 ·rw [tagB_ne hPG]; exact h.tP
 ·have : G = k := by simpa [blk] using hk
  subst this
  exact tagB_at _ _ _
 ·exact (K.tag k (owns_lt h.tx k hk).2 (by rw [h.tt k hk]; omega)).1.trans (h.tt k hk)
 ·exact (K.tag k (owns_lt h.ch k hk).2 (by rw [h.th k hk]; omega)).1.trans (h.th k hk)
end
#print axioms wp_appO
#print axioms MS.push
end Go.Proofs.YtbnbngmnoffmkaaGreatDoor
end
section
set_option linter.unusedVariables false
set_option maxRecDepth 1000000
namespace Go.Proofs.YtbnbngmnoffmkaaGreatDoor
open Go.RowKit

set_option maxHeartbeats 16000000 in
theorem rbeg_list (N : Nat) (c : UInt8) (hc : c = 91) {w : World} {g : Nat → Nat} {P base : Nat} {m : Mc} {la : Option Addr} {lc : Nat} {vk vn : Int} {vt : List UInt8} {va1 : Option Addr} {vn1 vc1 : Nat} {va2 : Option Addr} {vn2 vc2 : Nat} {ta : Option Addr} {tc : Nat} {ca : Option Addr} {cc : Nat} {fs : List Value}
  (h : MS w g P base m la lc vk vn vt va1 vn1 vc1 va2 vn2 vc2 ta tc ca cc fs) (hi : Iv N m) (hbs : base ≤ w.heap.size) :
  Calls Tryz.prog 43 #[.pointer (some ⟨P, 0, none⟩), .int .u8 (c.toNat : Int)] w fun e w' => Mp w g P base (beginsM m c) e w' := by
 have H := hide h
 obtain ⟨hcell, hfr⟩ := h.cells
 have c0 := hcell 0 _ rfl
 have f0 := hfr 0
 have c1 := hcell 1 _ rfl
 have f1 := hfr 1
 try dsimp only at c1
 have HB := hide hbs
 obtain ⟨R, hR⟩ : ∃ R, R = beginsM m c := ⟨_, rfl⟩
 rw [← hR]
 unfold beginsM at hR
 have HR := hide hR
 clear hcell hfr h hR hbs
 have u91 : ((c.toNat : Int) == 91) = true := by rw [hc]; rfl
 have u123 : ((c.toNat : Int) == 123) = false := by rw [hc]; rfl
 by_cases hl : 16 ≤ m.l.length
 ·have HE : Hid (R = (41, m)) := by show _ = _; rw [unhide HR, hc]; simp [hl]
  have z16 : ((16 : Int) ≤ (m.l.length : Int)) := by omega
  obtain ⟨T, hT⟩ : ∃ T, T = m.l.length := ⟨_, rfl⟩
  rw [← hT] at c1 z16
  clear hc HR hi hl hT HB
  go_enter Tryz.func43, Tryz.ntmps43
  go_wp2_with fail
  go_ret
  show Mp _ g P base R _ _
  rw [unhide HE]
  exact (unhide H).fail 41 (by omega) m
 ·have HE : Hid (R = (0, { m with l := m.l ++ [⟨4, [], [], []⟩], st := 1 })) := by show _ = _; rw [unhide HR, hc]; simp [hl]
  have z16 : ¬ ((16 : Int) ≤ (m.l.length : Int)) := by omega
  have HL : Hid (m.l.length ≤ 1000000) := by show _ ≤ _; omega
  obtain ⟨T, hT⟩ : ∃ T, T = m.l.length := ⟨_, rfl⟩
  have HO : Hid (w.ownsRow base 112 6 (.slice la T lc) T fs) := by rw [hT]; exact (unhide H).lo
  obtain ⟨u, hu⟩ : ∃ u, u = w.alloc (.cells (opZ 4).toArray 112) := ⟨_, rfl⟩
  have bu : Below w.heap.size w u := by rw [hu]; exact (Below.refl _ _).alloc (Nat.le_refl _) _
  have HBU := hide bu
  have HOu : Hid (u.ownsRow base 112 6 (.slice la T lc) T fs) := owns_same (unhide HO) (fun k hk => bu.block k (owns_lt (unhide HO) k hk).2)
  have HBb : Hid (base ≤ u.heap.size) := Nat.le_trans (unhide HB) bu.size
  have HR1 : Hid (u.heap[w.heap.size]? = some (.cells (opZ 4).toArray 112 (0, 0))) := by rw [hu]; exact heap_alloc_new _ _
  have HTL : Hid (T ≤ 1000000) := by show T ≤ _; have := unhide HL; omega
  rw [← hT] at c1 z16
  have HT := hide hT
  have HU : Hid (u = w.alloc (.cells #[.int .i64 4, .int .i64 0, .string ⟨#[]⟩, .slice none 0 0, .slice none 0 0, .string ⟨#[]⟩] 112)) := hu
  have HF : Hid (∀ w2 G cap s' w6, u.grownBy w2 (blk la) → (blk la = some G ∨ G = u.heap.size) → G < w2.heap.size → w2.ownsRow base 112 6 (.slice (some ⟨G, 0, none⟩) (T + 1) cap) (T + 1) (fs ++ opZ 4) → w6 = (w2.setCell ⟨P, 1, none⟩ (.slice (some ⟨G, 0, none⟩) (T + 1) cap)).setCell ⟨P, 0, none⟩ (.int .i64 ((s' : Nat) : Int)) → s' = 1 → Mp w g P base R (.returned (.int .i64 0)) w6) := fun w2 G cap s' w6 a1 a2 a3 a4 a5 a6 => by
   subst a6
   have e := unhide HT
   rw [e] at a4 a5
   obtain ⟨q1, q2⟩ := (unhide H).push (unhide HBU) a1 a2 a3 a4 a5
   rw [unhide HE]
   exact ⟨_, rfl, fun _ => q1.mb, q2.mono (fun t ht => by omega)⟩
  have HC1 : Hid (∀ w2, u.grownBy w2 (blk la) → (∃ x, w2.cell? ⟨P, 1, none⟩ = some x) ∧ (∃ x, w2.cell? ⟨P, 0, none⟩ = some x) ∧ w2.frozen? ⟨P, 1, none⟩ = false ∧ w2.frozen? ⟨P, 0, none⟩ = false) := fun w2 hg => by
   have hp := (unhide H).below (unhide HBU)
   have r := (hg.block P hp.lt (fun e => hp.ne.2.2 P e.symm rfl)).trans hp.row
   exact ⟨⟨_, cell_of_row _ _ _ _ _ _ r⟩, ⟨_, cell_of_row _ _ _ _ _ _ r⟩, frozen_of_row _ _ _ _ _ r, frozen_of_row _ _ _ _ _ r⟩
  clear hc HR hi hl hT HB bu hu HL HO
  go_enter Tryz.func43, Tryz.ntmps43
  go_wp2_with (at_builtin; rw [← unhide HU]; refine wp_appO u rfl _ _ rfl base la lc T fs rfl (unhide HOu) w.heap.size 1 4 rfl (unhide HR1) (unhide HTL) (unhide HBb) ?_)
  intro G cap w2 HO2 HG2 HA2 HL2
  obtain ⟨⟨x1, d1⟩, ⟨x0, d0⟩, f1', f0'⟩ := unhide HC1 w2 (unhide HG2)
  clear c0 c1 f0 f1
  go_wp2_with fail
  go_ret
  show Mp _ g P base R _ _
  exact unhide HF w2 G cap 1 _ (unhide HG2) (unhide HA2) (unhide HL2) (unhide HO2) rfl rfl
set_option maxHeartbeats 16000000 in
theorem rbeg_obj (N : Nat) (c : UInt8) (hc : c = 123) {w : World} {g : Nat → Nat} {P base : Nat} {m : Mc} {la : Option Addr} {lc : Nat} {vk vn : Int} {vt : List UInt8} {va1 : Option Addr} {vn1 vc1 : Nat} {va2 : Option Addr} {vn2 vc2 : Nat} {ta : Option Addr} {tc : Nat} {ca : Option Addr} {cc : Nat} {fs : List Value}
  (h : MS w g P base m la lc vk vn vt va1 vn1 vc1 va2 vn2 vc2 ta tc ca cc fs) (hi : Iv N m) (hbs : base ≤ w.heap.size) :
  Calls Tryz.prog 43 #[.pointer (some ⟨P, 0, none⟩), .int .u8 (c.toNat : Int)] w fun e w' => Mp w g P base (beginsM m c) e w' := by
 have H := hide h
 obtain ⟨hcell, hfr⟩ := h.cells
 have c0 := hcell 0 _ rfl
 have f0 := hfr 0
 have c1 := hcell 1 _ rfl
 have f1 := hfr 1
 try dsimp only at c1
 have HB := hide hbs
 obtain ⟨R, hR⟩ : ∃ R, R = beginsM m c := ⟨_, rfl⟩
 rw [← hR]
 unfold beginsM at hR
 have HR := hide hR
 clear hcell hfr h hR hbs
 have u91 : ((c.toNat : Int) == 91) = false := by rw [hc]; rfl
 have u123 : ((c.toNat : Int) == 123) = true := by rw [hc]; rfl
 by_cases hl : 16 ≤ m.l.length
 ·have HE : Hid (R = (41, m)) := by show _ = _; rw [unhide HR, hc]; simp [hl]
  have z16 : ((16 : Int) ≤ (m.l.length : Int)) := by omega
  obtain ⟨T, hT⟩ : ∃ T, T = m.l.length := ⟨_, rfl⟩
  rw [← hT] at c1 z16
  clear hc HR hi hl hT HB
  go_enter Tryz.func43, Tryz.ntmps43
  go_wp2_with fail
  go_ret
  show Mp _ g P base R _ _
  rw [unhide HE]
  exact (unhide H).fail 41 (by omega) m
 ·have HE : Hid (R = (0, { m with l := m.l ++ [⟨5, [], [], []⟩], st := 3 })) := by show _ = _; rw [unhide HR, hc]; simp [hl]
  have z16 : ¬ ((16 : Int) ≤ (m.l.length : Int)) := by omega
  have HL : Hid (m.l.length ≤ 1000000) := by show _ ≤ _; omega
  obtain ⟨T, hT⟩ : ∃ T, T = m.l.length := ⟨_, rfl⟩
  have HO : Hid (w.ownsRow base 112 6 (.slice la T lc) T fs) := by rw [hT]; exact (unhide H).lo
  obtain ⟨u, hu⟩ : ∃ u, u = w.alloc (.cells (opZ 5).toArray 112) := ⟨_, rfl⟩
  have bu : Below w.heap.size w u := by rw [hu]; exact (Below.refl _ _).alloc (Nat.le_refl _) _
  have HBU := hide bu
  have HOu : Hid (u.ownsRow base 112 6 (.slice la T lc) T fs) := owns_same (unhide HO) (fun k hk => bu.block k (owns_lt (unhide HO) k hk).2)
  have HBb : Hid (base ≤ u.heap.size) := Nat.le_trans (unhide HB) bu.size
  have HR1 : Hid (u.heap[w.heap.size]? = some (.cells (opZ 5).toArray 112 (0, 0))) := by rw [hu]; exact heap_alloc_new _ _
  have HTL : Hid (T ≤ 1000000) := by show T ≤ _; have := unhide HL; omega
  rw [← hT] at c1 z16
  have HT := hide hT
  have HU : Hid (u = w.alloc (.cells #[.int .i64 5, .int .i64 0, .string ⟨#[]⟩, .slice none 0 0, .slice none 0 0, .string ⟨#[]⟩] 112)) := hu
  have HF : Hid (∀ w2 G cap s' w6, u.grownBy w2 (blk la) → (blk la = some G ∨ G = u.heap.size) → G < w2.heap.size → w2.ownsRow base 112 6 (.slice (some ⟨G, 0, none⟩) (T + 1) cap) (T + 1) (fs ++ opZ 5) → w6 = (w2.setCell ⟨P, 1, none⟩ (.slice (some ⟨G, 0, none⟩) (T + 1) cap)).setCell ⟨P, 0, none⟩ (.int .i64 ((s' : Nat) : Int)) → s' = 3 → Mp w g P base R (.returned (.int .i64 0)) w6) := fun w2 G cap s' w6 a1 a2 a3 a4 a5 a6 => by
   subst a6
   have e := unhide HT
   rw [e] at a4 a5
   obtain ⟨q1, q2⟩ := (unhide H).push (unhide HBU) a1 a2 a3 a4 a5
   rw [unhide HE]
   exact ⟨_, rfl, fun _ => q1.mb, q2.mono (fun t ht => by omega)⟩
  have HC1 : Hid (∀ w2, u.grownBy w2 (blk la) → (∃ x, w2.cell? ⟨P, 1, none⟩ = some x) ∧ (∃ x, w2.cell? ⟨P, 0, none⟩ = some x) ∧ w2.frozen? ⟨P, 1, none⟩ = false ∧ w2.frozen? ⟨P, 0, none⟩ = false) := fun w2 hg => by
   have hp := (unhide H).below (unhide HBU)
   have r := (hg.block P hp.lt (fun e => hp.ne.2.2 P e.symm rfl)).trans hp.row
   exact ⟨⟨_, cell_of_row _ _ _ _ _ _ r⟩, ⟨_, cell_of_row _ _ _ _ _ _ r⟩, frozen_of_row _ _ _ _ _ r, frozen_of_row _ _ _ _ _ r⟩
  clear hc HR hi hl hT HB bu hu HL HO
  go_enter Tryz.func43, Tryz.ntmps43
  go_wp2_with (at_builtin; rw [← unhide HU]; refine wp_appO u rfl _ _ rfl base la lc T fs rfl (unhide HOu) w.heap.size 1 5 rfl (unhide HR1) (unhide HTL) (unhide HBb) ?_)
  intro G cap w2 HO2 HG2 HA2 HL2
  obtain ⟨⟨x1, d1⟩, ⟨x0, d0⟩, f1', f0'⟩ := unhide HC1 w2 (unhide HG2)
  clear c0 c1 f0 f1
  go_wp2_with fail
  go_ret
  show Mp _ g P base R _ _
  exact unhide HF w2 G cap 3 _ (unhide HG2) (unhide HA2) (unhide HL2) (unhide HO2) rfl rfl
theorem rbegins4 (N : Nat) (c : UInt8) {w : World} {g : Nat → Nat} {P base : Nat} {m : Mc} {la : Option Addr} {lc : Nat} {vk vn : Int} {vt : List UInt8} {va1 : Option Addr} {vn1 vc1 : Nat} {va2 : Option Addr} {vn2 vc2 : Nat} {ta : Option Addr} {tc : Nat} {ca : Option Addr} {cc : Nat} {fs : List Value}
  (h : MS w g P base m la lc vk vn vt va1 vn1 vc1 va2 vn2 vc2 ta tc ca cc fs) (hi : Iv N m) (hbs : base ≤ w.heap.size) :
  Calls Tryz.prog 43 #[.pointer (some ⟨P, 0, none⟩), .int .u8 (c.toNat : Int)] w fun e w' => Mp w g P base (beginsM m c) e w' := by
 by_cases h1 : c = 91
 ·exact rbeg_list N c h1 h hi hbs
 by_cases h2 : c = 123
 ·exact rbeg_obj N c h2 h hi hbs
 exact rbeg_rest N c h1 h2 h hi
#print axioms rbegins4
end Go.Proofs.YtbnbngmnoffmkaaGreatDoor
end
