/-
  jsonx's statements: a value in memory of its own: own.; jsonx's statements: a member of one's own value is written anew.; for all values JsonxBack answers true.; for all values and numbers JsonxCut answers true.; for all values and numbers JsonxOrder answers true.
-/
import Derived.Test.YtibiegeladphjaaGreatDoorPkJderbi
import Derived.Deep.RegionLaw
import Derived.Test.YtibiegeladphjaaGreatDoorPkJderbd
import Derived.Test.YtibiegeladphjaaGreatDoorPkJderbe
section
set_option linter.unusedVariables false
set_option maxRecDepth 1000000
namespace Go.Proofs.YtibiegeladphjaaGreatDoor
open Go.RowKit

/-- What own hands back. -/
def OwP (w : World) (j : Js) (e : Ending) (w' : World) : Prop := ∃ v lo, e = .returned v ∧ w.heap.size ≤ lo ∧ CpJ lo w' v j ∧ Below w.heap.size w w'
def OwC (j : Js) : Prop := ∀ (S : Nat → Prop) (v : Value) (w : World), JV w S v j → (∀ k, S k → k < w.heap.size) → Sz j → Calls Tryz.prog 12 #[v] w fun e w' => OwP w j e w'
set_option maxHeartbeats 16000000 in
theorem own_core (k n : Int) (t : List UInt8) (ns : List (List UInt8)) (is : List Js) (hrec : ∀ x ∈ is, OwC x) : OwC (.mk k n t ns is) := by
  intro S v w hJ hS hz
  simp only [JV] at hJ
  obtain ⟨a1, c1, a2, c2, rfl, hN, hnc, hnm, hnn, hic, him, _, hIt⟩ := hJ
  simp only [Sz] at hz
  obtain ⟨hz1, hz2, hz3, hz4, hz5, hz6⟩ := hz
  obtain ⟨m, hm⟩ : ∃ m, m = is.length := ⟨_, rfl⟩
  obtain ⟨g, hg⟩ : ∃ g, g = ns.length := ⟨_, rfl⟩
  have HM := hide hm
  have HG := hide hg
  obtain ⟨V1, hV1⟩ : ∃ V1, V1 = w.heap.size := ⟨_, rfl⟩
  obtain ⟨V2, hV2⟩ : ∃ V2, V2 = w.heap.size + 1 := ⟨_, rfl⟩
  obtain ⟨V3, hV3⟩ : ∃ V3, V3 = w.heap.size + 1 + 1 := ⟨_, rfl⟩
  obtain ⟨W, hW⟩ : ∃ W, W = ((w.alloc (.cells #[.int .i64 k, .int .i64 n, .string (str t), .slice a1 ns.length c1, .slice a2 is.length c2] 25)).alloc (.cells #[.int .i64 0, .int .i64 0, .string ⟨#[]⟩, .slice none 0 0, .slice none 0 0] 25)).alloc (.cells #[.int .i64 k, .int .i64 n, .string (str t), .slice a1 ns.length c1, .slice a2 is.length c2] 25) := ⟨_, rfl⟩
  have bW : Below w.heap.size w W := by rw [hW]; exact below3 w _ _ _
  have sW : W.heap.size = w.heap.size + 3 := by rw [hW]; simp
  have rV3 : W.heap[V3]? = some (.cells #[.int .i64 k, .int .i64 n, .string (str t), .slice a1 g c1, .slice a2 m c2] 25 (0, 0)) := by
    rw [hW, hV3, hm, hg]
    have := heap_alloc_new (((w.alloc (.cells #[.int .i64 k, .int .i64 n, .string (str t), .slice a1 ns.length c1, .slice a2 is.length c2] 25)).alloc (.cells #[.int .i64 0, .int .i64 0, .string ⟨#[]⟩, .slice none 0 0, .slice none 0 0] 25))) (.cells #[.int .i64 k, .int .i64 n, .string (str t), .slice a1 ns.length c1, .slice a2 is.length c2] 25)
    simpa using this
  have rV2 : W.heap[V2]? = some (.cells #[.int .i64 0, .int .i64 0, .string ⟨#[]⟩, .slice none 0 0, .slice none 0 0] 25 (0, 0)) := by
    rw [hW, hV2, heap_alloc_old _ _ (by simp)]
    exact heap_alloc2_new _ _ _
  have rV1 : W.heap[V1]? = some (.cells #[.int .i64 k, .int .i64 n, .string (str t), .slice a1 g c1, .slice a2 m c2] 25 (0, 0)) := by
    rw [hW, hV1, hm, hg, heap_alloc_old _ _ (by simp; omega), heap_alloc_old _ _ (by simp)]
    exact heap_alloc_new _ _
  have h12 : V1 < V2 ∧ V2 < V3 ∧ w.heap.size ≤ V1 := by omega
  have hsz3 : W.heap.size = V3 + 1 := by omega
  have HCL := hide (nclone_any a1 c1 ns S W (hN.keep (fun q hq => ⟨hq, bW.block q (hS q hq)⟩)) hnn hnc (by omega))
  rw [← hg] at HCL
  have HI := hide hIt
  have HS := hide hS
  have HREC := hide hrec
  have HZ6 := hide hz6
  have HbW := hide bW
  have HsW := hide hsz3
  have H12 := hide h12
  have HRV1 := hide rV1
  have HRV2 := hide rV2
  have HRV3 := hide rV3
  have hmB : m ≤ 100000 := by omega
  have hgB : g ≤ 100000 := by omega
  obtain ⟨p0, p1, p2, p3, p4⟩ := cells5 rV1
  rw [← hg, ← hm] at hW
  rw [← hg, ← hm]
  clear hN hIt hS hrec hz1 hz2 hz3 hz4 hz5 hz6 bW sW rV1 rV2 rV3 h12 hsz3 hm hg hnc hnm hnn hic him
  go_enter Tryz.func12, Tryz.ntmps12
  go_upto_region 2 with fail
  rw [← hW, ← hV3, ← hV2, ← hV1]
  clear hW hV1 hV2 hV3
  go_wp2_with fail
  refine (unhide HCL).mono ?_
  rintro e w2 ⟨a', c', rfl, HO2, HB2⟩
  have HR3 := hide (((unhide HB2).block V3 (by rw [unhide HsW]; omega)).trans (unhide HRV3))
  have f3 := frozen_of_row w2 V3 3 _ _ (unhide HR3)
  have f4 := frozen_of_row w2 V3 4 _ _ (unhide HR3)
  have d3 := cell_of_row w2 V3 3 _ _ _ (unhide HR3)
  have d4 := cell_of_row w2 V3 4 _ _ _ (unhide HR3)
  simp only [List.getElem?_toArray, List.getElem?_cons_succ, List.getElem?_cons_zero] at d3 d4
  clear HCL p0 p1 p2 p3 p4
  obtain ⟨w4, hw4⟩ : ∃ w4, w4 = (w2.setCell ⟨V3, 3, none⟩ (.slice a' g c')).setCell ⟨V3, 4, none⟩ (.slice none 0 0) := ⟨_, rfl⟩
  have hk4 : ∀ x, x ≠ V3 → w4.heap[x]? = w2.heap[x]? := fun x hx => by rw [hw4, Below.heap_setCell _ ⟨V3, 4, none⟩ _ x hx, Below.heap_setCell _ ⟨V3, 3, none⟩ _ x hx]
  have hs4 : w4.heap.size = w2.heap.size := by rw [hw4]; simp
  have HB4 : Hid (Bw w4 V3 W.heap.size k n t ns [] a' c' none 0 []) := by
    have hne : ∀ x, blk a' = some x → x ≠ V3 := fun x hx e => by have := (owns_lt (unhide HO2) x hx).1; rw [unhide HsW] at this; omega
    refine ⟨?_, owns_same (unhide HO2) (fun x hx => hk4 x (hne x hx)), ⟨rfl, .inl ⟨rfl, rfl⟩⟩, fun _ _ h => by simp at h, fun e => hne V3 e rfl, (fun e => by cases e), (fun _ _ e => by cases e)⟩
    rw [hw4, ← unhide HG]
    exact heap_setCell_same _ _ _ _ _ _ (heap_setCell_same _ _ _ _ _ _ (unhide HR3))
  have HM4 : Hid (Mv W w4 V3) := by
    show Mv _ _ _
    rw [hw4]
    exact ((Mv.ofB (unhide HB2)).trans (Mv.set w2 V3 3 _)).trans (Mv.set _ V3 4 _)
  have HR1 := hide ((hk4 V1 (by have := unhide H12; omega)).trans (((unhide HB2).block V1 (by rw [unhide HsW]; have := unhide H12; omega)).trans (unhide HRV1)))
  obtain ⟨p0, p1, p2, p3, p4⟩ := cells5 (unhide HR1)
  clear hk4 hs4 HR3 HO2 HB2
  go_upto_region 4 with fail
  rw [← hw4]
  clear hw4 d3 d4 f3 f4
  go_wp2_with fail
  clear p0 p1 p2 p3 p4
  go_loopw [15] (fun v wr => ∃ (q : Nat) (L : List Js) (ca : Option Addr) (cc : Nat) (xs : List Value), q ≤ m ∧ v = .int .i64 (q : Int) ∧ Hid (L = is.take q) ∧ Hid (Bw wr V3 W.heap.size k n t ns L a' c' ca cc xs) ∧ Hid (Mv W wr V3)) (fun v _ => m - (intOf v).toNat)
  case atStart => exact ⟨0, [], none, 0, [], Nat.zero_le _, rfl, by show _ = _; simp, HB4, HM4⟩
  case round =>
    obtain ⟨q, L, ca, cc, xs, hq, rfl, HLq, HBq, HMq⟩ := hrel
    by_cases hlt : q < m
    · have hlt' : (q : Int) < (m : Int) := by omega
      obtain ⟨x, hx⟩ : ∃ x, is[q]? = some x := ⟨_, List.getElem?_eq_getElem (by rw [← unhide HM]; exact hlt)⟩
      have hLl : L.length ≤ 100000 := by rw [unhide HLq, List.length_take]; omega
      have HL1 : Hid (L ++ [x] = is.take (q + 1)) := by show _ = _; rw [List.take_add_one, hx, unhide HLq]; rfl
      have hmem := List.mem_of_getElem? hx
      have ex := ((jvs_iff w S a2 is 0).1 (unhide HI) q x hx).keep (S' := S) (w' := wr) (fun y hy => ⟨hy, ((unhide HMq).block y (Nat.lt_of_lt_of_le (unhide HS y hy) (unhide HbW).size) (fun e => by have := Option.some.inj e; have := unhide HS y hy; have := unhide H12; omega)).trans ((unhide HbW).block y (unhide HS y hy))⟩)
      rw [Nat.zero_add] at ex
      obtain ⟨B, off, v0, v1, v2, v3, v4, rfl, hSb, g0, g1, g2, g3, g4, hj⟩ := ex
      obtain ⟨jk, jn, jt, ja1, jn1, jc1, ja2, jn2, jc2, e⟩ := hj.form
      simp only [Value.agg.injEq, Array.mk.injEq, List.cons.injEq, and_true] at e
      obtain ⟨rfl, rfl, rfl, rfl, rfl⟩ := e
      obtain ⟨Z, hZ⟩ : ∃ Z, Z = wr.heap.size := ⟨_, rfl⟩
      obtain ⟨U, hU⟩ : ∃ U, U = wr.alloc (.cells #[.int .i64 jk, .int .i64 jn, .string (str jt), .slice ja1 jn1 jc1, .slice ja2 jn2 jc2] 25) := ⟨_, rfl⟩
      have bU : Below wr.heap.size wr U := by rw [hU]; exact (Below.refl _ _).alloc (Nat.le_refl _) _
      have rU : U.heap[Z]? = some (.cells #[.int .i64 jk, .int .i64 jn, .string (str jt), .slice ja1 jn1 jc1, .slice ja2 jn2 jc2] 25 (0, 0)) := by rw [hU, hZ]; exact heap_alloc_new _ _
      have hsl : ∀ y, S y → y < wr.heap.size := fun y hy => by have := unhide HS y hy; have := (unhide HbW).size; have := (unhide HMq).size; omega
      have HC := hide (unhide HREC x hmem S _ U.drew (JV.keep (w := wr) (w' := U.drew) (fun y hy => ⟨hy, bU.block y (hsl y hy)⟩) _ _ hj) (fun y hy => Nat.lt_of_lt_of_le (hsl y hy) bU.size) ((szs_iff is).1 (unhide HZ6) x hmem))
      have HBU := hide ((unhide HBq).below bU)
      have HMU : Hid (Mv W U V3) := (unhide HMq).trans (Mv.ofB bU)
      have HWsz : Hid (W.heap.size ≤ U.heap.size) := (unhide HMU).size
      obtain ⟨d0, d1, d2, d3, d4⟩ := cells5 rU
      obtain ⟨_, c4, _⟩ := (unhide HBU).cells
      clear hx hmem hSb hj bU rU hsl HBq HMq HLq
      go_upto_region 7 with fail
      rw [← hU, ← hZ]
      clear hU hZ g0 g1 g2 g3 g4
      go_region_law (first
        | (refine stp_app5 _ rfl _ _ rfl W.heap.size ca cc L.length xs rfl ((unhide HB5).below ((Below.refl _ _).alloc (Nat.le_refl _) _)).it w5.heap.size _ rfl [.int .i64 rk, .int .i64 rn, .string (str rt), .slice ra1 rn1 rc1, .slice ra2 rn2 rc2] rfl (by simp [Value.oneCell']) (heap_alloc_new _ _) (by omega) (by simp; have := unhide HW5; omega) ?_
           intro gg cap w7 HO HGr HAT HGL
           have HR7 := hide (((unhide HGr).block V3 ((unhide HB5).below ((Below.refl _ _).alloc (Nat.le_refl _) _)).lt (fun e => (unhide HB5).v2 e.symm)).trans ((unhide HB5).below ((Below.refl _ _).alloc (Nat.le_refl _) _)).row)
           have f7 := frozen_of_row w7 V3 4 _ _ (unhide HR7)
           have c7 : w7.cell? ⟨V3, 4, none⟩ = some (.slice ca L.length cc) := (cells5 (unhide HR7)).2.2.2.2)
        | (go_simp
           go_at_call 12
           refine (unhide HC).mono ?_
           rintro e w5 ⟨v', lo', rfl, hlo', hcp, hb5⟩
           have hj5 : JV w5 (fun y => U.heap.size ≤ y ∧ y < w5.heap.size) v' x := hcp.jv (fun y h1 h2 => ⟨Nat.le_trans hlo' h1, h2⟩)
           obtain ⟨rk, rn, rt, ra1, rn1, rc1, ra2, rn2, rc2, rfl⟩ := hj5.form
           have HJ5 := hide hj5
           have HB5 : Hid (Bw w5 V3 W.heap.size k n t ns L a' c' ca cc xs) := (unhide HBU).below ((Below.refl _ _).drew.trans hb5)
           have HM5 : Hid (Mv W w5 V3) := (unhide HMU).trans (Mv.ofB ((Below.refl _ _).drew.trans hb5))
           have HW5 : Hid (W.heap.size ≤ w5.heap.size) := (unhide HM5).size
           have HS5 : Hid (U.heap.size ≤ w5.heap.size) := hb5.size
           have c5 : w5.cell? ⟨V3, 4, none⟩ = some (.slice ca L.length cc) := (unhide HB5).cells.2.1
           have hV5 : V3 < w5.heap.size := (unhide HB5).lt
           clear hcp hb5 hlo' hj5))
      all_goals
        obtain ⟨u, hu⟩ : ∃ u, u = w5.alloc (.cells #[.int .i64 rk, .int .i64 rn, .string (str rt), .slice ra1 rn1 rc1, .slice ra2 rn2 rc2] 25) := ⟨_, rfl⟩
        have b5u : Below w5.heap.size w5 u := by rw [hu]; exact (Below.refl _ _).alloc (Nat.le_refl _) _
        have HGu : u.grownBy w7 (blk ca) := by rw [hu]; exact unhide HGr
        have HATu : blk ca = some gg ∨ gg = u.heap.size := by rw [hu]; exact unhide HAT
        have hBu := (unhide HB5).below b5u
        have hgV : gg ≠ V3 := by
          rintro rfl
          rcases HATu with e | e
          · exact hBu.v2 e
          · have := hBu.lt; omega
        obtain ⟨w8, hw8⟩ : ∃ w8, w8 = w7.setCell ⟨V3, 4, none⟩ (.slice (some ⟨gg, 0, none⟩) (L.length + 1) cap) := ⟨_, rfl⟩
        have k8 : ∀ y, y ≠ V3 → w8.heap[y]? = w7.heap[y]? := fun y hy => by rw [hw8]; exact Below.heap_setCell _ ⟨V3, 4, none⟩ _ y hy
        have r8 : w8.heap[V3]? = some (.cells #[.int .i64 k, .int .i64 n, .string (str t), .slice a' ns.length c', .slice (some ⟨gg, 0, none⟩) (L.length + 1) cap] 25 (0, 0)) := by rw [hw8]; exact heap_setCell_same _ _ _ _ _ _ (unhide HR7)
        have s8 : w8.heap.size = w7.heap.size := by rw [hw8]; simp
        have hB8 : Bw w8 V3 W.heap.size k n t ns (L ++ [x]) a' c' (some ⟨gg, 0, none⟩) cap (xs ++ [.int .i64 rk, .int .i64 rn, .string (str rt), .slice ra1 rn1 rc1, .slice ra2 rn2 rc2]) :=
          hBu.push (old := U.heap.size) (JV.keep (fun y hy => ⟨⟨hy.1, Nat.lt_of_lt_of_le hy.2 b5u.size⟩, b5u.block y hy.2⟩) _ _ (unhide HJ5)) (unhide HWsz) (unhide HBU).lt (fun y hy => (owns_lt (unhide HBU).nm y hy).2) (fun y hy => (owns_lt (unhide HBU).it y hy).2) HGu HATu (unhide HGL) r8 (owns_same (unhide HO) (fun y hy => k8 y (fun e => hgV (by simp [blk] at hy; omega)))) (fun y h1 _ => k8 y h1) s8
        have HB8 := hide hB8
        have HM8 : Hid (Mv W w8 V3) := by
          show Mv _ _ _
          have m1 : Mv W u V3 := (unhide HM5).trans (Mv.ofB b5u)
          have m2 : Mv W w7 V3 := ⟨HGu.os.trans m1.os, HGu.tape.trans m1.tape, HGu.output.trans m1.output, Nat.le_trans m1.size HGu.size, fun y hy hne => (HGu.block y (Nat.lt_of_lt_of_le hy m1.size) (fun e => by have := (owns_lt hBu.it y e.symm).1; omega)).trans (m1.block y hy hne)⟩
          rw [hw8]
          exact m2.trans (Mv.set w7 V3 4 _)
        rw [← hw8]
        clear hw8 k8 r8 s8 hB8 hBu hgV HATu HGu b5u hu f7 c7 c5 hV5 d0 d1 d2 d3 d4 c4
        go_wp2_with fail
        go_roundw
        case rel => exact ⟨q + 1, L ++ [x], some ⟨gg, 0, none⟩, cap, _, by omega, by go_num, HL1, HB8, HM8⟩
        case measure => simp [intOf]; omega
    · have hqm : q = m := by omega
      subst hqm
      have hlt' : ¬ (q : Int) < (q : Int) := by omega
      have HLI : Hid (L = is) := by show _ = _; rw [unhide HLq, unhide HM, List.take_length]
      have hrow := (unhide HBq).row
      have HLs : Hid (L.length = q ∧ ns.length = g) := ⟨by rw [unhide HLI]; exact (unhide HM).symm, (unhide HG).symm⟩
      rw [(unhide HLs).1, (unhide HLs).2] at hrow
      obtain ⟨p0, p1, p2, p3, p4⟩ := cells5 hrow
      have r2 := ((unhide HMq).block V2 (by have := unhide H12; have := unhide HsW; omega) (fun e => by have := Option.some.inj e; have := unhide H12; omega)).trans (unhide HRV2)
      obtain ⟨q0, q1, q2, q3, q4⟩ := cells5 r2
      have f0 := frozen_of_row wr V2 0 _ _ r2
      have f1 := frozen_of_row wr V2 1 _ _ r2
      have f2 := frozen_of_row wr V2 2 _ _ r2
      have f3 := frozen_of_row wr V2 3 _ _ r2
      have f4 := frozen_of_row wr V2 4 _ _ r2
      obtain ⟨w9, hw9⟩ : ∃ w9, w9 = ((((wr.setCell ⟨V2, 0, none⟩ (.int .i64 k)).setCell ⟨V2, 1, none⟩ (.int .i64 n)).setCell ⟨V2, 2, none⟩ (.string (str t))).setCell ⟨V2, 3, none⟩ (.slice a' g c')).setCell ⟨V2, 4, none⟩ (.slice ca q cc) := ⟨_, rfl⟩
      have r9 : w9.heap[V2]? = some (.cells #[.int .i64 k, .int .i64 n, .string (str t), .slice a' g c', .slice ca q cc] 25 (0, 0)) := by
        rw [hw9]
        exact heap_setCell_same _ _ _ _ _ _ (heap_setCell_same _ _ _ _ _ _ (heap_setCell_same _ _ _ _ _ _ (heap_setCell_same _ _ _ _ _ _ (heap_setCell_same _ _ _ _ _ _ r2))))
      have k9 : ∀ y, y ≠ V2 → w9.heap[y]? = wr.heap[y]? := fun y hy => by rw [hw9]; exact far5 _ _ _ _ _ _ _ _ _ _ _ _ _ hy
      have s9 : w9.heap.size = wr.heap.size := by rw [hw9]; exact siz5 _ _ _ _ _ _ _ _ _ _ _ _
      have b9 : Below w.heap.size w w9 := by
        have mm := (Mv.ofB (unhide HbW)).trans (unhide HMq)
        obtain ⟨o1, o2, o3⟩ := oth5 wr V2 0 1 2 3 4 (.int .i64 k) (.int .i64 n) (.string (str t)) (.slice a' g c') (.slice ca q cc)
        rw [← hw9] at o1 o2 o3
        exact ⟨o1.trans mm.os, o2.trans mm.tape, o3.trans mm.output, by rw [s9]; exact mm.size, fun y hy => (k9 y (by have := unhide H12; omega)).trans (mm.block y hy (fun e => by have := Option.some.inj e; have := unhide H12; omega))⟩
      have HE : Hid (OwP w (.mk k n t ns is) (.returned (.agg #[.int .i64 k, .int .i64 n, .string (str t), .slice a' g c', .slice ca q cc])) w9) := by
        have hc := ((unhide HBq).keep (w' := w9) (fun y hy _ => k9 y (fun e => by have := unhide H12; have := unhide HsW; rcases hy with hy | hy <;> omega)) (by rw [s9]; exact Nat.le_refl _)).cp
        rw [(unhide HLs).1, (unhide HLs).2, unhide HLI] at hc
        exact ⟨_, W.heap.size, rfl, (unhide HbW).size, hc, b9⟩
      have HR9 := hide r9
      clear hlt hrow r2 r9 k9 s9 b9 HLs
      go_wp2_with fail
      rw [← hw9]
      obtain ⟨e0, e1, e2, e3, e4⟩ := cells5 (unhide HR9)
      clear hw9
      refine ⟨rfl, _, by simp [results, Tryz.results12, go_sem, e0, e1, e2, e3, e4]; rfl, ?_⟩
      exact unhide HE
#print axioms own_core
theorem own_any : ∀ (N : Nat) (j : Js), SizeOf.sizeOf j < N → OwC j
  | 0, j, h => by omega
  | N + 1, .mk k n t ns is, h => own_core k n t ns is (fun x hx => own_any N x (by
      have h1 := List.sizeOf_lt_of_mem hx
      simp only [Js.mk.sizeOf_spec] at h
      omega))
theorem own4 (j : Js) : OwC j := own_any _ j (Nat.lt_succ_self _)
/-- own, told plainly. -/
theorem own_jv (j : Js) (S : Nat → Prop) (v : Value) (w : World) (hJ : JV w S v j) (hS : ∀ k, S k → k < w.heap.size) (hz : Sz j) :
    Calls Tryz.prog 12 #[v] w fun e w' => ∃ (k n : Int) (t : List UInt8) (a1 : Option Addr) (n1 c1 : Nat) (a2 : Option Addr) (n2 c2 : Nat), e = .returned (.agg #[.int .i64 k, .int .i64 n, .string (str t), .slice a1 n1 c1, .slice a2 n2 c2]) ∧ Hid (JV w' (Al w') (.agg #[.int .i64 k, .int .i64 n, .string (str t), .slice a1 n1 c1, .slice a2 n2 c2]) j) ∧ Hid (Below w.heap.size w w') := by
  refine (own4 j S v w hJ hS hz).mono ?_
  rintro e w' ⟨v', lo, rfl, hlo, hcp, hb⟩
  have hj := hcp.jv (S := Al w') (fun k _ h => h)
  obtain ⟨k, n, t, a1, n1, c1, a2, n2, c2, rfl⟩ := hj.form
  exact ⟨k, n, t, a1, n1, c1, a2, n2, c2, rfl, hj, hb⟩
#print axioms own_jv
end Go.Proofs.YtibiegeladphjaaGreatDoor
end
section
set_option linter.unusedVariables false
set_option maxRecDepth 1000000
namespace Go.Proofs.YtibiegeladphjaaGreatDoor
open Go.RowKit

def st5 (xs : List Value) (q : Nat) (v0 v1 v2 v3 v4 : Value) : List Value := ((((xs.set (q * 5) v0).set (q * 5 + 1) v1).set (q * 5 + 2) v2).set (q * 5 + 3) v3).set (q * 5 + 4) v4
theorem st5_far {xs : List Value} {q m : Nat} {v0 v1 v2 v3 v4 v : Value} (hne : m ≠ q) (h : At5 xs m v) : At5 (st5 xs q v0 v1 v2 v3 v4) m v := by
  obtain ⟨z0, z1, z2, z3, z4, e, h0, h1, h2, h3, h4⟩ := h
  have key : ∀ i, i < 5 → (st5 xs q v0 v1 v2 v3 v4)[m * 5 + i]? = xs[m * 5 + i]? := fun i hi => by
    unfold st5
    rw [List.getElem?_set_ne (by omega), List.getElem?_set_ne (by omega), List.getElem?_set_ne (by omega), List.getElem?_set_ne (by omega), List.getElem?_set_ne (by omega)]
  exact ⟨z0, z1, z2, z3, z4, e, (key 0 (by omega)).trans h0, (key 1 (by omega)).trans h1, (key 2 (by omega)).trans h2, (key 3 (by omega)).trans h3, (key 4 (by omega)).trans h4⟩
theorem st5_at {xs : List Value} {q : Nat} (v0 v1 v2 v3 v4 : Value) (h : q * 5 + 4 < xs.length) : At5 (st5 xs q v0 v1 v2 v3 v4) q (.agg #[v0, v1, v2, v3, v4]) := by
  refine ⟨v0, v1, v2, v3, v4, rfl, ?_, ?_, ?_, ?_, ?_⟩
  · unfold st5
    rw [List.getElem?_set_ne (by omega), List.getElem?_set_ne (by omega), List.getElem?_set_ne (by omega), List.getElem?_set_ne (by omega), List.getElem?_set_self (by omega)]
  · unfold st5
    rw [List.getElem?_set_ne (by omega), List.getElem?_set_ne (by omega), List.getElem?_set_ne (by omega), List.getElem?_set_self (by rw [List.length_set]; omega)]
  · unfold st5
    rw [List.getElem?_set_ne (by omega), List.getElem?_set_ne (by omega), List.getElem?_set_self (by rw [List.length_set, List.length_set]; omega)]
  · unfold st5
    rw [List.getElem?_set_ne (by omega), List.getElem?_set_self (by rw [List.length_set, List.length_set, List.length_set]; omega)]
  · unfold st5
    rw [List.getElem?_set_self (by rw [List.length_set, List.length_set, List.length_set, List.length_set]; omega)]
theorem Bw.put {u w8 w9 : World} {V lo old : Nat} {k n : Int} {t : List UInt8} {ns : List (List UInt8)} {is : List Js} {g1 c1 g2 c2 : Nat} {xs : List Value} (h : Bw u V lo k n t ns is (some ⟨g1, 0, none⟩) c1 (some ⟨g2, 0, none⟩) c2 xs) (q : Nat) (hqn : q < ns.length) (hqi : q < is.length) (s : List UInt8) {v0 v1 v2 v3 v4 : Value} {j : Js} (hj : JV u (fun k => old ≤ k ∧ k < u.heap.size) (.agg #[v0, v1, v2, v3, v4]) j) (hold : lo ≤ old) (hV : V < old) (h1 : g1 < old) (h2 : g2 < old)
    (e8 : w8 = u.setCell ⟨g1, q, none⟩ (.string (str s))) (e9 : w9 = ((((w8.setCell ⟨g2, q * 5, none⟩ v0).setCell ⟨g2, q * 5 + 1, none⟩ v1).setCell ⟨g2, q * 5 + 2, none⟩ v2).setCell ⟨g2, q * 5 + 3, none⟩ v3).setCell ⟨g2, q * 5 + 4, none⟩ v4) :
    Bw w9 V lo k n t (ns.set q s) (is.set q j) (some ⟨g1, 0, none⟩) c1 (some ⟨g2, 0, none⟩) c2 (st5 xs q v0 v1 v2 v3 v4) := by
  have n1 : g1 ≠ V := fun e => h.v1 (by rw [e]; rfl)
  have n2 : g2 ≠ V := fun e => h.v2 (by rw [e]; rfl)
  have n3 : g2 ≠ g1 := fun e => h.v3 g1 rfl (by rw [e]; rfl)
  have hxl : xs.length = is.length * 5 := h.it.1
  have k8 : ∀ k, k ≠ g1 → w8.heap[k]? = u.heap[k]? := fun k hk => by rw [e8]; exact Below.heap_setCell _ ⟨g1, q, none⟩ _ k hk
  have k9 : ∀ k, k ≠ g2 → w9.heap[k]? = w8.heap[k]? := fun k hk => by rw [e9]; exact far5 _ _ _ _ _ _ _ _ _ _ _ _ _ hk
  have z9 : w9.heap.size = u.heap.size := by rw [e9, siz5, e8, siz1]
  have kk : ∀ k, k ≠ g1 → k ≠ g2 → w9.heap[k]? = u.heap[k]? := fun k m1 m2 => (k9 k m2).trans (k8 k m1)
  refine ⟨?_, ?_, ?_, fun m x hx => ?_, h.v1, h.v2, h.v3⟩
  · rw [List.length_set, List.length_set]
    exact (kk V (Ne.symm n1) (Ne.symm n2)).trans h.row
  · have o := owns_set h.nm q (.string (str s)) (by unfold nsv; simpa using hqn)
    rw [← e8] at o
    have o9 := owns_same (w' := w9) o (fun k hk => k9 k (fun e => n3 (by simp [blk] at hk; omega)))
    have en : nsv (ns.set q s) = (nsv ns).set q (.string (str s)) := by unfold nsv; rw [List.map_set]
    show w9.ownsRow _ _ _ _ _ _
    rw [en, List.length_set]
    exact o9
  · have o := owns_same (w' := w8) h.it (fun k hk => k8 k (fun e => n3 (by simp [blk] at hk; omega)))
    rw [List.length_set, e9]
    exact owns_set (owns_set (owns_set (owns_set (owns_set o _ _ (by omega)) _ _ (by rw [List.length_set]; omega)) _ _ (by rw [List.length_set, List.length_set]; omega)) _ _ (by rw [List.length_set, List.length_set, List.length_set]; omega)) _ _ (by rw [List.length_set, List.length_set, List.length_set, List.length_set]; omega)
  · by_cases e : m = q
    · subst e
      rw [List.getElem?_set_self (by simpa using hqi)] at hx
      obtain rfl := Option.some.inj hx
      refine ⟨_, st5_at v0 v1 v2 v3 v4 (by omega), JV.keep (fun b hb => ?_) _ _ hj⟩
      have b1 : b ≠ g1 := by omega
      have b2 : b ≠ g2 := by omega
      refine ⟨⟨by omega, by omega, by omega, ?_, ?_⟩, kk b b1 b2⟩
      · simp [blk]; omega
      · simp [blk]; omega
    · rw [List.getElem?_set_ne (fun k => e k.symm)] at hx
      obtain ⟨v, p1, p2⟩ := h.el m x hx
      refine ⟨v, st5_far e p1, JV.keep (fun b hb => ?_) _ _ p2⟩
      have b1 : b ≠ g1 := fun k => hb.2.2.2.1 (by rw [k]; rfl)
      have b2 : b ≠ g2 := fun k => hb.2.2.2.2 (by rw [k]; rfl)
      exact ⟨⟨hb.1, by have := hb.2.1; omega, hb.2.2.1, hb.2.2.2.1, hb.2.2.2.2⟩, kk b b1 b2⟩
#print axioms Bw.put
end Go.Proofs.YtibiegeladphjaaGreatDoor
end
section
set_option linter.unusedVariables false
set_option maxRecDepth 1000000
namespace Go.Proofs.YtibiegeladphjaaGreatDoor
open Go.RowKit

theorem prM_gd (j : Js) (h : (prM j).2 = 0) : ck 16 j = 0 ∧ (prM j).1 = prN 16 j ∧ (prN 16 j).length ≤ 65536 := by
  by_cases hc : ck 16 j = 0
  · rcases prM_ok j hc with h1 | h1
    · exact ⟨hc, h1.2⟩
    · omega
  · unfold prM at h
    rw [if_pos hc] at h
    exact absurd h hc
theorem prM_bad (j : Js) (h : (prM j).2 ≠ 0) : (prM j).1 = [] := by
  unfold prM at h ⊢
  split
  · rfl
  · split
    · rfl
    · rename_i h1 h2
      rw [if_neg h1, if_neg h2] at h
      exact absurd rfl h
theorem back_math (j : Js) (hz : Sz j) (h : (prM j).2 = 0) : psM (prM j).1 = (srN 16 j, 0, 0) ∧ Gd 16 (srN 16 j) ∧ prM (srN 16 j) = ((prM j).1, 0) ∧ saM j (srN 16 j) = true := by
  obtain ⟨hc, e, hl⟩ := prM_gd j h
  have hs := ck_sr 16 j hc hz
  rw [e]
  refine ⟨ps_print j hc hz hl, hs, ?_, ?_⟩
  · unfold prM
    rw [if_neg (by rw [hs.1]; simp), pr_sr 16 j hc, if_neg (by omega)]
  · rw [saM_iff _ _ ⟨hc, hz⟩ hs, decide_eq_true_eq]
    exact (pr_sr 16 j hc).symm
set_option maxHeartbeats 8000000 in
theorem jback_any (j : Js) (v : Value) (w : World) (hJ : JV w (Al w) v j) (hi : Ib j) (hE : Env4 w) :
    Calls Tryz.prog 3 #[v] w fun e w' => e = .returned (.bool true) ∧ Hid (Below w.heap.size w w') := by
  obtain ⟨jk, jn, jt, ja1, jn1, jc1, ja2, jn2, jc2, rfl⟩ := hJ.form
  have HEn : Hid (∀ u, Below w.heap.size w u → Env4 u) := fun u hb => hE.below hb
  have HAW : Hid (∀ u, Below w.heap.size w u → Calls Tryz.prog 10 #[] u fun e w' => e = .returned (.bool true) ∧ Hid (Below u.heap.size u w')) := fun u hb => awake4 u (hE.below hb)
  obtain ⟨V, hV⟩ : ∃ V, V = w.heap.size := ⟨_, rfl⟩
  obtain ⟨W, hW⟩ : ∃ W, W = w.alloc (.cells #[.int .i64 jk, .int .i64 jn, .string (str jt), .slice ja1 jn1 jc1, .slice ja2 jn2 jc2] 25) := ⟨_, rfl⟩
  obtain ⟨hb, bW⟩ := Bj.made hJ (fun k hk => hk) W hW
  rw [← hV] at hb
  have HB := hide hb
  have HWW := hide bW
  have HCN := hide (can_any j (Al W) _ W hb.jv (fun k hk => hk) hi)
  have hszc := canM_sz j hi
  generalize canM j = C at HCN hszc
  have HSZ := hide hszc
  obtain ⟨p0, p1, p2, p3, p4⟩ := cells5 hb.row
  clear hJ hi hE hb bW hszc
  go_enter Tryz.func3, Tryz.ntmps3
  go_upto_region 1 with fail
  rw [← hW, ← hV]
  clear hW hV
  cases C with
  | false =>
    go_wp2_with fail
    refine (unhide HCN).mono ?_
    rintro e w1 ⟨rfl, h1⟩
    have HW1 : Hid (Below w.heap.size w w1) := (unhide HWW).trans ((unhide h1).mono (unhide HWW).size)
    have HA1 := hide (unhide HAW w1 (unhide HW1))
    clear HCN h1 p0 p1 p2 p3 p4
    go_wp2_with fail
    refine (unhide HA1).mono ?_
    rintro e w2 ⟨rfl, h2⟩
    have HF : Hid (Below w.heap.size w w2) := (unhide HW1).trans ((unhide h2).mono (unhide HW1).size)
    go_wp2_with fail
    go_ret
    exact ⟨rfl, HF⟩
  | true =>
    have hz := unhide HSZ rfl
    have HZ := hide hz
    have HBM := hide (back_math j hz)
    have HBA := hide (prM_bad j)
    have HPR : Hid (∀ (u : World) (x : Value), Below w.heap.size w u → JV u (Al u) x j → Calls Tryz.prog 11 #[x] u fun e w' => e = .returned (.tuple #[.string (str (prM j).1), .int .i64 ((prM j).2 : Int)]) ∧ Hid (Below u.heap.size u w')) := fun u x hb hx => print_any j (Al u) x u (unhide HEn u hb).tb (unhide HEn u hb).pt hx (fun k hk => hk) hz
    generalize hpj : prM j = PJ at HBM HBA HPR
    clear hpj hz
    obtain ⟨pt, pe⟩ := PJ
    simp only at HBM HBA HPR
    go_wp2_with fail
    refine (unhide HCN).mono ?_
    rintro e w1 ⟨rfl, h1⟩
    have HW1 : Hid (Below w.heap.size w w1) := (unhide HWW).trans ((unhide h1).mono (unhide HWW).size)
    have HB1 := hide ((unhide HB).below (unhide h1))
    have HO := hide (own_jv j (Al w1) _ w1 (unhide HB1).jv (fun k hk => hk) (unhide HZ))
    clear HCN h1 p0 p1 p2 p3 p4 HB HWW HSZ
    obtain ⟨p0, p1, p2, p3, p4⟩ := cells5 (unhide HB1).row
    go_wp2_with fail
    refine (unhide HO).mono ?_
    rintro e w2 ⟨ok, on, ot, oa1, on1, oc1, oa2, on2, oc2, rfl, hj2, h2⟩
    have HW2 : Hid (Below w.heap.size w w2) := (unhide HW1).trans ((unhide h2).mono (unhide HW1).size)
    have HB2 := hide ((unhide HB1).below (unhide h2))
    have HP2 := hide (unhide HPR w2 _ (unhide HW2) (unhide hj2))
    clear HO h2 hj2 p0 p1 p2 p3 p4 HB1 HW1
    go_wp2_with fail
    refine (unhide HP2).mono ?_
    rintro e w3 ⟨rfl, h3⟩
    have HW3 : Hid (Below w.heap.size w w3) := (unhide HW2).trans ((unhide h3).mono (unhide HW2).size)
    have HB3 := hide ((unhide HB2).below (unhide h3))
    have HA3 := hide (unhide HAW w3 (unhide HW3))
    clear HP2 h3 HB2 HW2
    by_cases he : pe = 0
    · subst he
      simp only [show ((0 : Nat) : Int) = 0 from rfl]
      obtain ⟨m1, m2, m3, m4⟩ := unhide HBM (by first | exact rfl | trivial)
      have HP4 := hide (parse_any pt w3 (unhide HEn w3 (unhide HW3)).tb (unhide HEn w3 (unhide HW3)).et)
      unfold PsP at HP4
      rw [m1] at HP4
      simp only at HP4
      have HM2 := hide m2
      have HM3 := hide m3
      have HM4 := hide m4
      clear HBM HBA HA3 m1 m2 m3 m4 HPR
      go_wp2_with fail
      refine (unhide HP4).mono ?_
      rintro e w4 ⟨hb4, ht4, v4, rfl, hJ4⟩
      obtain ⟨lk, ln, lt, la1, ln1, lc1, la2, ln2, lc2, rfl⟩ := hJ4.form
      obtain ⟨Z, hZ⟩ : ∃ Z, Z = w4.heap.size := ⟨_, rfl⟩
      obtain ⟨Q, hQ⟩ : ∃ Q, Q = w4.alloc (.cells #[.int .i64 lk, .int .i64 ln, .string (str lt), .slice la1 ln1 lc1, .slice la2 ln2 lc2] 25) := ⟨_, rfl⟩
      obtain ⟨hb, bQ⟩ := Bj.made hJ4 (fun k hk => hk.2) Q hQ
      rw [← hZ] at hb
      have h3Q := hb4.trans (bQ.mono hb4.size)
      have HWQ : Hid (Below w.heap.size w Q) := (unhide HW3).trans (h3Q.mono (unhide HW3).size)
      have HBV := hide ((unhide HB3).below h3Q)
      have HBZ := hide hb
      have HPQ := hide (print_any (srN 16 j) (Al Q) _ Q (unhide HEn Q (unhide HWQ)).tb (unhide HEn Q (unhide HWQ)).pt hb.jv (fun k hk => hk) (unhide HM2).2)
      rw [unhide HM3] at HPQ
      simp only at HPQ
      have HS2 : Hid (∀ u, Below Q.heap.size Q u → Calls Tryz.prog 14 #[.agg #[.int .i64 jk, .int .i64 jn, .string (str jt), .slice ja1 jn1 jc1, .slice ja2 jn2 jc2], .agg #[.int .i64 lk, .int .i64 ln, .string (str lt), .slice la1 ln1 lc1, .slice la2 ln2 lc2]] u fun e w' => e = .returned (.bool true) ∧ Hid (Below u.heap.size u w')) := fun u hb => by
        have := same_any j (srN 16 j) (Al u) _ _ u (unhide HEn u ((unhide HWQ).trans (hb.mono (unhide HWQ).size))).tb ((unhide HBV).below hb).jv ((unhide HBZ).below hb).jv (fun k hk => hk) (unhide HZ) (unhide HM2).2
        rw [unhide HM4] at this
        exact this
      obtain ⟨q0, q1, q2, q3, q4⟩ := cells5 hb.row
      clear HP4 hb4 ht4 hJ4 hb bQ h3Q HB3 HW3
      go_upto_region 7 with fail
      rw [← hQ, ← hZ]
      clear hQ hZ
      go_wp2_with fail
      refine (unhide HPQ).mono ?_
      rintro e w5 ⟨rfl, h5⟩
      have HS5 := hide (unhide HS2 w5 (unhide h5))
      have HW5 : Hid (Below w.heap.size w w5) := (unhide HWQ).trans ((unhide h5).mono (unhide HWQ).size)
      clear HPQ HS2 q0 q1 q2 q3 q4
      obtain ⟨p0, p1, p2, p3, p4⟩ := cells5 ((unhide HBV).below (unhide h5)).row
      obtain ⟨q0, q1, q2, q3, q4⟩ := cells5 ((unhide HBZ).below (unhide h5)).row
      have e1 : ((str pt).toList == (str pt).toList) = true := by simp
      clear h5 HWQ
      simp only [show ((0 : Nat) : Int) = 0 from rfl]
      go_wp2_with fail
      refine (unhide HS5).mono ?_
      rintro e w6 ⟨rfl, h6⟩
      have HW6 : Hid (Below w.heap.size w w6) := (unhide HW5).trans ((unhide h6).mono (unhide HW5).size)
      have HA6 := hide (unhide HAW w6 (unhide HW6))
      clear HS5 h6 p0 p1 p2 p3 p4 q0 q1 q2 q3 q4
      go_wp2_with fail
      refine (unhide HA6).mono ?_
      rintro e w7 ⟨rfl, h7⟩
      have HF : Hid (Below w.heap.size w w7) := (unhide HW6).trans ((unhide h7).mono (unhide HW6).size)
      go_wp2_with fail
      go_ret
      exact ⟨rfl, HF⟩
    · have hEb : (((pe : Nat) : Int) != 0) = true := by simp; omega
      have hEi : ¬ ((pe : Nat) : Int) = 0 := by omega
      have hp0 := unhide HBA he
      have e1 : (str pt).toList.isEmpty = true := by rw [toList_str, hp0]; rfl
      have e2 : ((str pt).toList == []) = true := by rw [toList_str, hp0]; rfl
      clear hp0 he HBM HBA
      go_wp2_with fail
      refine (unhide HA3).mono ?_
      rintro e w7 ⟨rfl, h7⟩
      have HF : Hid (Below w.heap.size w w7) := (unhide HW3).trans ((unhide h7).mono (unhide HW3).size)
      go_wp2_with fail
      go_ret
      exact ⟨rfl, HF⟩
#print axioms jback_any
theorem jsonxBack_walk (v : Value) (j : Js) (w : World) (hJ : JV w (Al w) v j) (hi : Ib j) (hE : Env4 w) :
    Calls Tryz.prog 3 #[v] w fun e w' => e = .returned (.bool true) ∧ Below w.heap.size w w' :=
  (jback_any j v w hJ hi hE).mono fun e w' h => ⟨h.1, unhide h.2⟩
end Go.Proofs.YtibiegeladphjaaGreatDoor
end
section
set_option linter.unusedVariables false
set_option maxRecDepth 1000000
namespace Go.Proofs.YtibiegeladphjaaGreatDoor
open Go.RowKit

theorem opL (o : Int) (L : Nat) (hL : 1 ≤ L) (hl : L ≤ 70000) : ∃ r : Nat, r < L ∧ wrap64 ((IntKind.u64.wrap o).tmod (L : Int)) = (r : Int) := by
  have e : IntKind.u64.wrap o = o % 18446744073709551616 := by simp [IntKind.wrap, IntKind.bits, IntKind.signed]
  have h0 : 0 ≤ o % 18446744073709551616 := Int.emod_nonneg _ (by omega)
  have e2 : (o % 18446744073709551616).tmod (L : Int) = o % 18446744073709551616 % (L : Int) := Int.tmod_eq_emod_of_nonneg h0
  have h1 := Int.emod_nonneg (o % 18446744073709551616) (show (L : Int) ≠ 0 by omega)
  have h2 := Int.emod_lt_of_pos (o % 18446744073709551616) (show (0 : Int) < (L : Int) by omega)
  refine ⟨(o % 18446744073709551616 % (L : Int)).toNat, by omega, ?_⟩
  rw [e, e2, IntWalk.wrap64_in _ (by omega)]
  omega
theorem cut_str4 (s : List UInt8) (k : Nat) : (str s).extract 0 k = str (s.take k) := by
  apply ByteArray.ext
  simp [str, ByteArray.data_extract]
set_option maxHeartbeats 8000000 in
theorem jcut_any (j : Js) (v : Value) (k0 : Int) (w : World) (hJ : JV w (Al w) v j) (hi : Ib j) (hE : Env4 w) :
    Calls Tryz.prog 7 #[v, .int .i64 k0] w fun e w' => e = .returned (.bool true) ∧ Hid (Below w.heap.size w w') := by
  obtain ⟨jk, jn, jt, ja1, jn1, jc1, ja2, jn2, jc2, rfl⟩ := hJ.form
  have hkd := hJ.kd
  have HEn : Hid (∀ u, Below w.heap.size w u → Env4 u) := fun u hb => hE.below hb
  have HAW : Hid (∀ u, Below w.heap.size w u → Calls Tryz.prog 10 #[] u fun e w' => e = .returned (.bool true) ∧ Hid (Below u.heap.size u w')) := fun u hb => awake4 u (hE.below hb)
  obtain ⟨V, hV⟩ : ∃ V, V = w.heap.size := ⟨_, rfl⟩
  obtain ⟨W, hW⟩ : ∃ W, W = w.alloc (.cells #[.int .i64 jk, .int .i64 jn, .string (str jt), .slice ja1 jn1 jc1, .slice ja2 jn2 jc2] 25) := ⟨_, rfl⟩
  obtain ⟨hb, bW⟩ := Bj.made hJ (fun k hk => hk) W hW
  rw [← hV] at hb
  have HB := hide hb
  have HWW := hide bW
  have HCN := hide (can_any j (Al W) _ W hb.jv (fun k hk => hk) hi)
  have hszc := canM_sz j hi
  generalize canM j = C at HCN hszc
  have HSZ := hide hszc
  have HKD := hide hkd
  obtain ⟨p0, p1, p2, p3, p4⟩ := cells5 hb.row
  clear hJ hi hE hb bW hszc hkd
  go_enter Tryz.func7, Tryz.ntmps7
  go_upto_region 1 with fail
  rw [← hW, ← hV]
  clear hW hV
  cases C with
  | false =>
    go_wp2_with fail
    refine (unhide HCN).mono ?_
    rintro e w1 ⟨rfl, h1⟩
    have HW1 : Hid (Below w.heap.size w w1) := (unhide HWW).trans ((unhide h1).mono (unhide HWW).size)
    have HA1 := hide (unhide HAW w1 (unhide HW1))
    clear HCN h1 p0 p1 p2 p3 p4
    go_wp2_with fail
    refine (unhide HA1).mono ?_
    rintro e w2 ⟨rfl, h2⟩
    have HF : Hid (Below w.heap.size w w2) := (unhide HW1).trans ((unhide h2).mono (unhide HW1).size)
    go_wp2_with fail
    go_ret
    exact ⟨rfl, HF⟩
  | true =>
    have hz := unhide HSZ rfl
    have HZ := hide hz
    have HPG := hide (prM_gd j)
    have HPR : Hid (∀ (u : World) (x : Value), Below w.heap.size w u → JV u (Al u) x j → Calls Tryz.prog 11 #[x] u fun e w' => e = .returned (.tuple #[.string (str (prM j).1), .int .i64 ((prM j).2 : Int)]) ∧ Hid (Below u.heap.size u w')) := fun u x hb hx => print_any j (Al u) x u (unhide HEn u hb).tb (unhide HEn u hb).pt hx (fun k hk => hk) hz
    generalize hpj : prM j = PJ at HPG HPR
    clear hpj hz
    obtain ⟨pt, pe⟩ := PJ
    simp only at HPG HPR
    go_wp2_with fail
    refine (unhide HCN).mono ?_
    rintro e w1 ⟨rfl, h1⟩
    have HW1 : Hid (Below w.heap.size w w1) := (unhide HWW).trans ((unhide h1).mono (unhide HWW).size)
    have HB1 := hide ((unhide HB).below (unhide h1))
    have HO := hide (own_jv j (Al w1) _ w1 (unhide HB1).jv (fun k hk => hk) (unhide HZ))
    clear HCN h1 p0 p1 p2 p3 p4 HB HWW HSZ
    obtain ⟨p0, p1, p2, p3, p4⟩ := cells5 (unhide HB1).row
    go_wp2_with fail
    refine (unhide HO).mono ?_
    rintro e w2 ⟨ok, on, ot, oa1, on1, oc1, oa2, on2, oc2, rfl, hj2, h2⟩
    have HW2 : Hid (Below w.heap.size w w2) := (unhide HW1).trans ((unhide h2).mono (unhide HW1).size)
    have HB2 := hide ((unhide HB1).below (unhide h2))
    have HP2 := hide (unhide HPR w2 _ (unhide HW2) (unhide hj2))
    clear HO h2 hj2 p0 p1 p2 p3 p4 HB1 HW1
    go_wp2_with fail
    refine (unhide HP2).mono ?_
    rintro e w3 ⟨rfl, h3⟩
    have HW3 : Hid (Below w.heap.size w w3) := (unhide HW2).trans ((unhide h3).mono (unhide HW2).size)
    have HB3 := hide ((unhide HB2).below (unhide h3))
    have HA3 := hide (unhide HAW w3 (unhide HW3))
    clear HP2 h3 HB2 HW2 HPR
    obtain ⟨p0, p1, p2, p3, p4⟩ := cells5 (unhide HB3).row
    by_cases he : pe = 0
    · subst he
      simp only [show ((0 : Nat) : Int) = 0 from rfl]
      by_cases hk3 : jk < 3
      · clear HPG
        go_wp2_with fail
        refine (unhide HA3).mono ?_
        rintro e w7 ⟨rfl, h7⟩
        have HF : Hid (Below w.heap.size w w7) := (unhide HW3).trans ((unhide h7).mono (unhide HW3).size)
        go_wp2_with fail
        go_ret
        exact ⟨rfl, HF⟩
      · obtain ⟨hck, hpt, hpl⟩ := unhide HPG (by first | exact rfl | trivial)
        have hne : 1 ≤ pt.length := by
          obtain ⟨c, r, e, _⟩ := pr_head 16 j hck
          rw [hpt, e]
          simp
        rw [← hpt] at hpl
        obtain ⟨r, hr, hro⟩ := opL k0 pt.length hne (by omega)
        have hcm := cut_math j r hck (unhide HZ) (by rw [← hpt]; exact hpl) (by rw [← hpt]; exact hr) (by rw [unhide HKD]; omega)
        rw [← hpt] at hcm
        have hsz : (str pt).size = pt.length := str_size pt
        have hmx : max (pt.length : Int) 1 = (pt.length : Int) := by omega
        have hsl : ∀ W, (Instr.slice 9 (.string (str pt)) none (some (.int .i64 (r : Int))) none).run Tryz.prog W = .ok (.string (str (pt.take r))) W := fun W => by
          rw [run_slice_string_h W 9 (str pt) Tryz.underlying9 .i64 (r : Int) (by omega) (by rw [hsz]; omega), show ((r : Int)).toNat = r by omega, cut_str4]
        have HP4 := hide (parse_any (pt.take r) w3 (unhide HEn w3 (unhide HW3)).tb (unhide HEn w3 (unhide HW3)).et)
        unfold PsP at HP4
        rw [hcm] at HP4
        simp only at HP4
        generalize pt.take r = T at hsl HP4
        clear HPG hck hpt hcm hr HA3
        go_wp2_with fail
        refine (unhide HP4).mono ?_
        rintro e w4 ⟨hb4, ht4, v4, rfl, hJ4⟩
        obtain ⟨lk, ln, lt, la1, ln1, lc1, la2, ln2, lc2, rfl⟩ := hJ4.form
        obtain ⟨Z, hZ⟩ : ∃ Z, Z = w4.heap.size := ⟨_, rfl⟩
        obtain ⟨Q, hQ⟩ : ∃ Q, Q = w4.alloc (.cells #[.int .i64 lk, .int .i64 ln, .string (str lt), .slice la1 ln1 lc1, .slice la2 ln2 lc2] 25) := ⟨_, rfl⟩
        obtain ⟨hb, bQ⟩ := Bj.made hJ4 (fun k hk => hk.2) Q hQ
        rw [← hZ] at hb
        have h3Q := hb4.trans (bQ.mono hb4.size)
        have HWQ : Hid (Below w.heap.size w Q) := (unhide HW3).trans (h3Q.mono (unhide HW3).size)
        have HEQ := hide (equal_same Js.nul (Al Q) _ (.agg #[.int .i64 0, .int .i64 0, .string ⟨#[]⟩, .slice none 0 0, .slice none 0 0]) Q hb.jv (JV.flat _ _ 0 0 []) (fun k hk => hk))
        clear p0 p1 p2 p3 p4 hsl hmx hro
        obtain ⟨q0, q1, q2, q3, q4⟩ := cells5 hb.row
        clear HP4 hb4 ht4 hJ4 hb bQ h3Q HB3 HW3
        go_upto_region 8 with fail
        rw [← hQ, ← hZ]
        clear hQ hZ
        go_wp2_with fail
        refine (unhide HEQ).mono ?_
        rintro e w5 ⟨rfl, h5⟩
        have HW5 : Hid (Below w.heap.size w w5) := (unhide HWQ).trans ((unhide h5).mono (unhide HWQ).size)
        have HA5 := hide (unhide HAW w5 (unhide HW5))
        clear HEQ h5 q0 q1 q2 q3 q4 HWQ
        go_wp2_with fail
        refine (unhide HA5).mono ?_
        rintro e w7 ⟨rfl, h7⟩
        have HF : Hid (Below w.heap.size w w7) := (unhide HW5).trans ((unhide h7).mono (unhide HW5).size)
        go_wp2_with fail
        go_ret
        exact ⟨rfl, HF⟩
    · have hEb : (((pe : Nat) : Int) != 0) = true := by simp; omega
      have hEi : ¬ ((pe : Nat) : Int) = 0 := by omega
      clear he HPG
      go_wp2_with fail
      refine (unhide HA3).mono ?_
      rintro e w7 ⟨rfl, h7⟩
      have HF : Hid (Below w.heap.size w w7) := (unhide HW3).trans ((unhide h7).mono (unhide HW3).size)
      go_wp2_with fail
      go_ret
      exact ⟨rfl, HF⟩
#print axioms jcut_any
theorem jsonxCut_walk (v : Value) (j : Js) (k : Int) (w : World) (hJ : JV w (Al w) v j) (hi : Ib j) (hE : Env4 w) :
    Calls Tryz.prog 7 #[v, .int .i64 k] w fun e w' => e = .returned (.bool true) ∧ Below w.heap.size w w' :=
  (jcut_any j v k w hJ hi hE).mono fun e w' h => ⟨h.1, unhide h.2⟩
end Go.Proofs.YtibiegeladphjaaGreatDoor
end
section
set_option linter.unusedVariables false
set_option maxRecDepth 1000000
namespace Go.Proofs.YtibiegeladphjaaGreatDoor
open Go.RowKit

/-- What the region's reads are read of. -/
def OrS (U V nb no B off s m G1 c1 G2 c2 jc1 jc2 : Nat) (sn : List UInt8) (x0 x1 x2 x3 x4 : Value) (u : World) : Prop :=
  u.cell? ⟨U, 3, none⟩ = some (.slice (some ⟨G1, 0, none⟩) m c1) ∧ u.cell? ⟨U, 4, none⟩ = some (.slice (some ⟨G2, 0, none⟩) m c2) ∧ u.cell? ⟨V, 3, none⟩ = some (.slice (some ⟨nb, no, none⟩) m jc1) ∧ u.cell? ⟨V, 4, none⟩ = some (.slice (some ⟨B, off, none⟩) m jc2) ∧ u.cell? ⟨nb, no + s, none⟩ = some (.string (str sn)) ∧ u.cell? ⟨B, off + s * 5, none⟩ = some x0 ∧ u.cell? ⟨B, off + s * 5 + 1, none⟩ = some x1 ∧ u.cell? ⟨B, off + s * 5 + 2, none⟩ = some x2 ∧ u.cell? ⟨B, off + s * 5 + 3, none⟩ = some x3 ∧ u.cell? ⟨B, off + s * 5 + 4, none⟩ = some x4
theorem OrS.keep {U V nb no B off s m G1 c1 G2 c2 jc1 jc2 : Nat} {sn : List UInt8} {x0 x1 x2 x3 x4 : Value} {u u' : World} (h : OrS U V nb no B off s m G1 c1 G2 c2 jc1 jc2 sn x0 x1 x2 x3 x4 u) (e : ∀ k, k = U ∨ k = V ∨ k = nb ∨ k = B → u'.heap[k]? = u.heap[k]?) : OrS U V nb no B off s m G1 c1 G2 c2 jc1 jc2 sn x0 x1 x2 x3 x4 u' := by
  obtain ⟨h0, h1, h2, h3, h4, h5, h6, h7, h8, h9⟩ := h
  exact ⟨cell_keep (e U (by simp)) h0, cell_keep (e U (by simp)) h1, cell_keep (e V (by simp)) h2, cell_keep (e V (by simp)) h3, cell_keep (e nb (by simp)) h4, cell_keep (e B (by simp)) h5, cell_keep (e B (by simp)) h6, cell_keep (e B (by simp)) h7, cell_keep (e B (by simp)) h8, cell_keep (e B (by simp)) h9⟩
set_option maxHeartbeats 8000000 in
theorem jorder_any (j : Js) (v : Value) (k0 : Int) (w : World) (hJ : JV w (Al w) v j) (hi : Ib j) (hE : Env4 w) :
    Calls Tryz.prog 6 #[v, .int .i64 k0] w fun e w' => e = .returned (.bool true) ∧ Hid (Below w.heap.size w w') := by
  obtain ⟨jk, jn, jt, ns, is⟩ := j
  obtain ⟨ja1, jc1, ja2, jc2, rfl, _⟩ : ∃ a1 c1 a2 c2, v = .agg #[.int .i64 jk, .int .i64 jn, .string (str jt), .slice a1 ns.length c1, .slice a2 is.length c2] ∧ True := by
    have h := hJ
    simp only [JV] at h
    obtain ⟨a1, c1, a2, c2, rfl, _⟩ := h
    exact ⟨a1, c1, a2, c2, rfl, trivial⟩
  have HEn : Hid (∀ u, Below w.heap.size w u → Env4 u) := fun u hb => hE.below hb
  have HAW : Hid (∀ u, Below w.heap.size w u → Calls Tryz.prog 10 #[] u fun e w' => e = .returned (.bool true) ∧ Hid (Below u.heap.size u w')) := fun u hb => awake4 u (hE.below hb)
  obtain ⟨V, hV⟩ : ∃ V, V = w.heap.size := ⟨_, rfl⟩
  obtain ⟨W, hW⟩ : ∃ W, W = w.alloc (.cells #[.int .i64 jk, .int .i64 jn, .string (str jt), .slice ja1 ns.length jc1, .slice ja2 is.length jc2] 25) := ⟨_, rfl⟩
  obtain ⟨hb, bW⟩ := Bj.made hJ (fun k hk => hk) W hW
  rw [← hV] at hb
  have HB := hide hb
  have HWW := hide bW
  have HCN := hide (can_any (.mk jk jn jt ns is) (Al W) _ W hb.jv (fun k hk => hk) hi)
  have hszc := canM_sz (.mk jk jn jt ns is) hi
  generalize canM (.mk jk jn jt ns is) = C at HCN hszc
  have HSZ := hide hszc
  obtain ⟨p0, p1, p2, p3, p4⟩ := cells5 hb.row
  clear hJ hi hE hb bW hszc
  go_enter Tryz.func6, Tryz.ntmps6
  go_upto_region 1 with fail
  rw [← hW, ← hV]
  clear hW hV
  cases C with
  | false =>
    go_wp2_with fail
    refine (unhide HCN).mono ?_
    rintro e w1 ⟨rfl, h1⟩
    have HW1 : Hid (Below w.heap.size w w1) := (unhide HWW).trans ((unhide h1).mono (unhide HWW).size)
    have HA1 := hide (unhide HAW w1 (unhide HW1))
    clear HCN h1 p0 p1 p2 p3 p4
    go_wp2_with fail
    refine (unhide HA1).mono ?_
    rintro e w2 ⟨rfl, h2⟩
    have HF : Hid (Below w.heap.size w w2) := (unhide HW1).trans ((unhide h2).mono (unhide HW1).size)
    go_wp2_with fail
    go_ret
    exact ⟨rfl, HF⟩
  | true =>
    have hz := unhide HSZ rfl
    have HZ := hide hz
    by_cases hk5 : jk = 5
    · subst hk5
      go_wp2_with fail
      refine (unhide HCN).mono ?_
      rintro e w1 ⟨rfl, h1⟩
      have HW1 : Hid (Below w.heap.size w w1) := (unhide HWW).trans ((unhide h1).mono (unhide HWW).size)
      have HB1 := hide ((unhide HB).below (unhide h1))
      have HO := hide (own_jv (.mk 5 jn jt ns is) (Al w1) _ w1 (unhide HB1).jv (fun k hk => hk) (unhide HZ))
      clear HCN h1 p0 p1 p2 p3 p4 HB HWW HSZ
      obtain ⟨p0, p1, p2, p3, p4⟩ := cells5 (unhide HB1).row
      go_wp2_with fail
      refine (unhide HO).mono ?_
      rintro e w2 ⟨ok, on, ot, oa1, on1, oc1, oa2, on2, oc2, rfl, hj2, h2⟩
      have HW2 : Hid (Below w.heap.size w w2) := (unhide HW1).trans ((unhide h2).mono (unhide HW1).size)
      have HB2 := hide ((unhide HB1).below (unhide h2))
      have HCk := hide (checkJ_any (.mk 5 jn jt ns is) (Al w2) _ w2 (unhide HEn w2 (unhide HW2)).tb (unhide hj2) (fun k hk => hk) (unhide HZ))
      clear HO h2 hj2 p0 p1 p2 p3 p4 HB1 HW1
      go_wp2_with fail
      refine (unhide HCk).mono ?_
      rintro e w3 ⟨rfl, h3⟩
      have HW3 : Hid (Below w.heap.size w w3) := (unhide HW2).trans ((unhide h3).mono (unhide HW2).size)
      have HB3 := hide ((unhide HB2).below (unhide h3))
      have HA3 := hide (unhide HAW w3 (unhide HW3))
      clear HCk h3 HB2 HW2
      obtain ⟨p0, p1, p2, p3, p4⟩ := cells5 (unhide HB3).row
      by_cases hck : ck 16 (.mk 5 jn jt ns is) = 0
      · rw [hck]
        simp only [show ((0 : Nat) : Int) = 0 from rfl]
        have HO3 := hide (own4 (.mk 5 jn jt ns is) (Al w3) _ w3 (unhide HB3).jv (fun k hk => hk) (unhide HZ))
        go_wp2_with fail
        refine (unhide HO3).mono ?_
        rintro e w4 ⟨v4, lo, rfl, hlo, hcp, h4⟩
        simp only [CpJ] at hcp
        obtain ⟨a1, c1, a2, c2, xs, rfl, hT, hI, hel, hne⟩ := hcp
        obtain ⟨m, hm⟩ : ∃ m, m = ns.length := ⟨_, rfl⟩
        have hnl : ns.length = is.length := rev_len hck
        have hm1 : ns.length = m := hm.symm
        have hm2 : is.length = m := by omega
        have hm0 : m ≤ 100000 := by have := unhide HZ; simp only [Sz] at this; omega
        obtain ⟨U, hU⟩ : ∃ U, U = w4.heap.size := ⟨_, rfl⟩
        obtain ⟨w5, hw5⟩ : ∃ w5, w5 = w4.alloc (.cells #[.int .i64 5, .int .i64 jn, .string (str jt), .slice a1 m c1, .slice a2 m c2] 25) := ⟨_, rfl⟩
        have b5 : Below w4.heap.size w4 w5 := by rw [hw5]; exact (Below.refl _ _).alloc (Nat.le_refl _) _
        have HBw : Hid (Bw w5 U lo 5 jn jt ns is a1 c1 a2 c2 xs) := by
          have n1 : ∀ k, blk a1 = some k → k ≠ U := fun k hk => by have := (owns_lt hT k hk).2; omega
          have n2 : ∀ k, blk a2 = some k → k ≠ U := fun k hk => by have := (owns_lt hI k hk).2; omega
          refine ⟨?_, owns_same hT (fun k hk => b5.block k (owns_lt hT k hk).2), owns_same hI (fun k hk => b5.block k (owns_lt hI k hk).2), fun i x hx => ?_, fun e => n1 _ e rfl, fun e => n2 _ e rfl, hne⟩
          · rw [hw5, hU, hm1, hm2]; exact heap_alloc_new _ _
          · obtain ⟨v, h1, h2⟩ := hel i x hx
            exact ⟨v, h1, JV.keep (fun k hk => ⟨⟨hk.1, Nat.lt_of_lt_of_le hk.2.1 b5.size, by have := hk.2.1; omega, hk.2.2.1, hk.2.2.2⟩, b5.block k hk.2.1⟩) _ _ h2⟩
        have HB5 : Hid (Below w3.heap.size w3 w5) := h4.trans (b5.mono h4.size)
        have HLO := hide hlo
        obtain ⟨HNs, HIs⟩ : Hid (NsF w3 (Al w3) ja1 ns) ∧ Hid (∀ i x, is[i]? = some x → JEl w3 (Al w3) ja2 (0 + i) x) := by
          have h := (unhide HB3).jv
          simp only [JV] at h
          obtain ⟨b1, d1, b2, d2, e, hN, _, _, _, _, _, _, hIt⟩ := h
          simp only [Value.agg.injEq, Array.mk.injEq, List.cons.injEq, and_true, true_and, Value.slice.injEq] at e
          obtain ⟨⟨rfl, rfl⟩, rfl, rfl⟩ := e
          exact ⟨hN, (jvs_iff _ _ _ _ _).1 hIt⟩
        obtain ⟨d, hd, hdo⟩ := opD k0 m hm0
        clear HO3 HA3 p0 p1 p2 p3 p4 hT hI hel hne h4 b5 hnl hlo
        have HM1 := hide hm1
        have HM2 := hide hm2
        have HW5 := hide hw5
        have HU5 := hide hU
        clear hm hm1 hm2 hw5 hU
        go_upto_region 5 with fail
        rw [unhide HM1, unhide HM2, ← unhide HW5, ← unhide HU5]
        clear HW5 HU5
        go_wp2_with fail
        go_loopw [34] (fun v wr => ∃ (q : Nat) (nl : List (List UInt8)) (il : List Js) (ys : List Value), q ≤ m ∧ v = .int .i64 (q : Int) ∧ Hid (nl = (List.range q).map (fun i => nmA ns (plF m d i)) ++ ns.drop q) ∧ Hid (il = (List.range q).map (fun i => is.getD (plF m d i) Js.nul) ++ is.drop q) ∧ Hid (Bw wr U lo 5 jn jt nl il a1 c1 a2 c2 ys) ∧ Hid (Below w3.heap.size w3 wr)) (fun v _ => m - (intOf v).toNat)
        case atStart => exact ⟨0, ns, is, xs, Nat.zero_le _, rfl, (fil_zero _ _).symm, (fil_zero _ _).symm, HBw, HB5⟩
        case round =>
          obtain ⟨q, nl, il, ys, hq, rfl, HNq, HIq, HBq, HMq⟩ := hrel
          by_cases hlt : q < m
          · have hlt' : (q : Int) < (m : Int) := by omega
            obtain ⟨p, hpe⟩ : ∃ p, p = (q + d) % m := ⟨_, rfl⟩
            have hp : p < m := by rw [hpe]; exact Nat.mod_lt _ (by omega)
            obtain ⟨s, hs⟩ : ∃ s, s = m - 1 - p := ⟨_, rfl⟩
            have hsF : s = plF m d q := by rw [hs, hpe]; rfl
            have hsm : s < m := by omega
            obtain ⟨sn, hsn⟩ : ∃ sn, ns[s]? = some sn := ⟨_, List.getElem?_eq_getElem (by rw [unhide HM1]; exact hsm)⟩
            obtain ⟨x, hx⟩ : ∃ x, is[s]? = some x := ⟨_, List.getElem?_eq_getElem (by rw [unhide HM2]; exact hsm)⟩
            have hL : nl.length = m ∧ il.length = m := by
              rw [unhide HNq, unhide HIq]
              simp [unhide HM1, unhide HM2]
              omega
            have HL := hide hL
            have HN1 : Hid (nl.set q sn = (List.range (q + 1)).map (fun i => nmA ns (plF m d i)) ++ ns.drop (q + 1)) := by
              show _ = _
              rw [unhide HNq, ← fil_step _ ns q (by rw [unhide HM1]; exact hlt)]
              congr 1
              show sn = nmA ns (plF m d q)
              rw [← hsF]; unfold nmA; rw [List.getD_eq_getElem?_getD, hsn]; rfl
            have HI1 : Hid (il.set q x = (List.range (q + 1)).map (fun i => is.getD (plF m d i) Js.nul) ++ is.drop (q + 1)) := by
              show _ = _
              rw [unhide HIq, ← fil_step _ is q (by rw [unhide HM2]; exact hlt)]
              congr 1
              show x = is.getD (plF m d q) Js.nul
              rw [← hsF, List.getD_eq_getElem?_getD, hx]; rfl
            have hzx : Sz x := by
              have h := unhide HZ
              simp only [Sz] at h
              exact (szs_iff is).1 h.2.2.2.2.2 x (List.mem_of_getElem? hx)
            obtain ⟨nb, no, rfl, hSn, hcn⟩ := unhide HNs (fun e => by rw [e] at hsn; simp at hsn)
            obtain ⟨B, off, v0, v1, v2, v3, v4, rfl, hSb, g0, g1, g2, g3, g4, hj⟩ := unhide HIs s x hx
            rw [Nat.zero_add] at g0 g1 g2 g3 g4
            obtain ⟨jk, jn1, jt1, ka1, kn1, kc1, ka2, kn2, kc2, e⟩ := hj.form
            simp only [Value.agg.injEq, Array.mk.injEq, List.cons.injEq, and_true] at e
            obtain ⟨rfl, rfl, rfl, rfl, rfl⟩ := e
            obtain ⟨D, hD⟩ : ∃ D, D = wr.drew := ⟨_, rfl⟩
            have bD : Below wr.heap.size wr D := by rw [hD]; exact Below.drew (Below.refl _ _)
            have HBD := hide ((unhide HBq).below bD)
            have HMD : Hid (Below w3.heap.size w3 D) := (unhide HMq).trans (bD.mono (unhide HMq).size)
            obtain ⟨G1, rfl⟩ : ∃ G, a1 = some ⟨G, 0, none⟩ := by
              rcases owns_cases (unhide HBD).nm with ⟨_, _, h3, _⟩ | ⟨g, cur, rfl, _⟩
              · have := (unhide HL).1; omega
              · exact ⟨g, rfl⟩
            obtain ⟨G2, rfl⟩ : ∃ G, a2 = some ⟨G, 0, none⟩ := by
              rcases owns_cases (unhide HBD).it with ⟨_, _, h3, _⟩ | ⟨g, cur, rfl, _⟩
              · have := (unhide HL).2; omega
              · exact ⟨g, rfl⟩
            have HC := hide (own4 x (Al w3) _ D (hj.keep (S' := Al w3) (fun y hy => ⟨hy, (unhide HMD).block y hy⟩)) (fun y hy => Nat.lt_of_lt_of_le hy (unhide HMD).size) hzx)
            have hrow := (unhide HBD).row
            rw [(unhide HL).1, (unhide HL).2] at hrow
            have hv3 := ((unhide HB3).below (unhide HMD)).row
            rw [unhide HM1, unhide HM2] at hv3
            have HS0 : Hid ((OrS U V nb no B off s m G1 c1 G2 c2 jc1 jc2 sn (.int .i64 jk) (.int .i64 jn1) (.string (str jt1)) (.slice ka1 kn1 kc1) (.slice ka2 kn2 kc2)) D) := by
              have kn := (unhide HMD).block nb hSn
              have kB := (unhide HMD).block B hSb
              exact ⟨(cells5 hrow).2.2.2.1, (cells5 hrow).2.2.2.2, (cells5 hv3).2.2.2.1, (cells5 hv3).2.2.2.2, cell_keep kn (hcn s sn hsn), cell_keep kB g0, cell_keep kB g1, cell_keep kB g2, cell_keep kB g3, cell_keep kB g4⟩
            have HBL : Hid (nb < w3.heap.size ∧ B < w3.heap.size ∧ V < w3.heap.size) := ⟨hSn, hSb, (Array.getElem?_eq_some_iff.1 (unhide HB3).row).1⟩
            have hpm : (((q : Int) + (d : Int)) % (m : Int)) = (p : Int) := by rw [hpe]; simp only [Int.natCast_emod, Int.natCast_add]
            have hw1 : IntKind.i64.wrap ((m : Int) - 1) = (m : Int) - 1 := by first | exact IntWalk.wrap64_in _ (by omega) | (simp [IntKind.wrap, IntKind.bits, IntKind.signed]; omega)
            have hw2 : IntKind.i64.wrap ((m : Int) - 1 - (p : Int)) = (s : Int) := by
              rw [show (m : Int) - 1 - (p : Int) = (s : Int) by omega]
              first | exact IntWalk.wrap64_in _ (by omega) | (simp [IntKind.wrap, IntKind.bits, IntKind.signed]; omega)
            have hs0 : (0 : Int) ≤ (s : Int) := by omega
            have hs1 : (s : Int) < (m : Int) := by omega
            have HSM := hide hsm
            clear hL hsF hcn hSn hSb g0 g1 g2 g3 g4 hj hrow hv3 hzx hx hsn bD HBq HMq
            go_upto_region 9 with fail
            rw [hpm]
            clear hpm hpe hs
            refine wp_region_held_drew (S := (OrS U V nb no B off s m G1 c1 G2 c2 jc1 jc2 sn (.int .i64 jk) (.int .i64 jn1) (.string (str jt1)) (.slice ka1 kn1 kc1) (.slice ka2 kn2 kc2))) (by kernel_rfl) (by rw [← hD]; exact unhide HS0) (fun hHeld => ?_)
            rw [← hD] at hHeld ⊢
            clear hD
            refine wpAnyH_take (i := 0) (oi := ?_) (v := ?_) ?_ (by kernel_rfl) ?_ ?_ ?_ ?_ hHeld ?_
            rotate_left 2
            · (simp only [List.getElem?_toArray, List.getElem?_cons_zero]) <;> with_reducible rfl
            · kernel_rfl
            · kernel_rfl
            · exact fun _ _ _ h => h
            · exact Or.inl ⟨by rfl, by (intro w hSw; (try dsimp only at hSw); obtain ⟨s1, s2, s3, s4, s5, s6, s7, s8, s9, s10⟩ := hSw; go_simp <;> with_reducible rfl)⟩
            simp only [Act.put, List.setIfInBounds_toArray, List.set_cons_zero, List.set_cons_succ]
            refine wpAnyH_take (i := 1) (oi := ?_) (v := ?_) ?_ (by kernel_rfl) ?_ ?_ ?_ ?_ hHeld ?_
            rotate_left 2
            · (simp only [List.getElem?_toArray, List.getElem?_cons_succ, List.getElem?_cons_zero]) <;> with_reducible rfl
            · kernel_rfl
            · kernel_rfl
            · exact fun _ _ _ h => h
            · exact Or.inl ⟨by rfl, by (intro w hSw; (try dsimp only at hSw); obtain ⟨s1, s2, s3, s4, s5, s6, s7, s8, s9, s10⟩ := hSw; go_simp <;> with_reducible rfl)⟩
            simp only [Act.put, List.setIfInBounds_toArray, List.set_cons_zero, List.set_cons_succ]
            refine wpAnyH_take (i := 2) (oi := ?_) (v := ?_) ?_ (by kernel_rfl) ?_ ?_ ?_ ?_ hHeld ?_
            rotate_left 2
            · (simp only [List.getElem?_toArray, List.getElem?_cons_succ, List.getElem?_cons_zero]) <;> with_reducible rfl
            · kernel_rfl
            · kernel_rfl
            · exact fun _ _ _ h => h
            · exact Or.inl ⟨by rfl, by (intro w hSw; (try dsimp only at hSw); obtain ⟨s1, s2, s3, s4, s5, s6, s7, s8, s9, s10⟩ := hSw; go_simp <;> with_reducible rfl)⟩
            simp only [Act.put, List.setIfInBounds_toArray, List.set_cons_zero, List.set_cons_succ]
            refine wpAnyH_take (i := 3) (oi := ?_) (v := ?_) ?_ (by kernel_rfl) ?_ ?_ ?_ ?_ hHeld ?_
            rotate_left 2
            · (simp only [List.getElem?_toArray, List.getElem?_cons_succ, List.getElem?_cons_zero]) <;> with_reducible rfl
            · kernel_rfl
            · kernel_rfl
            · exact fun _ _ _ h => h
            · exact Or.inl ⟨by rfl, by (intro w hSw; (try dsimp only at hSw); obtain ⟨s1, s2, s3, s4, s5, s6, s7, s8, s9, s10⟩ := hSw; go_simp <;> with_reducible rfl)⟩
            simp only [Act.put, List.setIfInBounds_toArray, List.set_cons_zero, List.set_cons_succ]
            refine wpAnyH_take (i := 4) (oi := ?_) (v := ?_) ?_ (by kernel_rfl) ?_ ?_ ?_ ?_ hHeld ?_
            rotate_left 2
            · (simp only [List.getElem?_toArray, List.getElem?_cons_succ, List.getElem?_cons_zero]) <;> with_reducible rfl
            · kernel_rfl
            · kernel_rfl
            · exact fun _ _ _ h => h
            · exact Or.inl ⟨by rfl, by (intro w hSw; (try dsimp only at hSw); obtain ⟨s1, s2, s3, s4, s5, s6, s7, s8, s9, s10⟩ := hSw; go_simp <;> with_reducible rfl)⟩
            simp only [Act.put, List.setIfInBounds_toArray, List.set_cons_zero, List.set_cons_succ]
            refine wpAnyH_take (i := 5) (oi := ?_) (v := ?_) ?_ (by kernel_rfl) ?_ ?_ ?_ ?_ hHeld ?_
            rotate_left 2
            · (simp only [List.getElem?_toArray, List.getElem?_cons_succ, List.getElem?_cons_zero]) <;> with_reducible rfl
            · kernel_rfl
            · kernel_rfl
            · exact fun _ _ _ h => h
            · exact Or.inl ⟨by rfl, by (intro w hSw; (try dsimp only at hSw); obtain ⟨s1, s2, s3, s4, s5, s6, s7, s8, s9, s10⟩ := hSw; go_simp <;> with_reducible rfl)⟩
            simp only [Act.put, List.setIfInBounds_toArray, List.set_cons_zero, List.set_cons_succ]
            refine wpAnyH_take (i := 6) (oi := ?_) (v := ?_) ?_ (by kernel_rfl) ?_ ?_ ?_ ?_ hHeld ?_
            rotate_left 2
            · (simp only [List.getElem?_toArray, List.getElem?_cons_succ, List.getElem?_cons_zero]) <;> with_reducible rfl
            · kernel_rfl
            · kernel_rfl
            · exact fun _ _ _ h => h
            · exact Or.inl ⟨by rfl, by (intro w hSw; (try dsimp only at hSw); obtain ⟨s1, s2, s3, s4, s5, s6, s7, s8, s9, s10⟩ := hSw; go_simp <;> with_reducible rfl)⟩
            simp only [Act.put, List.setIfInBounds_toArray, List.set_cons_zero, List.set_cons_succ]
            refine wpAnyH_take (i := 7) (oi := ?_) (v := ?_) ?_ (by kernel_rfl) ?_ ?_ ?_ ?_ hHeld ?_
            rotate_left 2
            · (simp only [List.getElem?_toArray, List.getElem?_cons_succ, List.getElem?_cons_zero]) <;> with_reducible rfl
            · kernel_rfl
            · kernel_rfl
            · exact fun _ _ _ h => h
            · exact Or.inl ⟨by rfl, by (intro w hSw; (try dsimp only at hSw); obtain ⟨s1, s2, s3, s4, s5, s6, s7, s8, s9, s10⟩ := hSw; go_simp <;> with_reducible rfl)⟩
            simp only [Act.put, List.setIfInBounds_toArray, List.set_cons_zero, List.set_cons_succ]
            refine wpAnyH_take (i := 8) (oi := ?_) (v := ?_) ?_ (by kernel_rfl) ?_ ?_ ?_ ?_ hHeld ?_
            rotate_left 2
            · (simp only [List.getElem?_toArray, List.getElem?_cons_succ, List.getElem?_cons_zero]) <;> with_reducible rfl
            · kernel_rfl
            · kernel_rfl
            · exact fun _ _ _ h => h
            · exact Or.inl ⟨by rfl, by (intro w hSw; (try dsimp only at hSw); obtain ⟨s1, s2, s3, s4, s5, s6, s7, s8, s9, s10⟩ := hSw; go_simp <;> with_reducible rfl)⟩
            simp only [Act.put, List.setIfInBounds_toArray, List.set_cons_zero, List.set_cons_succ]
            refine wpAnyH_take (i := 9) (oi := ?_) (v := ?_) ?_ (by kernel_rfl) ?_ ?_ ?_ ?_ hHeld ?_
            rotate_left 2
            · (simp only [List.getElem?_toArray, List.getElem?_cons_succ, List.getElem?_cons_zero]) <;> with_reducible rfl
            · kernel_rfl
            · kernel_rfl
            · exact fun _ _ _ h => h
            · exact Or.inl ⟨by rfl, by (intro w hSw; (try dsimp only at hSw); obtain ⟨s1, s2, s3, s4, s5, s6, s7, s8, s9, s10⟩ := hSw; go_simp <;> with_reducible rfl)⟩
            simp only [Act.put, List.setIfInBounds_toArray, List.set_cons_zero, List.set_cons_succ]
            refine wpAnyH_take (i := 10) (oi := ?_) (v := ?_) ?_ (by kernel_rfl) ?_ ?_ ?_ ?_ hHeld ?_
            rotate_left 2
            · (simp only [List.getElem?_toArray, List.getElem?_cons_succ, List.getElem?_cons_zero]) <;> with_reducible rfl
            · kernel_rfl
            · kernel_rfl
            · exact fun _ _ _ h => h
            · exact Or.inl ⟨by rfl, by (intro w hSw; (try dsimp only at hSw); obtain ⟨s1, s2, s3, s4, s5, s6, s7, s8, s9, s10⟩ := hSw; go_simp <;> with_reducible rfl)⟩
            simp only [Act.put, List.setIfInBounds_toArray, List.set_cons_zero, List.set_cons_succ]
            refine wpAnyH_take (i := 11) (oi := ?_) (v := ?_) ?_ (by kernel_rfl) ?_ ?_ ?_ ?_ hHeld ?_
            rotate_left 2
            · (simp only [List.getElem?_toArray, List.getElem?_cons_succ, List.getElem?_cons_zero]) <;> with_reducible rfl
            · kernel_rfl
            · kernel_rfl
            · exact fun _ _ _ h => h
            · exact Or.inl ⟨by rfl, by (intro w hSw; (try dsimp only at hSw); obtain ⟨s1, s2, s3, s4, s5, s6, s7, s8, s9, s10⟩ := hSw; go_simp <;> with_reducible rfl)⟩
            simp only [Act.put, List.setIfInBounds_toArray, List.set_cons_zero, List.set_cons_succ]
            refine wpAnyH_take (i := 12) (oi := ?_) (v := ?_) ?_ (by kernel_rfl) ?_ ?_ ?_ ?_ hHeld ?_
            rotate_left 2
            · (simp only [List.getElem?_toArray, List.getElem?_cons_succ, List.getElem?_cons_zero]) <;> with_reducible rfl
            · kernel_rfl
            · kernel_rfl
            · exact fun _ _ _ h => h
            · exact Or.inl ⟨by rfl, by (intro w hSw; (try dsimp only at hSw); obtain ⟨s1, s2, s3, s4, s5, s6, s7, s8, s9, s10⟩ := hSw; go_simp <;> with_reducible rfl)⟩
            simp only [Act.put, List.setIfInBounds_toArray, List.set_cons_zero, List.set_cons_succ]
            refine wpAnyH_take (i := 13) (oi := ?_) (v := ?_) ?_ (by kernel_rfl) ?_ ?_ ?_ ?_ hHeld ?_
            rotate_left 2
            · (simp only [List.getElem?_toArray, List.getElem?_cons_succ, List.getElem?_cons_zero]) <;> with_reducible rfl
            · kernel_rfl
            · kernel_rfl
            · exact fun _ _ _ h => h
            · exact Or.inl ⟨by rfl, by (intro w hSw; (try dsimp only at hSw); obtain ⟨s1, s2, s3, s4, s5, s6, s7, s8, s9, s10⟩ := hSw; go_simp <;> with_reducible rfl)⟩
            simp only [Act.put, List.setIfInBounds_toArray, List.set_cons_zero, List.set_cons_succ]
            refine wpAnyH_take (i := 14) (oi := ?_) (v := ?_) ?_ (by kernel_rfl) ?_ ?_ ?_ ?_ hHeld ?_
            rotate_left 2
            · (simp only [List.getElem?_toArray, List.getElem?_cons_succ, List.getElem?_cons_zero]) <;> with_reducible rfl
            · kernel_rfl
            · kernel_rfl
            · exact fun _ _ _ h => h
            · exact Or.inl ⟨by rfl, by (intro w hSw; (try dsimp only at hSw); obtain ⟨s1, s2, s3, s4, s5, s6, s7, s8, s9, s10⟩ := hSw; go_simp <;> with_reducible rfl)⟩
            simp only [Act.put, List.setIfInBounds_toArray, List.set_cons_zero, List.set_cons_succ]
            refine wpAnyH_take (i := 15) (oi := ?_) (v := ?_) ?_ (by kernel_rfl) ?_ ?_ ?_ ?_ hHeld ?_
            rotate_left 2
            · (simp only [List.getElem?_toArray, List.getElem?_cons_succ, List.getElem?_cons_zero]) <;> with_reducible rfl
            · kernel_rfl
            · kernel_rfl
            · exact fun _ _ _ h => h
            · exact Or.inl ⟨by rfl, by (intro w hSw; (try dsimp only at hSw); obtain ⟨s1, s2, s3, s4, s5, s6, s7, s8, s9, s10⟩ := hSw; go_simp <;> with_reducible rfl)⟩
            simp only [Act.put, List.setIfInBounds_toArray, List.set_cons_zero, List.set_cons_succ]
            refine wpAnyH_take (i := 16) (oi := ?_) (v := ?_) ?_ (by kernel_rfl) ?_ ?_ ?_ ?_ hHeld ?_
            rotate_left 2
            · (simp only [List.getElem?_toArray, List.getElem?_cons_succ, List.getElem?_cons_zero]) <;> with_reducible rfl
            · kernel_rfl
            · kernel_rfl
            · exact fun _ _ _ h => h
            · exact Or.inl ⟨by rfl, by (intro w hSw; (try dsimp only at hSw); obtain ⟨s1, s2, s3, s4, s5, s6, s7, s8, s9, s10⟩ := hSw; go_simp <;> with_reducible rfl)⟩
            simp only [Act.put, List.setIfInBounds_toArray, List.set_cons_zero, List.set_cons_succ]
            refine wpAnyH_take (i := 17) (oi := ?_) (v := ?_) ?_ (by kernel_rfl) ?_ ?_ ?_ ?_ hHeld ?_
            rotate_left 2
            · (simp only [List.getElem?_toArray, List.getElem?_cons_succ, List.getElem?_cons_zero]) <;> with_reducible rfl
            · kernel_rfl
            · kernel_rfl
            · exact fun _ _ _ h => h
            · exact Or.inl ⟨by rfl, by (intro w hSw; (try dsimp only at hSw); obtain ⟨s1, s2, s3, s4, s5, s6, s7, s8, s9, s10⟩ := hSw; go_simp <;> with_reducible rfl)⟩
            simp only [Act.put, List.setIfInBounds_toArray, List.set_cons_zero, List.set_cons_succ]
            refine wpAnyH_take (i := 18) (oi := ?_) (v := ?_) ?_ (by kernel_rfl) ?_ ?_ ?_ ?_ hHeld ?_
            rotate_left 2
            · (simp only [List.getElem?_toArray, List.getElem?_cons_succ, List.getElem?_cons_zero]) <;> with_reducible rfl
            · kernel_rfl
            · kernel_rfl
            · exact fun _ _ _ h => h
            · exact Or.inl ⟨by rfl, by (intro w hSw; (try dsimp only at hSw); obtain ⟨s1, s2, s3, s4, s5, s6, s7, s8, s9, s10⟩ := hSw; go_simp <;> with_reducible rfl)⟩
            simp only [Act.put, List.setIfInBounds_toArray, List.set_cons_zero, List.set_cons_succ]
            refine wpAnyH_take (i := 19) (oi := ?_) (v := ?_) ?_ (by kernel_rfl) ?_ ?_ ?_ ?_ hHeld ?_
            rotate_left 2
            · (simp only [List.getElem?_toArray, List.getElem?_cons_succ, List.getElem?_cons_zero]) <;> with_reducible rfl
            · kernel_rfl
            · kernel_rfl
            · exact fun _ _ _ h => h
            · exact Or.inl ⟨by rfl, by (intro w hSw; (try dsimp only at hSw); obtain ⟨s1, s2, s3, s4, s5, s6, s7, s8, s9, s10⟩ := hSw; go_simp <;> with_reducible rfl)⟩
            simp only [Act.put, List.setIfInBounds_toArray, List.set_cons_zero, List.set_cons_succ]
            refine wpAnyH_take (i := 20) (oi := ?_) (v := ?_) ?_ (by kernel_rfl) ?_ ?_ ?_ ?_ hHeld ?_
            rotate_left 2
            · (simp only [List.getElem?_toArray, List.getElem?_cons_succ, List.getElem?_cons_zero]) <;> with_reducible rfl
            · kernel_rfl
            · kernel_rfl
            · exact fun _ _ _ h => h
            · exact Or.inl ⟨by rfl, by (intro w hSw; (try dsimp only at hSw); obtain ⟨s1, s2, s3, s4, s5, s6, s7, s8, s9, s10⟩ := hSw; go_simp <;> with_reducible rfl)⟩
            simp only [Act.put, List.setIfInBounds_toArray, List.set_cons_zero, List.set_cons_succ]
            refine wpAnyH_take (i := 21) (oi := ?_) (v := ?_) ?_ (by kernel_rfl) ?_ ?_ ?_ ?_ hHeld ?_
            rotate_left 2
            · (simp only [List.getElem?_toArray, List.getElem?_cons_succ, List.getElem?_cons_zero]) <;> with_reducible rfl
            · kernel_rfl
            · kernel_rfl
            · exact fun _ _ _ h => h
            · exact Or.inl ⟨by rfl, by (intro w hSw; (try dsimp only at hSw); obtain ⟨s1, s2, s3, s4, s5, s6, s7, s8, s9, s10⟩ := hSw; go_simp <;> with_reducible rfl)⟩
            simp only [Act.put, List.setIfInBounds_toArray, List.set_cons_zero, List.set_cons_succ]
            refine wpAnyH_ready (rs := [22]) (by kernel_rfl) (by simp) ?rda
            refine AllReadyH.cons (o := ?oa22) ?ha22 (fun K hK => ?ba22) AllReadyH.nil
            case ha22 => (simp only [List.getElem?_toArray, List.getElem?_cons_succ, List.getElem?_cons_zero]) <;> with_reducible rfl
            case ba22 =>
              go_simp
              refine (unhide HC).mono ?_
              rintro e w7 ⟨v', lo', rfl, hlo', hcp, hb7⟩
              have hj7 : JV w7 (fun y => D.heap.size ≤ y ∧ y < w7.heap.size) v' x := hcp.jv (fun y h1 h2 => ⟨Nat.le_trans hlo' h1, h2⟩)
              obtain ⟨rk, rn, rt, ra1, rn1, rc1, ra2, rn2, rc2, rfl⟩ := hj7.form
              have HJ7 := hide hj7
              have HB7 := hide ((unhide HBD).below hb7)
              have HM7 : Hid (Below w3.heap.size w3 w7) := (unhide HMD).trans (hb7.mono (unhide HMD).size)
              have hUD := (unhide HBD).lt
              obtain ⟨l1, l2⟩ := owns_lt (unhide HBD).nm G1 rfl
              obtain ⟨l3, l4⟩ := owns_lt (unhide HBD).it G2 rfl
              have HLT : Hid (U < D.heap.size ∧ lo ≤ G1 ∧ G1 < D.heap.size ∧ lo ≤ G2 ∧ G2 < D.heap.size) := ⟨hUD, l1, l2, l3, l4⟩
              have HGU : Hid (G1 ≠ U ∧ G2 ≠ U ∧ G2 ≠ G1) := ⟨fun e => (unhide HBD).v1 (by rw [e]; rfl), fun e => (unhide HBD).v2 (by rw [e]; rfl), fun e => (unhide HBD).v3 G1 rfl (by rw [e]; rfl)⟩
              have HS7 := hide ((unhide HS0).keep (u' := w7) (fun k hk => hb7.block k (by
                have h1 := unhide HBL
                have h2 := (unhide HMD).size
                rcases hk with rfl | rfl | rfl | rfl <;> omega)))
              clear hcp hb7 hj7 hlo' hUD l1 l2 l3 l4 HC HS0
              refine hK.out _ _ (unhide HS7) (fun hHeld => ?_)
              clear hK K
              try simp only [Act.put, List.setIfInBounds_toArray, List.set_cons_zero, List.set_cons_succ]
              refine wpAnyH_take (i := 23) (oi := ?_) (v := ?_) ?_ (by kernel_rfl) ?_ ?_ ?_ ?_ hHeld ?_
              rotate_left 2
              · (simp only [List.getElem?_toArray, List.getElem?_cons_succ, List.getElem?_cons_zero]) <;> with_reducible rfl
              · kernel_rfl
              · kernel_rfl
              · exact fun _ _ _ h => h
              · exact Or.inl ⟨by rfl, by (intro w hSw; (try dsimp only at hSw); obtain ⟨s1, s2, s3, s4, s5, s6, s7, s8, s9, s10⟩ := hSw; go_simp <;> with_reducible rfl)⟩
              simp only [Act.put, List.setIfInBounds_toArray, List.set_cons_zero, List.set_cons_succ]
              obtain ⟨on1, hon1⟩ : ∃ y, nl[q]? = some y := ⟨_, List.getElem?_eq_getElem (by rw [(unhide HL).1]; exact hlt)⟩
              obtain ⟨e1, f1⟩ := owns_cell (unhide HB7).nm q _ (nsv_get nl q on1 hon1)
              clear hon1
              refine wpAnyH_ready (rs := [24]) (by kernel_rfl) (by simp) ?rdb
              refine AllReadyH.cons (o := ?ob24) ?hb24 (fun K hK => ?bb24) AllReadyH.nil
              case hb24 => (simp only [List.getElem?_toArray, List.getElem?_cons_succ, List.getElem?_cons_zero]) <;> with_reducible rfl
              case bb24 =>
                obtain ⟨w8, h8⟩ : ∃ w8, w8 = w7.setCell ⟨G1, q, none⟩ (.string (str sn)) := ⟨_, rfl⟩
                have k8 : ∀ k, k ≠ G1 → w8.heap[k]? = w7.heap[k]? := fun k hk => by rw [h8]; exact Below.heap_setCell _ ⟨G1, q, none⟩ _ k hk
                have HM8 : Hid (Mv w7 w8 G1) := by
                  show Mv _ _ _
                  rw [h8]; exact Mv.set _ _ _ _
                have HS8 := hide ((unhide HS7).keep (u' := w8) (fun k hk => k8 k (by
                  have h1 := unhide HBL
                  have h2 := unhide HLO
                  have h3 := unhide HLT
                  have h4 := unhide HGU
                  rcases hk with rfl | rfl | rfl | rfl <;> omega)))
                have HO8 := hide (owns_same (w' := w8) (unhide HB7).it (fun k hk => k8 k (fun e => (unhide HGU).2.2 (by simp [blk] at hk; omega))))
                have HW8 := hide h8
                clear k8
                go_simp
                rw [← h8]
                clear h8
                refine hK.out _ _ (unhide HS8) (fun hHeld => ?_)
                clear hK K e1 f1
                try simp only [Act.put, List.setIfInBounds_toArray, List.set_cons_zero, List.set_cons_succ]
                refine wpAnyH_take (i := 25) (oi := ?_) (v := ?_) ?_ (by kernel_rfl) ?_ ?_ ?_ ?_ hHeld ?_
                rotate_left 2
                · (simp only [List.getElem?_toArray, List.getElem?_cons_succ, List.getElem?_cons_zero]) <;> with_reducible rfl
                · kernel_rfl
                · kernel_rfl
                · exact fun _ _ _ h => h
                · exact Or.inl ⟨by rfl, by (intro w hSw; (try dsimp only at hSw); obtain ⟨s1, s2, s3, s4, s5, s6, s7, s8, s9, s10⟩ := hSw; go_simp <;> with_reducible rfl)⟩
                simp only [Act.put, List.setIfInBounds_toArray, List.set_cons_zero, List.set_cons_succ]
                obtain ⟨ov, hov, z0, z1, z2, z3, z4, e, h0, h1, h2, h3, h4⟩ : ∃ v, True ∧ At5 ys q v := by
                  obtain ⟨y, hy⟩ : ∃ y, il[q]? = some y := ⟨_, List.getElem?_eq_getElem (by rw [(unhide HL).2]; exact hlt)⟩
                  obtain ⟨v, a, _⟩ := (unhide HB7).el q y hy
                  exact ⟨v, trivial, a⟩
                obtain ⟨e0, f0⟩ := owns_cell (unhide HO8) _ _ h0
                obtain ⟨e1, f1⟩ := owns_cell (unhide HO8) _ _ h1
                obtain ⟨e2, f2⟩ := owns_cell (unhide HO8) _ _ h2
                obtain ⟨e3, f3⟩ := owns_cell (unhide HO8) _ _ h3
                obtain ⟨e4, f4⟩ := owns_cell (unhide HO8) _ _ h4
                clear e h0 h1 h2 h3 h4
                refine wpAnyH_ready (rs := [26]) (by kernel_rfl) (by simp) ?rdc
                refine AllReadyH.cons (o := ?oc26) ?hc26 (fun K hK => ?bc26) AllReadyH.nil
                case hc26 => (simp only [List.getElem?_toArray, List.getElem?_cons_succ, List.getElem?_cons_zero]) <;> with_reducible rfl
                case bc26 =>
                  obtain ⟨w9, h9⟩ : ∃ w9, w9 = ((((w8.setCell ⟨G2, q * 5, none⟩ (.int .i64 rk)).setCell ⟨G2, q * 5 + 1, none⟩ (.int .i64 rn)).setCell ⟨G2, q * 5 + 2, none⟩ (.string (str rt))).setCell ⟨G2, q * 5 + 3, none⟩ (.slice ra1 rn1 rc1)).setCell ⟨G2, q * 5 + 4, none⟩ (.slice ra2 rn2 rc2) := ⟨_, rfl⟩
                  have HM9 : Hid (Mv w8 w9 G2) := by
                    show Mv _ _ _
                    rw [h9]; exact ((((Mv.set _ _ _ _).trans (Mv.set _ _ _ _)).trans (Mv.set _ _ _ _)).trans (Mv.set _ _ _ _)).trans (Mv.set _ _ _ _)
                  have k9 : ∀ k, k ≠ G2 → w9.heap[k]? = w8.heap[k]? := fun k hk => by rw [h9]; exact far5 _ _ _ _ _ _ _ _ _ _ _ _ _ hk
                  have HS9 := hide ((unhide HS8).keep (u' := w9) (fun k hk => k9 k (by
                    have h1 := unhide HBL
                    have h2 := unhide HLO
                    have h3 := unhide HLT
                    have h4 := unhide HGU
                    rcases hk with rfl | rfl | rfl | rfl <;> omega)))
                  have HB9 := hide ((unhide HB7).put (old := D.heap.size) q (by rw [(unhide HL).1]; exact hlt) (by rw [(unhide HL).2]; exact hlt) sn (unhide HJ7) (by have := unhide HLT; omega) (unhide HLT).1 (unhide HLT).2.2.1 (unhide HLT).2.2.2.2 (unhide HW8) h9)
                  have HMn : Hid (Below w3.heap.size w3 w9) := by
                    have b7 := unhide HM7
                    have m8 := unhide HM8
                    have m9 := unhide HM9
                    have g1 := unhide HLO
                    have g2 := unhide HLT
                    exact ⟨m9.os.trans (m8.os.trans b7.os), m9.tape.trans (m8.tape.trans b7.tape), m9.output.trans (m8.output.trans b7.output), Nat.le_trans b7.size (Nat.le_trans m8.size m9.size), fun y hy => (m9.block y (Nat.lt_of_lt_of_le hy (Nat.le_trans b7.size m8.size)) (fun e => by have := Option.some.inj e; omega)).trans ((m8.block y (Nat.lt_of_lt_of_le hy b7.size) (fun e => by have := Option.some.inj e; omega)).trans (b7.block y hy))⟩
                  clear k9
                  go_simp
                  rw [← h9]
                  clear h9
                  refine hK.out _ _ (unhide HS9) (fun hHeld => ?_)
                  clear hK K e0 f0 e1 f1 e2 f2 e3 f3 e4 f4
                  try simp only [Act.put, List.setIfInBounds_toArray, List.set_cons_zero, List.set_cons_succ]
                  refine wpAnyH_done (by kernel_rfl) ?_ _
                  clear hw1 hw2 hs0 hs1 hHeld
                  go_wp2_with fail
                  go_roundw
                  case rel => exact ⟨q + 1, _, _, _, by omega, by go_num, HN1, HI1, HB9, HMn⟩
                  case measure => simp [intOf]; omega
          · have hqm : q = m := by omega
            subst hqm
            have hlt' : ¬ (q : Int) < (q : Int) := by omega
            obtain ⟨o1, o2, o3⟩ := order_math jn jt ns is (plF q d) hck (unhide HZ) (by rw [unhide HM1]; exact plc_law q d hd)
            have en : nl = nmS ns (plF q d) := by
              have h := fil_end (fun i => nmA ns (plF q d i)) ns
              rw [unhide HM1] at h
              rw [unhide HNq, h]; unfold nmS; rw [unhide HM1]
            have ei : il = isS is (plF q d) := by
              have h := fil_end (fun i => is.getD (plF q d i) Js.nul) is
              rw [unhide HM2] at h
              rw [unhide HIq, h]; unfold isS; rw [unhide HM2]
            rw [← en, ← ei] at o1 o2 o3
            have hl1 : nl.length = q := by rw [en]; unfold nmS; simp [unhide HM1]
            have hl2 : il.length = q := by rw [ei]; unfold isS; simp [unhide HM2]
            have HBU : Hid (Bj wr U 5 jn jt a1 q c1 a2 q c2 (.mk 5 jn jt nl il)) := by
              have h := (unhide HBq).row
              have hj := (unhide HBq).cp.jv (S := Al wr) (fun k _ h => h)
              rw [hl1, hl2] at h hj
              exact ⟨h, hj⟩
            have HBV : Hid (Bj wr V 5 jn jt ja1 q jc1 ja2 q jc2 (.mk 5 jn jt ns is)) := by
              have h := (unhide HB3).below (unhide HMq)
              rw [unhide HM1, unhide HM2] at h
              exact h
            have HWr : Hid (Below w.heap.size w wr) := (unhide HW3).trans ((unhide HMq).mono (unhide HW3).size)
            have HPa := hide (print_any (.mk 5 jn jt ns is) (Al wr) _ wr (unhide HEn wr (unhide HWr)).tb (unhide HEn wr (unhide HWr)).pt (unhide HBV).jv (fun k hk => hk) (unhide HZ))
            have HPb : Hid (∀ u, Below wr.heap.size wr u → Calls Tryz.prog 11 #[.agg #[.int .i64 5, .int .i64 jn, .string (str jt), .slice a1 q c1, .slice a2 q c2]] u fun e w' => e = .returned (.tuple #[.string (str (prM (.mk 5 jn jt ns is)).1), .int .i64 ((prM (.mk 5 jn jt ns is)).2 : Int)]) ∧ Hid (Below u.heap.size u w')) := fun u hb => by
              have h := print_any (.mk 5 jn jt nl il) (Al u) _ u (unhide HEn u ((unhide HWr).trans (hb.mono (unhide HWr).size))).tb (unhide HEn u ((unhide HWr).trans (hb.mono (unhide HWr).size))).pt ((unhide HBU).below hb).jv (fun k hk => hk) o1.2
              rw [o2] at h
              exact h
            have HSm : Hid (∀ u, Below wr.heap.size wr u → Calls Tryz.prog 14 #[.agg #[.int .i64 5, .int .i64 jn, .string (str jt), .slice ja1 q jc1, .slice ja2 q jc2], .agg #[.int .i64 5, .int .i64 jn, .string (str jt), .slice a1 q c1, .slice a2 q c2]] u fun e w' => e = .returned (.bool true) ∧ Hid (Below u.heap.size u w')) := fun u hb => by
              have h := same_any (.mk 5 jn jt ns is) (.mk 5 jn jt nl il) (Al u) _ _ u (unhide HEn u ((unhide HWr).trans (hb.mono (unhide HWr).size))).tb ((unhide HBV).below hb).jv ((unhide HBU).below hb).jv (fun k hk => hk) (unhide HZ) o1.2
              rw [o3] at h
              exact h
            generalize prM (.mk 5 jn jt ns is) = PA at HPa HPb
            obtain ⟨pt, pe⟩ := PA
            simp only at HPa HPb
            clear o1 o2 o3 en ei hl1 hl2 hck hdo hd hm0 hlt hq
            obtain ⟨p0, p1, p2, p3, p4⟩ := cells5 (unhide HBV).row
            go_wp2_with fail
            refine (unhide HPa).mono ?_
            rintro e w6 ⟨rfl, h6⟩
            have HP6 := hide (unhide HPb w6 (unhide h6))
            clear HPa HPb p0 p1 p2 p3 p4
            obtain ⟨q0, q1, q2, q3, q4⟩ := cells5 ((unhide HBU).below (unhide h6)).row
            go_wp2_with fail
            refine (unhide HP6).mono ?_
            rintro e w7 ⟨rfl, h7⟩
            have HB7 : Hid (Below wr.heap.size wr w7) := (unhide h6).trans ((unhide h7).mono (unhide h6).size)
            have HS7 := hide (unhide HSm w7 (unhide HB7))
            clear HP6 q0 q1 q2 q3 q4 h6 h7 HSm
            obtain ⟨p0, p1, p2, p3, p4⟩ := cells5 ((unhide HBV).below (unhide HB7)).row
            obtain ⟨q0, q1, q2, q3, q4⟩ := cells5 ((unhide HBU).below (unhide HB7)).row
            go_wp2_with fail
            refine (unhide HS7).mono ?_
            rintro e w8 ⟨rfl, h8⟩
            have HW8 : Hid (Below w.heap.size w w8) := (unhide HWr).trans (((unhide HB7).trans ((unhide h8).mono (unhide HB7).size)).mono (unhide HWr).size)
            have HA8 := hide (unhide HAW w8 (unhide HW8))
            clear HS7 p0 p1 p2 p3 p4 q0 q1 q2 q3 q4 h8 HB7
            go_wp2_with fail
            refine (unhide HA8).mono ?_
            rintro e w9 ⟨rfl, h9⟩
            have HF : Hid (Below w.heap.size w w9) := (unhide HW8).trans ((unhide h9).mono (unhide HW8).size)
            go_wp2_with fail
            go_ret
            exact ⟨rfl, HF⟩
      · have hck' : ¬ ((ck 16 (.mk 5 jn jt ns is) : Nat) : Int) = 0 := by omega
        generalize ((ck 16 (.mk 5 jn jt ns is) : Nat) : Int) = CK at hck'
        clear hck p0 p1 p2 p3 p4
        go_wp2_with fail
        refine (unhide HA3).mono ?_
        rintro e w7 ⟨rfl, h7⟩
        have HF : Hid (Below w.heap.size w w7) := (unhide HW3).trans ((unhide h7).mono (unhide HW3).size)
        go_wp2_with fail
        go_ret
        exact ⟨rfl, HF⟩
    · go_wp2_with fail
      refine (unhide HCN).mono ?_
      rintro e w1 ⟨rfl, h1⟩
      have HW1 : Hid (Below w.heap.size w w1) := (unhide HWW).trans ((unhide h1).mono (unhide HWW).size)
      have HB1 := hide ((unhide HB).below (unhide h1))
      have HA1 := hide (unhide HAW w1 (unhide HW1))
      clear HCN h1 p0 p1 p2 p3 p4
      obtain ⟨p0, p1, p2, p3, p4⟩ := cells5 (unhide HB1).row
      go_wp2_with fail
      refine (unhide HA1).mono ?_
      rintro e w2 ⟨rfl, h2⟩
      have HF : Hid (Below w.heap.size w w2) := (unhide HW1).trans ((unhide h2).mono (unhide HW1).size)
      go_wp2_with fail
      go_ret
      exact ⟨rfl, HF⟩
#print axioms jorder_any
theorem jsonxOrder_walk (v : Value) (j : Js) (k : Int) (w : World) (hJ : JV w (Al w) v j) (hi : Ib j) (hE : Env4 w) :
    Calls Tryz.prog 6 #[v, .int .i64 k] w fun e w' => e = .returned (.bool true) ∧ Below w.heap.size w w' :=
  (jorder_any j v k w hJ hi hE).mono fun e w' h => ⟨h.1, unhide h.2⟩
end Go.Proofs.YtibiegeladphjaaGreatDoor
end
