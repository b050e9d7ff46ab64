/-
  jsonx's statements: a value in memory of its own: own.; jsonx's statements: a member of one's own value is written anew.; jsonx: slices.Clone of a value's items; a value in the midst of being copied by deepCopy.; jsonx: deepCopy.; jsonx: slices.Index of names; Get, and the document's own.
-/
import Derived.Test.YtbnbngmnoffmkaaGreatDoorPkJetsbh
import Derived.Deep.RegionLaw
import Derived.Test.YtbnbngmnoffmkaaGreatDoorPkJetsax
section
set_option linter.unusedVariables false
set_option maxRecDepth 1000000
namespace Go.Proofs.YtbnbngmnoffmkaaGreatDoor
open Go.RowKit

/-- What own hands back. -/
def OwP (w : World) (j : Js) (e : Ending) (w' : World) : Prop := ∃ v lo, e = .returned v ∧ w.heap.size ≤ lo ∧ CpJ lo w' v j ∧ Below w.heap.size w w'
def OwC (j : Js) : Prop := ∀ (S : Nat → Prop) (v : Value) (w : World), JV w S v j → (∀ k, S k → k < w.heap.size) → Sz j → Calls Tryz.prog 11 #[v] w fun e w' => OwP w j e w'
set_option maxHeartbeats 16000000 in
theorem own_core (k n : Int) (t : List UInt8) (ns : List (List UInt8)) (is : List Js) (hrec : ∀ x ∈ is, OwC x) : OwC (.mk k n t ns is) := by
  intro S v w hJ hS hz
  simp only [JV] at hJ
  obtain ⟨a1, c1, a2, c2, rfl, hN, hnc, hnm, hnn, hic, him, _, hIt⟩ := hJ
  simp only [Sz] at hz
  obtain ⟨hz1, hz2, hz3, hz4, hz5, hz6⟩ := hz
  obtain ⟨m, hm⟩ : ∃ m, m = is.length := ⟨_, rfl⟩
  obtain ⟨g, hg⟩ : ∃ g, g = ns.length := ⟨_, rfl⟩
  have HM := hide hm
  have HG := hide hg
  obtain ⟨V1, hV1⟩ : ∃ V1, V1 = w.heap.size := ⟨_, rfl⟩
  obtain ⟨V2, hV2⟩ : ∃ V2, V2 = w.heap.size + 1 := ⟨_, rfl⟩
  obtain ⟨V3, hV3⟩ : ∃ V3, V3 = w.heap.size + 1 + 1 := ⟨_, rfl⟩
  obtain ⟨W, hW⟩ : ∃ W, W = ((w.alloc (.cells #[.int .i64 k, .int .i64 n, .string (str t), .slice a1 ns.length c1, .slice a2 is.length c2] 25)).alloc (.cells #[.int .i64 0, .int .i64 0, .string ⟨#[]⟩, .slice none 0 0, .slice none 0 0] 25)).alloc (.cells #[.int .i64 k, .int .i64 n, .string (str t), .slice a1 ns.length c1, .slice a2 is.length c2] 25) := ⟨_, rfl⟩
  have bW : Below w.heap.size w W := by rw [hW]; exact below3 w _ _ _
  have sW : W.heap.size = w.heap.size + 3 := by rw [hW]; simp
  have rV3 : W.heap[V3]? = some (.cells #[.int .i64 k, .int .i64 n, .string (str t), .slice a1 g c1, .slice a2 m c2] 25 (0, 0)) := by
    rw [hW, hV3, hm, hg]
    have := heap_alloc_new (((w.alloc (.cells #[.int .i64 k, .int .i64 n, .string (str t), .slice a1 ns.length c1, .slice a2 is.length c2] 25)).alloc (.cells #[.int .i64 0, .int .i64 0, .string ⟨#[]⟩, .slice none 0 0, .slice none 0 0] 25))) (.cells #[.int .i64 k, .int .i64 n, .string (str t), .slice a1 ns.length c1, .slice a2 is.length c2] 25)
    simpa using this
  have rV2 : W.heap[V2]? = some (.cells #[.int .i64 0, .int .i64 0, .string ⟨#[]⟩, .slice none 0 0, .slice none 0 0] 25 (0, 0)) := by
    rw [hW, hV2, heap_alloc_old _ _ (by simp)]
    exact heap_alloc2_new _ _ _
  have rV1 : W.heap[V1]? = some (.cells #[.int .i64 k, .int .i64 n, .string (str t), .slice a1 g c1, .slice a2 m c2] 25 (0, 0)) := by
    rw [hW, hV1, hm, hg, heap_alloc_old _ _ (by simp; omega), heap_alloc_old _ _ (by simp)]
    exact heap_alloc_new _ _
  have h12 : V1 < V2 ∧ V2 < V3 ∧ w.heap.size ≤ V1 := by omega
  have hsz3 : W.heap.size = V3 + 1 := by omega
  have HCL := hide (nclone_any a1 c1 ns S W (hN.keep (fun q hq => ⟨hq, bW.block q (hS q hq)⟩)) hnn hnc (by omega))
  rw [← hg] at HCL
  have HI := hide hIt
  have HS := hide hS
  have HREC := hide hrec
  have HZ6 := hide hz6
  have HbW := hide bW
  have HsW := hide hsz3
  have H12 := hide h12
  have HRV1 := hide rV1
  have HRV2 := hide rV2
  have HRV3 := hide rV3
  have hmB : m ≤ 100000 := by omega
  have hgB : g ≤ 100000 := by omega
  obtain ⟨p0, p1, p2, p3, p4⟩ := cells5 rV1
  rw [← hg, ← hm] at hW
  rw [← hg, ← hm]
  clear hN hIt hS hrec hz1 hz2 hz3 hz4 hz5 hz6 bW sW rV1 rV2 rV3 h12 hsz3 hm hg hnc hnm hnn hic him
  go_enter Tryz.func11, Tryz.ntmps11
  go_upto_region 2 with fail
  rw [← hW, ← hV3, ← hV2, ← hV1]
  clear hW hV1 hV2 hV3
  go_wp2_with fail
  refine (unhide HCL).mono ?_
  rintro e w2 ⟨a', c', rfl, HO2, HB2⟩
  have HR3 := hide (((unhide HB2).block V3 (by rw [unhide HsW]; omega)).trans (unhide HRV3))
  have f3 := frozen_of_row w2 V3 3 _ _ (unhide HR3)
  have f4 := frozen_of_row w2 V3 4 _ _ (unhide HR3)
  have d3 := cell_of_row w2 V3 3 _ _ _ (unhide HR3)
  have d4 := cell_of_row w2 V3 4 _ _ _ (unhide HR3)
  simp only [List.getElem?_toArray, List.getElem?_cons_succ, List.getElem?_cons_zero] at d3 d4
  clear HCL p0 p1 p2 p3 p4
  obtain ⟨w4, hw4⟩ : ∃ w4, w4 = (w2.setCell ⟨V3, 3, none⟩ (.slice a' g c')).setCell ⟨V3, 4, none⟩ (.slice none 0 0) := ⟨_, rfl⟩
  have hk4 : ∀ x, x ≠ V3 → w4.heap[x]? = w2.heap[x]? := fun x hx => by rw [hw4, Below.heap_setCell _ ⟨V3, 4, none⟩ _ x hx, Below.heap_setCell _ ⟨V3, 3, none⟩ _ x hx]
  have hs4 : w4.heap.size = w2.heap.size := by rw [hw4]; simp
  have HB4 : Hid (Bw w4 V3 W.heap.size k n t ns [] a' c' none 0 []) := by
    have hne : ∀ x, blk a' = some x → x ≠ V3 := fun x hx e => by have := (owns_lt (unhide HO2) x hx).1; rw [unhide HsW] at this; omega
    refine ⟨?_, owns_same (unhide HO2) (fun x hx => hk4 x (hne x hx)), ⟨rfl, .inl ⟨rfl, rfl⟩⟩, fun _ _ h => by simp at h, fun e => hne V3 e rfl, (fun e => by cases e), (fun _ _ e => by cases e)⟩
    rw [hw4, ← unhide HG]
    exact heap_setCell_same _ _ _ _ _ _ (heap_setCell_same _ _ _ _ _ _ (unhide HR3))
  have HM4 : Hid (Mv W w4 V3) := by
    show Mv _ _ _
    rw [hw4]
    exact ((Mv.ofB (unhide HB2)).trans (Mv.set w2 V3 3 _)).trans (Mv.set _ V3 4 _)
  have HR1 := hide ((hk4 V1 (by have := unhide H12; omega)).trans (((unhide HB2).block V1 (by rw [unhide HsW]; have := unhide H12; omega)).trans (unhide HRV1)))
  obtain ⟨p0, p1, p2, p3, p4⟩ := cells5 (unhide HR1)
  clear hk4 hs4 HR3 HO2 HB2
  go_upto_region 4 with fail
  rw [← hw4]
  clear hw4 d3 d4 f3 f4
  go_wp2_with fail
  clear p0 p1 p2 p3 p4
  go_loopw [15] (fun v wr => ∃ (q : Nat) (L : List Js) (ca : Option Addr) (cc : Nat) (xs : List Value), q ≤ m ∧ v = .int .i64 (q : Int) ∧ Hid (L = is.take q) ∧ Hid (Bw wr V3 W.heap.size k n t ns L a' c' ca cc xs) ∧ Hid (Mv W wr V3)) (fun v _ => m - (intOf v).toNat)
  case atStart => exact ⟨0, [], none, 0, [], Nat.zero_le _, rfl, by show _ = _; simp, HB4, HM4⟩
  case round =>
    obtain ⟨q, L, ca, cc, xs, hq, rfl, HLq, HBq, HMq⟩ := hrel
    by_cases hlt : q < m
    · have hlt' : (q : Int) < (m : Int) := by omega
      obtain ⟨x, hx⟩ : ∃ x, is[q]? = some x := ⟨_, List.getElem?_eq_getElem (by rw [← unhide HM]; exact hlt)⟩
      have hLl : L.length ≤ 100000 := by rw [unhide HLq, List.length_take]; omega
      have HL1 : Hid (L ++ [x] = is.take (q + 1)) := by show _ = _; rw [List.take_add_one, hx, unhide HLq]; rfl
      have hmem := List.mem_of_getElem? hx
      have ex := ((jvs_iff w S a2 is 0).1 (unhide HI) q x hx).keep (S' := S) (w' := wr) (fun y hy => ⟨hy, ((unhide HMq).block y (Nat.lt_of_lt_of_le (unhide HS y hy) (unhide HbW).size) (fun e => by have := Option.some.inj e; have := unhide HS y hy; have := unhide H12; omega)).trans ((unhide HbW).block y (unhide HS y hy))⟩)
      rw [Nat.zero_add] at ex
      obtain ⟨B, off, v0, v1, v2, v3, v4, rfl, hSb, g0, g1, g2, g3, g4, hj⟩ := ex
      obtain ⟨jk, jn, jt, ja1, jn1, jc1, ja2, jn2, jc2, e⟩ := hj.form
      simp only [Value.agg.injEq, Array.mk.injEq, List.cons.injEq, and_true] at e
      obtain ⟨rfl, rfl, rfl, rfl, rfl⟩ := e
      obtain ⟨Z, hZ⟩ : ∃ Z, Z = wr.heap.size := ⟨_, rfl⟩
      obtain ⟨U, hU⟩ : ∃ U, U = wr.alloc (.cells #[.int .i64 jk, .int .i64 jn, .string (str jt), .slice ja1 jn1 jc1, .slice ja2 jn2 jc2] 25) := ⟨_, rfl⟩
      have bU : Below wr.heap.size wr U := by rw [hU]; exact (Below.refl _ _).alloc (Nat.le_refl _) _
      have rU : U.heap[Z]? = some (.cells #[.int .i64 jk, .int .i64 jn, .string (str jt), .slice ja1 jn1 jc1, .slice ja2 jn2 jc2] 25 (0, 0)) := by rw [hU, hZ]; exact heap_alloc_new _ _
      have hsl : ∀ y, S y → y < wr.heap.size := fun y hy => by have := unhide HS y hy; have := (unhide HbW).size; have := (unhide HMq).size; omega
      have HC := hide (unhide HREC x hmem S _ U.drew (JV.keep (w := wr) (w' := U.drew) (fun y hy => ⟨hy, bU.block y (hsl y hy)⟩) _ _ hj) (fun y hy => Nat.lt_of_lt_of_le (hsl y hy) bU.size) ((szs_iff is).1 (unhide HZ6) x hmem))
      have HBU := hide ((unhide HBq).below bU)
      have HMU : Hid (Mv W U V3) := (unhide HMq).trans (Mv.ofB bU)
      have HWsz : Hid (W.heap.size ≤ U.heap.size) := (unhide HMU).size
      obtain ⟨d0, d1, d2, d3, d4⟩ := cells5 rU
      obtain ⟨_, c4, _⟩ := (unhide HBU).cells
      clear hx hmem hSb hj bU rU hsl HBq HMq HLq
      go_upto_region 7 with fail
      rw [← hU, ← hZ]
      clear hU hZ g0 g1 g2 g3 g4
      go_region_law (first
        | (refine stp_app5 _ rfl _ _ rfl W.heap.size ca cc L.length xs rfl ((unhide HB5).below ((Below.refl _ _).alloc (Nat.le_refl _) _)).it w5.heap.size _ rfl [.int .i64 rk, .int .i64 rn, .string (str rt), .slice ra1 rn1 rc1, .slice ra2 rn2 rc2] rfl (by simp [Value.oneCell']) (heap_alloc_new _ _) (by omega) (by simp; have := unhide HW5; omega) ?_
           intro gg cap w7 HO HGr HAT HGL
           have HR7 := hide (((unhide HGr).block V3 ((unhide HB5).below ((Below.refl _ _).alloc (Nat.le_refl _) _)).lt (fun e => (unhide HB5).v2 e.symm)).trans ((unhide HB5).below ((Below.refl _ _).alloc (Nat.le_refl _) _)).row)
           have f7 := frozen_of_row w7 V3 4 _ _ (unhide HR7)
           have c7 : w7.cell? ⟨V3, 4, none⟩ = some (.slice ca L.length cc) := (cells5 (unhide HR7)).2.2.2.2)
        | (go_simp
           go_at_call 11
           refine (unhide HC).mono ?_
           rintro e w5 ⟨v', lo', rfl, hlo', hcp, hb5⟩
           have hj5 : JV w5 (fun y => U.heap.size ≤ y ∧ y < w5.heap.size) v' x := hcp.jv (fun y h1 h2 => ⟨Nat.le_trans hlo' h1, h2⟩)
           obtain ⟨rk, rn, rt, ra1, rn1, rc1, ra2, rn2, rc2, rfl⟩ := hj5.form
           have HJ5 := hide hj5
           have HB5 : Hid (Bw w5 V3 W.heap.size k n t ns L a' c' ca cc xs) := (unhide HBU).below ((Below.refl _ _).drew.trans hb5)
           have HM5 : Hid (Mv W w5 V3) := (unhide HMU).trans (Mv.ofB ((Below.refl _ _).drew.trans hb5))
           have HW5 : Hid (W.heap.size ≤ w5.heap.size) := (unhide HM5).size
           have HS5 : Hid (U.heap.size ≤ w5.heap.size) := hb5.size
           have c5 : w5.cell? ⟨V3, 4, none⟩ = some (.slice ca L.length cc) := (unhide HB5).cells.2.1
           have hV5 : V3 < w5.heap.size := (unhide HB5).lt
           clear hcp hb5 hlo' hj5))
      all_goals
        obtain ⟨u, hu⟩ : ∃ u, u = w5.alloc (.cells #[.int .i64 rk, .int .i64 rn, .string (str rt), .slice ra1 rn1 rc1, .slice ra2 rn2 rc2] 25) := ⟨_, rfl⟩
        have b5u : Below w5.heap.size w5 u := by rw [hu]; exact (Below.refl _ _).alloc (Nat.le_refl _) _
        have HGu : u.grownBy w7 (blk ca) := by rw [hu]; exact unhide HGr
        have HATu : blk ca = some gg ∨ gg = u.heap.size := by rw [hu]; exact unhide HAT
        have hBu := (unhide HB5).below b5u
        have hgV : gg ≠ V3 := by
          rintro rfl
          rcases HATu with e | e
          · exact hBu.v2 e
          · have := hBu.lt; omega
        obtain ⟨w8, hw8⟩ : ∃ w8, w8 = w7.setCell ⟨V3, 4, none⟩ (.slice (some ⟨gg, 0, none⟩) (L.length + 1) cap) := ⟨_, rfl⟩
        have k8 : ∀ y, y ≠ V3 → w8.heap[y]? = w7.heap[y]? := fun y hy => by rw [hw8]; exact Below.heap_setCell _ ⟨V3, 4, none⟩ _ y hy
        have r8 : w8.heap[V3]? = some (.cells #[.int .i64 k, .int .i64 n, .string (str t), .slice a' ns.length c', .slice (some ⟨gg, 0, none⟩) (L.length + 1) cap] 25 (0, 0)) := by rw [hw8]; exact heap_setCell_same _ _ _ _ _ _ (unhide HR7)
        have s8 : w8.heap.size = w7.heap.size := by rw [hw8]; simp
        have hB8 : Bw w8 V3 W.heap.size k n t ns (L ++ [x]) a' c' (some ⟨gg, 0, none⟩) cap (xs ++ [.int .i64 rk, .int .i64 rn, .string (str rt), .slice ra1 rn1 rc1, .slice ra2 rn2 rc2]) :=
          hBu.push (old := U.heap.size) (JV.keep (fun y hy => ⟨⟨hy.1, Nat.lt_of_lt_of_le hy.2 b5u.size⟩, b5u.block y hy.2⟩) _ _ (unhide HJ5)) (unhide HWsz) (unhide HBU).lt (fun y hy => (owns_lt (unhide HBU).nm y hy).2) (fun y hy => (owns_lt (unhide HBU).it y hy).2) HGu HATu (unhide HGL) r8 (owns_same (unhide HO) (fun y hy => k8 y (fun e => hgV (by simp [blk] at hy; omega)))) (fun y h1 _ => k8 y h1) s8
        have HB8 := hide hB8
        have HM8 : Hid (Mv W w8 V3) := by
          show Mv _ _ _
          have m1 : Mv W u V3 := (unhide HM5).trans (Mv.ofB b5u)
          have m2 : Mv W w7 V3 := ⟨HGu.os.trans m1.os, HGu.tape.trans m1.tape, HGu.output.trans m1.output, Nat.le_trans m1.size HGu.size, fun y hy hne => (HGu.block y (Nat.lt_of_lt_of_le hy m1.size) (fun e => by have := (owns_lt hBu.it y e.symm).1; omega)).trans (m1.block y hy hne)⟩
          rw [hw8]
          exact m2.trans (Mv.set w7 V3 4 _)
        rw [← hw8]
        clear hw8 k8 r8 s8 hB8 hBu hgV HATu HGu b5u hu f7 c7 c5 hV5 d0 d1 d2 d3 d4 c4
        go_wp2_with fail
        go_roundw
        case rel => exact ⟨q + 1, L ++ [x], some ⟨gg, 0, none⟩, cap, _, by omega, by go_num, HL1, HB8, HM8⟩
        case measure => simp [intOf]; omega
    · have hqm : q = m := by omega
      subst hqm
      have hlt' : ¬ (q : Int) < (q : Int) := by omega
      have HLI : Hid (L = is) := by show _ = _; rw [unhide HLq, unhide HM, List.take_length]
      have hrow := (unhide HBq).row
      have HLs : Hid (L.length = q ∧ ns.length = g) := ⟨by rw [unhide HLI]; exact (unhide HM).symm, (unhide HG).symm⟩
      rw [(unhide HLs).1, (unhide HLs).2] at hrow
      obtain ⟨p0, p1, p2, p3, p4⟩ := cells5 hrow
      have r2 := ((unhide HMq).block V2 (by have := unhide H12; have := unhide HsW; omega) (fun e => by have := Option.some.inj e; have := unhide H12; omega)).trans (unhide HRV2)
      obtain ⟨q0, q1, q2, q3, q4⟩ := cells5 r2
      have f0 := frozen_of_row wr V2 0 _ _ r2
      have f1 := frozen_of_row wr V2 1 _ _ r2
      have f2 := frozen_of_row wr V2 2 _ _ r2
      have f3 := frozen_of_row wr V2 3 _ _ r2
      have f4 := frozen_of_row wr V2 4 _ _ r2
      obtain ⟨w9, hw9⟩ : ∃ w9, w9 = ((((wr.setCell ⟨V2, 0, none⟩ (.int .i64 k)).setCell ⟨V2, 1, none⟩ (.int .i64 n)).setCell ⟨V2, 2, none⟩ (.string (str t))).setCell ⟨V2, 3, none⟩ (.slice a' g c')).setCell ⟨V2, 4, none⟩ (.slice ca q cc) := ⟨_, rfl⟩
      have r9 : w9.heap[V2]? = some (.cells #[.int .i64 k, .int .i64 n, .string (str t), .slice a' g c', .slice ca q cc] 25 (0, 0)) := by
        rw [hw9]
        exact heap_setCell_same _ _ _ _ _ _ (heap_setCell_same _ _ _ _ _ _ (heap_setCell_same _ _ _ _ _ _ (heap_setCell_same _ _ _ _ _ _ (heap_setCell_same _ _ _ _ _ _ r2))))
      have k9 : ∀ y, y ≠ V2 → w9.heap[y]? = wr.heap[y]? := fun y hy => by rw [hw9]; exact far5 _ _ _ _ _ _ _ _ _ _ _ _ _ hy
      have s9 : w9.heap.size = wr.heap.size := by rw [hw9]; exact siz5 _ _ _ _ _ _ _ _ _ _ _ _
      have b9 : Below w.heap.size w w9 := by
        have mm := (Mv.ofB (unhide HbW)).trans (unhide HMq)
        obtain ⟨o1, o2, o3⟩ := oth5 wr V2 0 1 2 3 4 (.int .i64 k) (.int .i64 n) (.string (str t)) (.slice a' g c') (.slice ca q cc)
        rw [← hw9] at o1 o2 o3
        exact ⟨o1.trans mm.os, o2.trans mm.tape, o3.trans mm.output, by rw [s9]; exact mm.size, fun y hy => (k9 y (by have := unhide H12; omega)).trans (mm.block y hy (fun e => by have := Option.some.inj e; have := unhide H12; omega))⟩
      have HE : Hid (OwP w (.mk k n t ns is) (.returned (.agg #[.int .i64 k, .int .i64 n, .string (str t), .slice a' g c', .slice ca q cc])) w9) := by
        have hc := ((unhide HBq).keep (w' := w9) (fun y hy _ => k9 y (fun e => by have := unhide H12; have := unhide HsW; rcases hy with hy | hy <;> omega)) (by rw [s9]; exact Nat.le_refl _)).cp
        rw [(unhide HLs).1, (unhide HLs).2, unhide HLI] at hc
        exact ⟨_, W.heap.size, rfl, (unhide HbW).size, hc, b9⟩
      have HR9 := hide r9
      clear hlt hrow r2 r9 k9 s9 b9 HLs
      go_wp2_with fail
      rw [← hw9]
      obtain ⟨e0, e1, e2, e3, e4⟩ := cells5 (unhide HR9)
      clear hw9
      refine ⟨rfl, _, by simp [results, Tryz.results11, go_sem, e0, e1, e2, e3, e4]; rfl, ?_⟩
      exact unhide HE
#print axioms own_core
theorem own_any : ∀ (N : Nat) (j : Js), SizeOf.sizeOf j < N → OwC j
  | 0, j, h => by omega
  | N + 1, .mk k n t ns is, h => own_core k n t ns is (fun x hx => own_any N x (by
      have h1 := List.sizeOf_lt_of_mem hx
      simp only [Js.mk.sizeOf_spec] at h
      omega))
theorem own4 (j : Js) : OwC j := own_any _ j (Nat.lt_succ_self _)
/-- own, told plainly. -/
theorem own_jv (j : Js) (S : Nat → Prop) (v : Value) (w : World) (hJ : JV w S v j) (hS : ∀ k, S k → k < w.heap.size) (hz : Sz j) :
    Calls Tryz.prog 11 #[v] w fun e w' => ∃ (k n : Int) (t : List UInt8) (a1 : Option Addr) (n1 c1 : Nat) (a2 : Option Addr) (n2 c2 : Nat), e = .returned (.agg #[.int .i64 k, .int .i64 n, .string (str t), .slice a1 n1 c1, .slice a2 n2 c2]) ∧ Hid (JV w' (Al w') (.agg #[.int .i64 k, .int .i64 n, .string (str t), .slice a1 n1 c1, .slice a2 n2 c2]) j) ∧ Hid (Below w.heap.size w w') := by
  refine (own4 j S v w hJ hS hz).mono ?_
  rintro e w' ⟨v', lo, rfl, hlo, hcp, hb⟩
  have hj := hcp.jv (S := Al w') (fun k _ h => h)
  obtain ⟨k, n, t, a1, n1, c1, a2, n2, c2, rfl⟩ := hj.form
  exact ⟨k, n, t, a1, n1, c1, a2, n2, c2, rfl, hj, hb⟩
#print axioms own_jv
end Go.Proofs.YtbnbngmnoffmkaaGreatDoor
end
section
set_option linter.unusedVariables false
set_option maxRecDepth 1000000
namespace Go.Proofs.YtbnbngmnoffmkaaGreatDoor
open Go.RowKit

def st5 (xs : List Value) (q : Nat) (v0 v1 v2 v3 v4 : Value) : List Value := ((((xs.set (q * 5) v0).set (q * 5 + 1) v1).set (q * 5 + 2) v2).set (q * 5 + 3) v3).set (q * 5 + 4) v4
theorem st5_far {xs : List Value} {q m : Nat} {v0 v1 v2 v3 v4 v : Value} (hne : m ≠ q) (h : At5 xs m v) : At5 (st5 xs q v0 v1 v2 v3 v4) m v := by
  obtain ⟨z0, z1, z2, z3, z4, e, h0, h1, h2, h3, h4⟩ := h
  have key : ∀ i, i < 5 → (st5 xs q v0 v1 v2 v3 v4)[m * 5 + i]? = xs[m * 5 + i]? := fun i hi => by
    unfold st5
    rw [List.getElem?_set_ne (by omega), List.getElem?_set_ne (by omega), List.getElem?_set_ne (by omega), List.getElem?_set_ne (by omega), List.getElem?_set_ne (by omega)]
  exact ⟨z0, z1, z2, z3, z4, e, (key 0 (by omega)).trans h0, (key 1 (by omega)).trans h1, (key 2 (by omega)).trans h2, (key 3 (by omega)).trans h3, (key 4 (by omega)).trans h4⟩
theorem st5_at {xs : List Value} {q : Nat} (v0 v1 v2 v3 v4 : Value) (h : q * 5 + 4 < xs.length) : At5 (st5 xs q v0 v1 v2 v3 v4) q (.agg #[v0, v1, v2, v3, v4]) := by
  refine ⟨v0, v1, v2, v3, v4, rfl, ?_, ?_, ?_, ?_, ?_⟩
  · unfold st5
    rw [List.getElem?_set_ne (by omega), List.getElem?_set_ne (by omega), List.getElem?_set_ne (by omega), List.getElem?_set_ne (by omega), List.getElem?_set_self (by omega)]
  · unfold st5
    rw [List.getElem?_set_ne (by omega), List.getElem?_set_ne (by omega), List.getElem?_set_ne (by omega), List.getElem?_set_self (by rw [List.length_set]; omega)]
  · unfold st5
    rw [List.getElem?_set_ne (by omega), List.getElem?_set_ne (by omega), List.getElem?_set_self (by rw [List.length_set, List.length_set]; omega)]
  · unfold st5
    rw [List.getElem?_set_ne (by omega), List.getElem?_set_self (by rw [List.length_set, List.length_set, List.length_set]; omega)]
  · unfold st5
    rw [List.getElem?_set_self (by rw [List.length_set, List.length_set, List.length_set, List.length_set]; omega)]
theorem Bw.put {u w8 w9 : World} {V lo old : Nat} {k n : Int} {t : List UInt8} {ns : List (List UInt8)} {is : List Js} {g1 c1 g2 c2 : Nat} {xs : List Value} (h : Bw u V lo k n t ns is (some ⟨g1, 0, none⟩) c1 (some ⟨g2, 0, none⟩) c2 xs) (q : Nat) (hqn : q < ns.length) (hqi : q < is.length) (s : List UInt8) {v0 v1 v2 v3 v4 : Value} {j : Js} (hj : JV u (fun k => old ≤ k ∧ k < u.heap.size) (.agg #[v0, v1, v2, v3, v4]) j) (hold : lo ≤ old) (hV : V < old) (h1 : g1 < old) (h2 : g2 < old)
    (e8 : w8 = u.setCell ⟨g1, q, none⟩ (.string (str s))) (e9 : w9 = ((((w8.setCell ⟨g2, q * 5, none⟩ v0).setCell ⟨g2, q * 5 + 1, none⟩ v1).setCell ⟨g2, q * 5 + 2, none⟩ v2).setCell ⟨g2, q * 5 + 3, none⟩ v3).setCell ⟨g2, q * 5 + 4, none⟩ v4) :
    Bw w9 V lo k n t (ns.set q s) (is.set q j) (some ⟨g1, 0, none⟩) c1 (some ⟨g2, 0, none⟩) c2 (st5 xs q v0 v1 v2 v3 v4) := by
  have n1 : g1 ≠ V := fun e => h.v1 (by rw [e]; rfl)
  have n2 : g2 ≠ V := fun e => h.v2 (by rw [e]; rfl)
  have n3 : g2 ≠ g1 := fun e => h.v3 g1 rfl (by rw [e]; rfl)
  have hxl : xs.length = is.length * 5 := h.it.1
  have k8 : ∀ k, k ≠ g1 → w8.heap[k]? = u.heap[k]? := fun k hk => by rw [e8]; exact Below.heap_setCell _ ⟨g1, q, none⟩ _ k hk
  have k9 : ∀ k, k ≠ g2 → w9.heap[k]? = w8.heap[k]? := fun k hk => by rw [e9]; exact far5 _ _ _ _ _ _ _ _ _ _ _ _ _ hk
  have z9 : w9.heap.size = u.heap.size := by rw [e9, siz5, e8, siz1]
  have kk : ∀ k, k ≠ g1 → k ≠ g2 → w9.heap[k]? = u.heap[k]? := fun k m1 m2 => (k9 k m2).trans (k8 k m1)
  refine ⟨?_, ?_, ?_, fun m x hx => ?_, h.v1, h.v2, h.v3⟩
  · rw [List.length_set, List.length_set]
    exact (kk V (Ne.symm n1) (Ne.symm n2)).trans h.row
  · have o := owns_set h.nm q (.string (str s)) (by unfold nsv; simpa using hqn)
    rw [← e8] at o
    have o9 := owns_same (w' := w9) o (fun k hk => k9 k (fun e => n3 (by simp [blk] at hk; omega)))
    have en : nsv (ns.set q s) = (nsv ns).set q (.string (str s)) := by unfold nsv; rw [List.map_set]
    show w9.ownsRow _ _ _ _ _ _
    rw [en, List.length_set]
    exact o9
  · have o := owns_same (w' := w8) h.it (fun k hk => k8 k (fun e => n3 (by simp [blk] at hk; omega)))
    rw [List.length_set, e9]
    exact owns_set (owns_set (owns_set (owns_set (owns_set o _ _ (by omega)) _ _ (by rw [List.length_set]; omega)) _ _ (by rw [List.length_set, List.length_set]; omega)) _ _ (by rw [List.length_set, List.length_set, List.length_set]; omega)) _ _ (by rw [List.length_set, List.length_set, List.length_set, List.length_set]; omega)
  · by_cases e : m = q
    · subst e
      rw [List.getElem?_set_self (by simpa using hqi)] at hx
      obtain rfl := Option.some.inj hx
      refine ⟨_, st5_at v0 v1 v2 v3 v4 (by omega), JV.keep (fun b hb => ?_) _ _ hj⟩
      have b1 : b ≠ g1 := by omega
      have b2 : b ≠ g2 := by omega
      refine ⟨⟨by omega, by omega, by omega, ?_, ?_⟩, kk b b1 b2⟩
      · simp [blk]; omega
      · simp [blk]; omega
    · rw [List.getElem?_set_ne (fun k => e k.symm)] at hx
      obtain ⟨v, p1, p2⟩ := h.el m x hx
      refine ⟨v, st5_far e p1, JV.keep (fun b hb => ?_) _ _ p2⟩
      have b1 : b ≠ g1 := fun k => hb.2.2.2.1 (by rw [k]; rfl)
      have b2 : b ≠ g2 := fun k => hb.2.2.2.2 (by rw [k]; rfl)
      exact ⟨⟨hb.1, by have := hb.2.1; omega, hb.2.2.1, hb.2.2.2.1, hb.2.2.2.2⟩, kk b b1 b2⟩
#print axioms Bw.put
end Go.Proofs.YtbnbngmnoffmkaaGreatDoor
end
section
set_option linter.unusedVariables false
set_option maxRecDepth 1000000
namespace Go.Proofs.YtbnbngmnoffmkaaGreatDoor
open Go.RowKit

/-- The cells of a row of values, as they stand. -/
def jcs (w : World) (b off n : Nat) : List Value := (List.range (n * 5)).map fun j => (w.cell? ⟨b, off + j, none⟩).getD (.int .i64 0)
theorem jcs_length (w : World) (b off n : Nat) : (jcs w b off n).length = n * 5 := by simp [jcs]
theorem jcs_get {w : World} {b off n j : Nat} (h : j < n * 5) {u : Value} (hu : w.cell? ⟨b, off + j, none⟩ = some u) : (jcs w b off n)[j]? = some u := by
  unfold jcs
  rw [List.getElem?_map, List.getElem?_range h]
  simp [hu]
theorem jel_parts {w : World} {S : Nat → Prop} {b off m : Nat} {j : Js} (h : JEl w S (some ⟨b, off, none⟩) m j) : ∃ (k n : Int) (t : List UInt8) (a1 : Option Addr) (n1 c1 : Nat) (a2 : Option Addr) (n2 c2 : Nat), w.cell? ⟨b, off + m * 5, none⟩ = some (.int .i64 k) ∧ w.cell? ⟨b, off + m * 5 + 1, none⟩ = some (.int .i64 n) ∧ w.cell? ⟨b, off + m * 5 + 2, none⟩ = some (.string (str t)) ∧ w.cell? ⟨b, off + m * 5 + 3, none⟩ = some (.slice a1 n1 c1) ∧ w.cell? ⟨b, off + m * 5 + 4, none⟩ = some (.slice a2 n2 c2) ∧ JV w S (.agg #[.int .i64 k, .int .i64 n, .string (str t), .slice a1 n1 c1, .slice a2 n2 c2]) j := by
  obtain ⟨b', off', v0, v1, v2, v3, v4, e, _, h0, h1, h2, h3, h4, hj⟩ := h
  obtain ⟨rfl, rfl⟩ : b = b' ∧ off = off' := by simpa using e
  obtain ⟨k, n, t, a1, n1, c1, a2, n2, c2, e⟩ := hj.form
  simp only [Value.agg.injEq, Array.mk.injEq, List.cons.injEq, and_true] at e
  obtain ⟨rfl, rfl, rfl, rfl, rfl⟩ := e
  exact ⟨k, n, t, a1, n1, c1, a2, n2, c2, h0, h1, h2, h3, h4, hj⟩
theorem jcs_ok {w : World} {S : Nat → Prop} {b off : Nat} {is : List Js} (h : JVs w S (some ⟨b, off, none⟩) 0 is) : ∀ j u, (jcs w b off is.length)[j]? = some u → w.cell? ⟨b, off + j, none⟩ = some u ∧ u.oneCell' = true := by
  intro j u hu
  have hj := (List.getElem?_eq_some_iff.1 hu).1
  rw [jcs_length] at hj
  have hm : j / 5 < is.length := by omega
  have he := (jvs_iff w S _ is 0).1 h (j / 5) _ (List.getElem?_eq_getElem hm)
  rw [Nat.zero_add] at he
  obtain ⟨k, n, t, a1, n1, c1, a2, n2, c2, h0, h1, h2, h3, h4, _⟩ := jel_parts he
  obtain ⟨q, hq⟩ : ∃ q, q = j % 5 := ⟨_, rfl⟩
  have hq5 : q < 5 := by omega
  have key : ∀ x, w.cell? ⟨b, off + j, none⟩ = some x → x.oneCell' = true → w.cell? ⟨b, off + j, none⟩ = some u ∧ u.oneCell' = true := fun x hx h1 => by
    have e := (jcs_get (w := w) (b := b) (off := off) (n := is.length) hj hx).symm.trans hu
    obtain rfl := Option.some.inj e
    exact ⟨hx, h1⟩
  match q, hq5, hq with
  | 0, _, hq => exact key _ (by rw [show off + j = off + j / 5 * 5 by omega]; exact h0) rfl
  | 1, _, hq => exact key _ (by rw [show off + j = off + j / 5 * 5 + 1 by omega]; exact h1) rfl
  | 2, _, hq => exact key _ (by rw [show off + j = off + j / 5 * 5 + 2 by omega]; exact h2) rfl
  | 3, _, hq => exact key _ (by rw [show off + j = off + j / 5 * 5 + 3 by omega]; exact h3) rfl
  | 4, _, hq => exact key _ (by rw [show off + j = off + j / 5 * 5 + 4 by omega]; exact h4) rfl
theorem jcs_at {w : World} {S : Nat → Prop} {b off : Nat} {is : List Js} (h : JVs w S (some ⟨b, off, none⟩) 0 is) : ∀ m x, is[m]? = some x → ∃ v, At5 (jcs w b off is.length) m v ∧ JV w S v x := by
  intro m x hx
  have hm := (List.getElem?_eq_some_iff.1 hx).1
  have he := (jvs_iff w S _ is 0).1 h m x hx
  rw [Nat.zero_add] at he
  obtain ⟨k, n, t, a1, n1, c1, a2, n2, c2, h0, h1, h2, h3, h4, hj⟩ := jel_parts he
  exact ⟨_, ⟨_, _, _, _, _, rfl, jcs_get (by omega) h0, jcs_get (by omega) h1, jcs_get (by omega) h2, jcs_get (by omega) h3, jcs_get (by omega) h4⟩, hj⟩
/-- What a clone of items reads. -/
theorem jsrc {w : World} {S : Nat → Prop} {ad : Addr} {is : List Js} (h : JVs w S (some ad) 0 is) : ∃ zs : List Value, zs.length = is.length * 5 ∧ (∀ j u, zs[j]? = some u → w.cell? (ad.add j) = some u ∧ u.oneCell' = true) ∧ ∀ m x, is[m]? = some x → ∃ v, At5 zs m v ∧ JV w S v x := by
  cases is with
  | nil => exact ⟨[], rfl, fun j u h => by simp at h, fun m x h => by simp at h⟩
  | cons x r =>
    have h2 := h
    simp only [JVs] at h2
    obtain ⟨⟨b, off, _, _, _, _, _, e, _⟩, _⟩ := h2
    obtain rfl : ad = ⟨b, off, none⟩ := by simpa using e
    refine ⟨jcs w b off (x :: r).length, jcs_length _ _ _ _, fun j u hu => ?_, jcs_at h⟩
    rw [addr_add]
    exact jcs_ok h j u hu
/-- What a clone of items hands back. -/
def JclP (w : World) (S : Nat → Prop) (is : List Js) (e : Ending) (w' : World) : Prop := ∃ a' c' xs, e = .returned (.slice a' is.length c') ∧ Hid (OwnJ w' w.heap.size a' c' is.length xs) ∧ Hid (∀ m x, is[m]? = some x → ∃ v, At5 xs m v ∧ JV w' S v x) ∧ Hid (Below w.heap.size w w')
set_option maxHeartbeats 4000000 in
/-- slices.Clone of items. -/
theorem jclone_any (a : Option Addr) (cp : Nat) (is : List Js) (S : Nat → Prop) (w : World) (hr : JVs w S a 0 is) (ha : a = none → cp = 0) (hlc : is.length ≤ cp) (hl : is.length ≤ 1000000) (hS : ∀ k, S k → k < w.heap.size) :
    Calls Tryz.prog 62 #[.slice a is.length cp] w fun e w' => JclP w S is e w' := by
  have hq := fun (wx : World) (a : Option Addr) (n c : Nat) => Lib.run_eql_slice_nil (P := Tryz.prog) wx 23 25 a n c 0 0 Tryz.underlying23
  cases a with
  | none =>
    have hc0 := ha rfl
    have hl0 : is = [] := List.eq_nil_of_length_eq_zero (by omega)
    subst hl0
    subst hc0
    have HO : Hid (OwnJ w w.heap.size none 0 0 []) := ⟨rfl, .inl ⟨rfl, rfl⟩⟩
    have HE : Hid (∀ (m : Nat) (x : Js), ([] : List Js)[m]? = some x → ∃ v, At5 [] m v ∧ JV w S v x) := fun m x h => by simp at h
    clear hr hS
    go_enter Tryz.func62, Tryz.ntmps62
    go_wp2
    go_ret
    exact ⟨none, 0, [], rfl, HO, HE, Below.refl _ _⟩
  | some ad =>
    obtain ⟨zs, hzl, hzc, hze⟩ := jsrc hr
    have HSR : Hid (∀ o j u, zs[j]? = some u → (w.alloc o).cell? (ad.add j) = some u) := fun o j u hu => Lib.cell?_alloc_some o (hzc j u hu).1
    have HZ1 : Hid (∀ u ∈ zs, u.oneCell' = true) := fun u hu => by
      obtain ⟨j, hj⟩ := List.mem_iff_getElem?.1 hu
      exact (hzc j u hj).2
    have HZE := hide hze
    have HS := hide hS
    obtain ⟨i, hi, hz0, hz1, hz2⟩ := info_parts Tryz.infoJ
    have HEM : Hid ((w.alloc (.cells #[] 25)).ownsRow w.heap.size 25 5 (.slice (some ⟨w.heap.size, 0, none⟩) 0 0) 0 []) := World.ownsRow_made w #[] 0 (Nat.le_refl _) (by unfold maxLen; omega) rfl
    clear hr ha hzc hze hS
    go_enter Tryz.func62, Tryz.ntmps62
    go_wp2_with (at_builtin; refine wpList_append_own _ rfl _ _ 23 rfl w.heap.size 25 i _ 5 80 Tryz.underlying23 hi hz0 hz1 hz2 rfl (by decide) _ _ _ rfl (unhide HEM) ad is.length cp zs rfl hzl (unhide HSR _) (unhide HZ1) ?k1 ?k2 ?k3 ?_)
    case k1 => unfold maxLen; omega
    case k2 => omega
    case k3 => simp
    intro v2 w2 ho2 hg2 _
    have HB : Hid (Below w.heap.size w w2) := below_grown (a := some ⟨w.heap.size, 0, none⟩) ((Below.refl _ _).alloc (Nat.le_refl _) _) hg2 (Nat.le_refl _) (fun k hk => by simp [blk] at hk; omega)
    obtain ⟨a', c', rfl⟩ : ∃ a' c', v2 = .slice a' is.length c' := by
      rcases ho2.2 with ⟨hv, hn⟩ | ⟨g, cap, cur, hv, _⟩
      · have : is.length = 0 := by omega
        exact ⟨none, 0, by rw [hv, this]⟩
      · exact ⟨some ⟨g, 0, none⟩, cap, by rw [hv]⟩
    have HO : Hid (OwnJ w2 w.heap.size a' c' is.length zs) := by show OwnJ _ _ _ _ _ _; simpa [OwnJ] using ho2
    have HE : Hid (∀ m x, is[m]? = some x → ∃ v, At5 zs m v ∧ JV w2 S v x) := fun m x hx => by
      obtain ⟨v, h1, h2⟩ := unhide HZE m x hx
      exact ⟨v, h1, JV.keep (fun k hk => ⟨hk, (unhide HB).block k (unhide HS k hk)⟩) _ _ h2⟩
    clear ho2 hg2
    go_wp2
    go_ret
    exact ⟨a', c', zs, rfl, HO, HE, HB⟩
#print axioms jclone_any
/-! ### A value in the midst of being copied -/
structure Bd (w : World) (V lo q : Nat) (S : Nat → Prop) (k n : Int) (t : List UInt8) (ns : List (List UInt8)) (is : List Js) (a1 : Option Addr) (c1 : Nat) (a2 : Option Addr) (c2 : Nat) (xs : List Value) : Prop where
  row : w.heap[V]? = some (.cells #[.int .i64 k, .int .i64 n, .string (str t), .slice a1 ns.length c1, .slice a2 is.length c2] 25 (0, 0))
  nm : OwnT w lo a1 c1 ns
  it : OwnJ w lo a2 c2 is.length xs
  elN : ∀ m j, m < q → is[m]? = some j → ∃ v, At5 xs m v ∧ JV w (Fp lo w.heap.size V a1 a2) v j
  elO : ∀ m j, q ≤ m → is[m]? = some j → ∃ v, At5 xs m v ∧ JV w S v j
  v1 : blk a1 ≠ some V
  v2 : blk a2 ≠ some V
  v3 : ∀ k, blk a1 = some k → blk a2 ≠ some k
theorem Bd.lt {w : World} {V lo q : Nat} {S : Nat → Prop} {k n : Int} {t : List UInt8} {ns : List (List UInt8)} {is : List Js} {a1 : Option Addr} {c1 : Nat} {a2 : Option Addr} {c2 : Nat} {xs : List Value} (h : Bd w V lo q S k n t ns is a1 c1 a2 c2 xs) : V < w.heap.size := (Array.getElem?_eq_some_iff.1 h.row).1
theorem Bd.below {w w' : World} {V lo q : Nat} {S : Nat → Prop} {k n : Int} {t : List UInt8} {ns : List (List UInt8)} {is : List Js} {a1 : Option Addr} {c1 : Nat} {a2 : Option Addr} {c2 : Nat} {xs : List Value} (h : Bd w V lo q S k n t ns is a1 c1 a2 c2 xs) (hS : ∀ k, S k → k < w.heap.size) (m : Below w.heap.size w w') : Bd w' V lo q S k n t ns is a1 c1 a2 c2 xs :=
  { h with
    row := (m.block V h.lt).trans h.row
    nm := owns_same h.nm (fun k hk => m.block k (owns_lt h.nm k hk).2)
    it := owns_same h.it (fun k hk => m.block k (owns_lt h.it k hk).2)
    elN := fun i j hi hj => by
      obtain ⟨v, h1, h2⟩ := h.elN i j hi hj
      exact ⟨v, h1, JV.keep (fun k hk => ⟨⟨hk.1, by have := hk.2.1; have := m.size; omega, hk.2.2⟩, m.block k hk.2.1⟩) j v h2⟩
    elO := fun i j hi hj => by
      obtain ⟨v, h1, h2⟩ := h.elO i j hi hj
      exact ⟨v, h1, JV.keep (fun k hk => ⟨hk, m.block k (hS k hk)⟩) j v h2⟩ }
/-- One item more is copied. -/
theorem Bd.put {u w9 : World} {V lo q old : Nat} {S : Nat → Prop} {k n : Int} {t : List UInt8} {ns : List (List UInt8)} {is : List Js} {a1 : Option Addr} {c1 g2 c2 : Nat} {xs : List Value} (h : Bd u V lo q S k n t ns is a1 c1 (some ⟨g2, 0, none⟩) c2 xs) (hqi : q < is.length) {v0 v1 v2 v3 v4 : Value} {j : Js} (hjq : is[q]? = some j) (hj : JV u (fun k => old ≤ k ∧ k < u.heap.size) (.agg #[v0, v1, v2, v3, v4]) j) (hold : lo ≤ old) (hV : V < old) (h1 : ∀ k, blk a1 = some k → k < old) (h2 : g2 < old) (hSg : ∀ k, S k → k ≠ g2)
    (e9 : w9 = ((((u.setCell ⟨g2, q * 5, none⟩ v0).setCell ⟨g2, q * 5 + 1, none⟩ v1).setCell ⟨g2, q * 5 + 2, none⟩ v2).setCell ⟨g2, q * 5 + 3, none⟩ v3).setCell ⟨g2, q * 5 + 4, none⟩ v4) :
    Bd w9 V lo (q + 1) S k n t ns is a1 c1 (some ⟨g2, 0, none⟩) c2 (st5 xs q v0 v1 v2 v3 v4) := by
  have n2 : g2 ≠ V := fun e => h.v2 (by rw [e]; rfl)
  have n3 : ∀ k, blk a1 = some k → k ≠ g2 := fun k hk e => h.v3 k hk (by rw [e]; rfl)
  have hxl : xs.length = is.length * 5 := h.it.1
  have k9 : ∀ k, k ≠ g2 → w9.heap[k]? = u.heap[k]? := fun k hk => by rw [e9]; exact far5 _ _ _ _ _ _ _ _ _ _ _ _ _ hk
  have z9 : w9.heap.size = u.heap.size := by rw [e9, siz5]
  refine ⟨(k9 V (Ne.symm n2)).trans h.row, owns_same h.nm (fun k hk => k9 k (n3 k hk)), ?_, fun m x hm hx => ?_, fun m x hm hx => ?_, h.v1, h.v2, h.v3⟩
  · rw [e9]
    exact owns_set (owns_set (owns_set (owns_set (owns_set h.it _ _ (by omega)) _ _ (by rw [List.length_set]; omega)) _ _ (by rw [List.length_set, List.length_set]; omega)) _ _ (by rw [List.length_set, List.length_set, List.length_set]; omega)) _ _ (by rw [List.length_set, List.length_set, List.length_set, List.length_set]; omega)
  · by_cases e : m = q
    · subst e
      obtain rfl := Option.some.inj (hjq.symm.trans hx)
      refine ⟨_, st5_at v0 v1 v2 v3 v4 (by omega), JV.keep (fun b hb => ?_) _ _ hj⟩
      have b2 : b ≠ g2 := by omega
      refine ⟨⟨by omega, by omega, by omega, fun e => ?_, ?_⟩, k9 b b2⟩
      · have := h1 b e; omega
      · simp [blk]; omega
    · obtain ⟨v, p1, p2⟩ := h.elN m x (by omega) hx
      refine ⟨v, st5_far e p1, JV.keep (fun b hb => ?_) _ _ p2⟩
      have b2 : b ≠ g2 := fun k => hb.2.2.2.2 (by rw [k]; rfl)
      exact ⟨⟨hb.1, by have := hb.2.1; omega, hb.2.2.1, hb.2.2.2.1, hb.2.2.2.2⟩, k9 b b2⟩
  · obtain ⟨v, p1, p2⟩ := h.elO m x (by omega) hx
    exact ⟨v, st5_far (by omega) p1, JV.keep (fun b hb => ⟨hb, k9 b (hSg b hb)⟩) _ _ p2⟩
theorem Bd.cp {w : World} {V lo : Nat} {S : Nat → Prop} {k n : Int} {t : List UInt8} {ns : List (List UInt8)} {is : List Js} {a1 : Option Addr} {c1 : Nat} {a2 : Option Addr} {c2 : Nat} {xs : List Value} (h : Bd w V lo is.length S k n t ns is a1 c1 a2 c2 xs) : CpJ lo w (.agg #[.int .i64 k, .int .i64 n, .string (str t), .slice a1 ns.length c1, .slice a2 is.length c2]) (.mk k n t ns is) :=
  ⟨a1, c1, a2, c2, xs, rfl, h.nm, h.it, fun m j hj => by
    obtain ⟨v, h1, h2⟩ := h.elN m j (List.getElem?_eq_some_iff.1 hj).1 hj
    exact ⟨v, h1, JV.keep (fun k hk => ⟨⟨hk.1, hk.2.1, hk.2.2.2.1, hk.2.2.2.2⟩, rfl⟩) _ _ h2⟩, h.v3⟩
#print axioms Bd.put
#print axioms Bd.cp
end Go.Proofs.YtbnbngmnoffmkaaGreatDoor
end
section
set_option linter.unusedVariables false
set_option maxRecDepth 1000000
namespace Go.Proofs.YtbnbngmnoffmkaaGreatDoor
open Go.RowKit

def DcC (j : Js) : Prop := ∀ (S : Nat → Prop) (v : Value) (w : World), JV w S v j → (∀ k, S k → k < w.heap.size) → Sz j → Calls Tryz.prog 31 #[v] w fun e w' => OwP w j e w'
set_option maxHeartbeats 16000000 in
theorem deep_core (k n : Int) (t : List UInt8) (ns : List (List UInt8)) (is : List Js) (hrec : ∀ x ∈ is, DcC x) : DcC (.mk k n t ns is) := by
  intro S v w hJ hS hz
  simp only [JV] at hJ
  obtain ⟨a1, c1, a2, c2, rfl, hN, hnc, hnm, hnn, hic, him, hin, hIt⟩ := hJ
  simp only [Sz] at hz
  obtain ⟨hz1, hz2, hz3, hz4, hz5, hz6⟩ := hz
  obtain ⟨m, hm⟩ : ∃ m, m = is.length := ⟨_, rfl⟩
  obtain ⟨g, hg⟩ : ∃ g, g = ns.length := ⟨_, rfl⟩
  have HM := hide hm
  have HG := hide hg
  obtain ⟨V1, hV1⟩ : ∃ V1, V1 = w.heap.size := ⟨_, rfl⟩
  obtain ⟨V2, hV2⟩ : ∃ V2, V2 = w.heap.size + 1 := ⟨_, rfl⟩
  obtain ⟨W, hW⟩ : ∃ W, W = (w.alloc (.cells #[.int .i64 k, .int .i64 n, .string (str t), .slice a1 ns.length c1, .slice a2 is.length c2] 25)).alloc (.cells #[.int .i64 0, .int .i64 0, .string ⟨#[]⟩, .slice none 0 0, .slice none 0 0] 25) := ⟨_, rfl⟩
  have bW : Below w.heap.size w W := by rw [hW]; exact below2 w _ _
  have sW : W.heap.size = w.heap.size + 2 := by rw [hW]; simp
  have rV1 : W.heap[V1]? = some (.cells #[.int .i64 k, .int .i64 n, .string (str t), .slice a1 g c1, .slice a2 m c2] 25 (0, 0)) := by
    rw [hW, hV1, hm, hg, heap_alloc_old _ _ (by simp)]
    exact heap_alloc_new _ _
  have rV2 : W.heap[V2]? = some (.cells #[.int .i64 0, .int .i64 0, .string ⟨#[]⟩, .slice none 0 0, .slice none 0 0] 25 (0, 0)) := by
    rw [hW, hV2]
    exact heap_alloc2_new _ _ _
  have h12 : V1 < V2 ∧ w.heap.size ≤ V1 := by omega
  have hsz3 : W.heap.size = V2 + 1 := by omega
  have hSV : ∀ y, S y → y < V1 := fun y hy => by have := hS y hy; omega
  have HCL := hide (nclone_any a1 c1 ns S W (hN.keep (fun q hq => ⟨hq, bW.block q (hS q hq)⟩)) hnn hnc (by omega))
  rw [← hg] at HCL
  have HI := hide hIt
  have HS := hide hS
  have HSV := hide hSV
  have HREC := hide hrec
  have HZ6 := hide hz6
  have HbW := hide bW
  have HsW := hide hsz3
  have H12 := hide h12
  have HRV1 := hide rV1
  have HRV2 := hide rV2
  have HIN := hide hin
  have HIC : Hid (m ≤ c2) := by show _ ≤ _; omega
  have hmB : m ≤ 100000 := by omega
  have hgB : g ≤ 100000 := by omega
  obtain ⟨p0, p1, p2, p3, p4⟩ := cells5 rV1
  rw [← hg, ← hm] at hW
  rw [← hg, ← hm]
  clear hN hIt hS hSV hrec hz1 hz2 hz3 hz4 hz5 hz6 bW sW rV1 rV2 h12 hsz3 hm hg hnc hnm hnn hic him hin
  go_enter Tryz.func31, Tryz.ntmps31
  go_upto_region 1 with fail
  rw [← hW, ← hV2, ← hV1]
  clear hW hV1 hV2
  go_wp2_with fail
  refine (unhide HCL).mono ?_
  rintro e w2 ⟨a', c', rfl, HO2, HB2⟩
  have HR2 := hide (((unhide HB2).block V1 (by rw [unhide HsW]; have := unhide H12; omega)).trans (unhide HRV1))
  have f3 := frozen_of_row w2 V1 3 _ _ (unhide HR2)
  have d3 := cell_of_row w2 V1 3 _ _ _ (unhide HR2)
  simp only [List.getElem?_toArray, List.getElem?_cons_succ, List.getElem?_cons_zero] at d3
  obtain ⟨w3, hw3⟩ : ∃ w3, w3 = w2.setCell ⟨V1, 3, none⟩ (.slice a' g c') := ⟨_, rfl⟩
  have hk3 : ∀ x, x ≠ V1 → w3.heap[x]? = w2.heap[x]? := fun x hx => by rw [hw3, Below.heap_setCell _ ⟨V1, 3, none⟩ _ x hx]
  have hs3 : w3.heap.size = w2.heap.size := by rw [hw3]; simp
  have hr3 : w3.heap[V1]? = some (.cells #[.int .i64 k, .int .i64 n, .string (str t), .slice a' g c', .slice a2 m c2] 25 (0, 0)) := by rw [hw3]; exact heap_setCell_same _ _ _ _ _ _ (unhide HR2)
  have HM3 : Hid (Mv W w3 V1) := by
    show Mv _ _ _
    rw [hw3]
    exact (Mv.ofB (unhide HB2)).trans (Mv.set w2 V1 3 _)
  have hne : ∀ x, blk a' = some x → x ≠ V1 := fun x hx e => by have := (owns_lt (unhide HO2) x hx).1; rw [unhide HsW] at this; have := unhide H12; omega
  have HNE := hide hne
  have HO3 : Hid (OwnT w3 W.heap.size a' c' ns) := owns_same (unhide HO2) (fun x hx => hk3 x (hne x hx))
  have HR3 := hide hr3
  have hk : ∀ y, S y → w3.heap[y]? = w.heap[y]? := fun y hy => ((unhide HM3).block y (Nat.lt_of_lt_of_le (unhide HS y hy) (unhide HbW).size) (fun e => by have := Option.some.inj e; have := unhide HSV y hy; omega)).trans ((unhide HbW).block y (unhide HS y hy))
  have HCI := hide (jclone_any a2 c2 is S w3 (JVs.keep (fun y hy => ⟨hy, hk y hy⟩) _ _ _ (unhide HI)) (unhide HIN) (by have := unhide HIC; have := unhide HM; omega) (by have := unhide HM; omega) (fun y hy => by have := unhide HSV y hy; have := (Array.getElem?_eq_some_iff.1 hr3).1; omega))
  rw [← unhide HM] at HCI
  clear HCL p0 p1 p2 p3 p4 HO2 HB2 HR2 hk3 hs3 hne hk hr3
  go_upto_region 2 with fail
  rw [← hw3]
  clear hw3 f3 d3
  obtain ⟨p0, p1, p2, p3, p4⟩ := cells5 (unhide HR3)
  go_wp2_with fail
  refine (unhide HCI).mono ?_
  rintro e w4 ⟨b', d', xs0, rfl, HO4, HE4, HB4⟩
  rw [← unhide HM] at HO4 ⊢
  have HR4 := hide (((unhide HB4).block V1 (Array.getElem?_eq_some_iff.1 (unhide HR3)).1).trans (unhide HR3))
  have f4 := frozen_of_row w4 V1 4 _ _ (unhide HR4)
  have d4 := cell_of_row w4 V1 4 _ _ _ (unhide HR4)
  simp only [List.getElem?_toArray, List.getElem?_cons_succ, List.getElem?_cons_zero] at d4
  obtain ⟨w5, hw5⟩ : ∃ w5, w5 = w4.setCell ⟨V1, 4, none⟩ (.slice b' m d') := ⟨_, rfl⟩
  have hk5 : ∀ x, x ≠ V1 → w5.heap[x]? = w4.heap[x]? := fun x hx => by rw [hw5, Below.heap_setCell _ ⟨V1, 4, none⟩ _ x hx]
  have hs5 : w5.heap.size = w4.heap.size := by rw [hw5]; simp
  have h43 := (unhide HB4)
  have HM5 : Hid (Mv W w5 V1) := by
    show Mv _ _ _
    rw [hw5]
    exact ((unhide HM3).trans (Mv.ofB h43)).trans (Mv.set w4 V1 4 _)
  have hwsz : W.heap.size ≤ w3.heap.size := (unhide HM3).size
  have HB5 : Hid (Bd w5 V1 W.heap.size 0 S k n t ns is a' c' b' d' xs0) := by
    have ne2 : ∀ x, blk b' = some x → x ≠ V1 := fun x hx e => by have := (owns_lt (unhide HO4) x hx).1; have := (Array.getElem?_eq_some_iff.1 (unhide HR3)).1; omega
    refine ⟨?_, ?_, ?_, fun i j hi => absurd hi (Nat.not_lt_zero i), fun i j _ hj => ?_, fun e => unhide HNE V1 e rfl, fun e => ne2 V1 e rfl, fun x hx e => ?_⟩
    · rw [hw5, ← unhide HG, ← unhide HM]; exact heap_setCell_same _ _ _ _ _ _ (unhide HR4)
    · exact owns_same (owns_same (unhide HO3) (fun x hx => h43.block x (owns_lt (unhide HO3) x hx).2)) (fun x hx => hk5 x (unhide HNE x hx))
    · have := owns_same (w' := w5) (unhide HO4) (fun x hx => hk5 x (ne2 x hx))
      rw [← unhide HM]
      exact owns_low this hwsz
    · obtain ⟨v, h1, h2⟩ := unhide HE4 i j hj
      exact ⟨v, h1, JV.keep (fun y hy => ⟨hy, hk5 y (by have := unhide HSV y hy; omega)⟩) _ _ h2⟩
    · have h1 := (owns_lt (unhide HO3) x hx).2
      have h2 := (owns_lt (unhide HO4) x e).1
      omega
  have HR5 := hide (unhide HB5).row
  rw [← unhide HG, ← unhide HM] at HR5
  clear HCI p0 p1 p2 p3 p4 HO3 HO4 HE4 HB4 HR4 hk5 hs5 h43 hwsz HR3 HM3 HNE HI
  go_upto_region 3 with fail
  rw [← hw5]
  clear hw5 f4 d4
  obtain ⟨p0, p1, p2, p3, p4⟩ := cells5 (unhide HR5)
  go_wp2_with fail
  clear p0 p1 p2 p3 p4 HR5
  go_loopw [15] (fun v wr => ∃ (q : Nat) (xs : List Value), q ≤ m ∧ v = .int .i64 (q : Int) ∧ Hid (Bd wr V1 W.heap.size q S k n t ns is a' c' b' d' xs) ∧ Hid (Mv W wr V1)) (fun v _ => m - (intOf v).toNat)
  case atStart => exact ⟨0, xs0, Nat.zero_le _, rfl, HB5, HM5⟩
  case round =>
    clear HB5 HM5
    obtain ⟨q, xs, hq, rfl, HBq, HMq⟩ := hrel
    by_cases hlt : q < m
    · have hlt' : (q : Int) < (m : Int) := by omega
      obtain ⟨x, hx⟩ : ∃ x, is[q]? = some x := ⟨_, List.getElem?_eq_getElem (by rw [← unhide HM]; exact hlt)⟩
      have HX := hide hx
      have hmem := List.mem_of_getElem? hx
      obtain ⟨vv, ⟨v0, v1, v2, v3, v4, rfl, g0, g1, g2, g3, g4⟩, hj⟩ := (unhide HBq).elO q x (Nat.le_refl _) hx
      obtain ⟨jk, jn, jt, ja1, jn1, jc1, ja2, jn2, jc2, e⟩ := hj.form
      simp only [Value.agg.injEq, Array.mk.injEq, List.cons.injEq, and_true] at e
      obtain ⟨rfl, rfl, rfl, rfl, rfl⟩ := e
      obtain ⟨G2, rfl⟩ : ∃ G2, b' = some ⟨G2, 0, none⟩ := by
        rcases owns_cases (unhide HBq).it with ⟨_, _, h3, _⟩ | ⟨gg, _, h, _⟩
        · have := unhide HM; omega
        · exact ⟨gg, h⟩
      have hsl : ∀ y, S y → y < wr.heap.size := fun y hy => by have := unhide HSV y hy; have := (unhide HBq).lt; omega
      have HC : ∀ u, Hid (Below wr.heap.size wr u → Calls Tryz.prog 31 #[.agg #[.int .i64 jk, .int .i64 jn, .string (str jt), .slice ja1 jn1 jc1, .slice ja2 jn2 jc2]] u fun e w' => OwP u x e w') := fun u hb => unhide HREC x hmem S _ u (JV.keep (fun y hy => ⟨hy, hb.block y (hsl y hy)⟩) _ _ hj) (fun y hy => Nat.lt_of_lt_of_le (hsl y hy) hb.size) ((szs_iff is).1 (unhide HZ6) x hmem)
      have HSL := hide hsl
      have hrow := (unhide HBq).row
      rw [← unhide HG, ← unhide HM] at hrow
      obtain ⟨_, _, _, _, p4⟩ := cells5 hrow
      obtain ⟨i0, _⟩ := owns_cell (unhide HBq).it _ _ g0
      obtain ⟨i1, _⟩ := owns_cell (unhide HBq).it _ _ g1
      obtain ⟨i2, _⟩ := owns_cell (unhide HBq).it _ _ g2
      obtain ⟨i3, _⟩ := owns_cell (unhide HBq).it _ _ g3
      obtain ⟨i4, _⟩ := owns_cell (unhide HBq).it _ _ g4
      have HAT : Hid (xs[q * 5]? = some (.int .i64 jk) ∧ xs[q * 5 + 1]? = some (.int .i64 jn) ∧ xs[q * 5 + 2]? = some (.string (str jt)) ∧ xs[q * 5 + 3]? = some (.slice ja1 jn1 jc1) ∧ xs[q * 5 + 4]? = some (.slice ja2 jn2 jc2)) := ⟨g0, g1, g2, g3, g4⟩
      have HLQ := hide (unhide HBq).lt
      have HLO : Hid (W.heap.size ≤ wr.heap.size) := (unhide HMq).size
      clear hx hmem hj hsl hrow g0 g1 g2 g3 g4
      go_upto_region 6 with fail
      go_region_law (first
        | (go_simp
           go_at_call 31
           refine (unhide (HC _) ((Below.refl _ _).drew)).mono ?_
           rintro e w7 ⟨v', lo', rfl, hlo', hcp, hb7⟩
           have hj7 : JV w7 (fun y => wr.heap.size ≤ y ∧ y < w7.heap.size) v' x := hcp.jv (fun y h1 h2 => ⟨Nat.le_trans hlo' h1, h2⟩)
           obtain ⟨rk, rn, rt, ra1, rn1, rc1, ra2, rn2, rc2, rfl⟩ := hj7.form
           have HJ7 := hide hj7
           have hb8 : Below wr.heap.size wr w7 := (Below.refl _ _).drew.trans hb7
           have HB7 := hide ((unhide HBq).below (unhide HSL) hb8)
           have HM7 : Hid (Mv W w7 V1) := (unhide HMq).trans (Mv.ofB hb8)
           have HZ7 : Hid (wr.heap.size ≤ w7.heap.size) := hb8.size
           have hrow7 := (unhide HB7).row
           rw [← unhide HG, ← unhide HM] at hrow7
           obtain ⟨_, _, _, _, r4⟩ := cells5 hrow7
           obtain ⟨e0, f0⟩ := owns_cell (unhide HB7).it _ _ (unhide HAT).1
           obtain ⟨e1, f1⟩ := owns_cell (unhide HB7).it _ _ (unhide HAT).2.1
           obtain ⟨e2, f2⟩ := owns_cell (unhide HB7).it _ _ (unhide HAT).2.2.1
           obtain ⟨e3, f3⟩ := owns_cell (unhide HB7).it _ _ (unhide HAT).2.2.2.1
           obtain ⟨e4, f4⟩ := owns_cell (unhide HB7).it _ _ (unhide HAT).2.2.2.2
           clear hcp hb7 hlo' hj7 hb8 hrow7))
      all_goals
        obtain ⟨w9, hw9⟩ : ∃ w9, w9 = ((((w7.setCell ⟨G2, q * 5, none⟩ (.int .i64 rk)).setCell ⟨G2, q * 5 + 1, none⟩ (.int .i64 rn)).setCell ⟨G2, q * 5 + 2, none⟩ (.string (str rt))).setCell ⟨G2, q * 5 + 3, none⟩ (.slice ra1 rn1 rc1)).setCell ⟨G2, q * 5 + 4, none⟩ (.slice ra2 rn2 rc2) := ⟨_, rfl⟩
        have hg2 := owns_lt (unhide HBq).it G2 rfl
        have HB9 := hide ((unhide HB7).put (by rw [← unhide HM]; exact hlt) (unhide HX) (unhide HJ7) (unhide HLO) (unhide HLQ) (fun k hk => (owns_lt (unhide HBq).nm k hk).2) hg2.2 (fun y hy e => by have := unhide HSV y hy; have := hg2.1; have := unhide HsW; have := unhide H12; omega) hw9)
        have HM9 : Hid (Mv W w9 V1) := by
          show Mv _ _ _
          have m7 := unhide HM7
          obtain ⟨o1, o2, o3⟩ := oth5 w7 G2 (q * 5) (q * 5 + 1) (q * 5 + 2) (q * 5 + 3) (q * 5 + 4) (.int .i64 rk) (.int .i64 rn) (.string (str rt)) (.slice ra1 rn1 rc1) (.slice ra2 rn2 rc2)
          have z9 : w9.heap.size = w7.heap.size := by rw [hw9, siz5]
          rw [← hw9] at o1 o2 o3
          exact ⟨o1.trans m7.os, o2.trans m7.tape, o3.trans m7.output, by rw [z9]; exact m7.size, fun y hy hne => (by rw [hw9]; exact far5 _ _ _ _ _ _ _ _ _ _ _ _ _ (fun e => by have := hg2.1; omega) : w9.heap[y]? = w7.heap[y]?).trans (m7.block y hy hne)⟩
        rw [← hw9]
        clear hw9 hg2 r4 e0 f0 e1 f1 e2 f2 e3 f3 e4 f4 p4 i0 i1 i2 i3 i4
        go_wp2_with fail
        go_roundw
        case rel => exact ⟨q + 1, _, by omega, by go_num, HB9, HM9⟩
        case measure => simp [intOf]; omega
    · have hqm : q = m := by omega
      subst hqm
      have hlt' : ¬ (q : Int) < (q : Int) := by omega
      have hrow := (unhide HBq).row
      rw [← unhide HG, ← unhide HM] at hrow
      obtain ⟨p0, p1, p2, p3, p4⟩ := cells5 hrow
      have r2 := ((unhide HMq).block V2 (by have := unhide H12; have := unhide HsW; omega) (fun e => by have := Option.some.inj e; have := unhide H12; omega)).trans (unhide HRV2)
      obtain ⟨q0, q1, q2, q3, q4⟩ := cells5 r2
      have f0 := frozen_of_row wr V2 0 _ _ r2
      have f1 := frozen_of_row wr V2 1 _ _ r2
      have f2 := frozen_of_row wr V2 2 _ _ r2
      have f3 := frozen_of_row wr V2 3 _ _ r2
      have f4 := frozen_of_row wr V2 4 _ _ r2
      obtain ⟨w9, hw9⟩ : ∃ w9, w9 = ((((wr.setCell ⟨V2, 0, none⟩ (.int .i64 k)).setCell ⟨V2, 1, none⟩ (.int .i64 n)).setCell ⟨V2, 2, none⟩ (.string (str t))).setCell ⟨V2, 3, none⟩ (.slice a' g c')).setCell ⟨V2, 4, none⟩ (.slice b' q d') := ⟨_, rfl⟩
      have r9 : w9.heap[V2]? = some (.cells #[.int .i64 k, .int .i64 n, .string (str t), .slice a' g c', .slice b' q d'] 25 (0, 0)) := by
        rw [hw9]
        exact heap_setCell_same _ _ _ _ _ _ (heap_setCell_same _ _ _ _ _ _ (heap_setCell_same _ _ _ _ _ _ (heap_setCell_same _ _ _ _ _ _ (heap_setCell_same _ _ _ _ _ _ r2))))
      have k9 : ∀ y, y ≠ V2 → w9.heap[y]? = wr.heap[y]? := fun y hy => by rw [hw9]; exact far5 _ _ _ _ _ _ _ _ _ _ _ _ _ hy
      have s9 : w9.heap.size = wr.heap.size := by rw [hw9]; exact siz5 _ _ _ _ _ _ _ _ _ _ _ _
      have b9 : Below w.heap.size w w9 := by
        have mm := (Mv.ofB (unhide HbW)).trans (unhide HMq)
        obtain ⟨o1, o2, o3⟩ := oth5 wr V2 0 1 2 3 4 (.int .i64 k) (.int .i64 n) (.string (str t)) (.slice a' g c') (.slice b' q d')
        rw [← hw9] at o1 o2 o3
        exact ⟨o1.trans mm.os, o2.trans mm.tape, o3.trans mm.output, by rw [s9]; exact mm.size, fun y hy => (k9 y (by have := unhide H12; omega)).trans (mm.block y hy (fun e => by have := Option.some.inj e; have := unhide H12; omega))⟩
      have HE : Hid (OwP w (.mk k n t ns is) (.returned (.agg #[.int .i64 k, .int .i64 n, .string (str t), .slice a' g c', .slice b' q d'])) w9) := by
        have hb := unhide HBq
        rw [unhide HM] at hb
        have hc := hb.cp
        have e1 := unhide HsW
        have hne : ∀ y, W.heap.size ≤ y → y ≠ V2 := fun y hy e => by omega
        obtain ⟨z1, z2, z3, z4, zs, ez, zT, zJ, zE, zD⟩ := hc
        simp only [Value.agg.injEq, Array.mk.injEq, List.cons.injEq, and_true, Value.slice.injEq, true_and] at ez
        obtain ⟨⟨rfl, rfl⟩, rfl, rfl⟩ := ez
        refine ⟨_, W.heap.size, rfl, (unhide HbW).size, ⟨a', c', b', d', zs, by rw [unhide HG, unhide HM], owns_same zT (fun y hy => k9 y (hne y (owns_lt zT y hy).1)), owns_same zJ (fun y hy => k9 y (hne y (owns_lt zJ y hy).1)), fun i j hj => ?_, zD⟩, b9⟩
        obtain ⟨v, h1, h2⟩ := zE i j hj
        exact ⟨v, h1, JV.keep (fun y hy => ⟨⟨hy.1, by have := hy.2.1; omega, hy.2.2⟩, k9 y (hne y hy.1)⟩) _ _ h2⟩
      have HR9 := hide r9
      clear hlt hrow r2 r9 k9 s9 b9
      go_wp2_with fail
      rw [← hw9]
      obtain ⟨e0, e1, e2, e3, e4⟩ := cells5 (unhide HR9)
      clear hw9
      refine ⟨rfl, _, by simp [results, Tryz.results31, go_sem, e0, e1, e2, e3, e4]; rfl, ?_⟩
      exact unhide HE
#print axioms deep_core
theorem deep_any : ∀ (N : Nat) (j : Js), SizeOf.sizeOf j < N → DcC j
  | 0, j, h => by omega
  | N + 1, .mk k n t ns is, h => deep_core k n t ns is (fun x hx => deep_any N x (by
      have h1 := List.sizeOf_lt_of_mem hx
      simp only [Js.mk.sizeOf_spec] at h
      omega))
theorem deep4 (j : Js) : DcC j := deep_any _ j (Nat.lt_succ_self _)
end Go.Proofs.YtbnbngmnoffmkaaGreatDoor
end
section
set_option linter.unusedVariables false
set_option maxRecDepth 1000000
namespace Go.Proofs.YtbnbngmnoffmkaaGreatDoor
open Go.RowKit

/-- The first place of a name. -/
def ixN (x : List UInt8) : List (List UInt8) → Option Nat
  | [] => none
  | y :: r => if x = y then some 0 else (ixN x r).map (· + 1)
def ixI : Option Nat → Int
  | none => -1
  | some i => (i : Int)
theorem ixN_some {x : List UInt8} : ∀ {ns : List (List UInt8)} {i : Nat}, ns[i]? = some x → (∀ k, k < i → ns[k]? ≠ some x) → ixN x ns = some i
  | [], i, h, _ => by simp at h
  | y :: r, 0, h, _ => by
    obtain rfl : y = x := by simpa using h
    simp [ixN]
  | y :: r, i + 1, h, hf => by
    have h0 : ¬ x = y := fun e => hf 0 (by omega) (by simp [e])
    have := ixN_some (ns := r) (i := i) (by simpa using h) (fun k hk => by simpa using hf (k + 1) (by omega))
    simp [ixN, h0, this]
theorem ixN_none {x : List UInt8} : ∀ {ns : List (List UInt8)}, (∀ k, k < ns.length → ns[k]? ≠ some x) → ixN x ns = none
  | [], _ => rfl
  | y :: r, hf => by
    have h0 : ¬ x = y := fun e => hf 0 (by simp) (by simp [e])
    have := ixN_none (ns := r) (fun k hk => by simpa using hf (k + 1) (by simp; omega))
    simp [ixN, h0, this]
theorem ixN_lt {x : List UInt8} : ∀ {ns : List (List UInt8)} {i : Nat}, ixN x ns = some i → i < ns.length
  | [], i, h => by simp [ixN] at h
  | y :: r, i, h => by
    by_cases e : x = y
    · simp [ixN, e] at h; subst h; simp
    · simp [ixN, e] at h
      obtain ⟨j, hj, rfl⟩ := h
      have := ixN_lt hj
      simp; omega
/-- An object's item of a name. -/
def gtM (x : List UInt8) : Js → Option Js
  | .mk k _ _ ns is => if k = 5 then (match ixN x ns with | some i => is[i]? | none => none) else none
theorem gtM_not {x : List UInt8} {k n : Int} {t : List UInt8} {ns : List (List UInt8)} {is : List Js} (h : k ≠ 5) : gtM x (.mk k n t ns is) = none := by rw [gtM, if_neg h]
theorem gtM_none {x : List UInt8} {k n : Int} {t : List UInt8} {ns : List (List UInt8)} {is : List Js} (h : ixN x ns = none) : gtM x (.mk k n t ns is) = none := by
  rw [gtM, h]
  split <;> rfl
theorem gtM_far {x : List UInt8} {k n : Int} {t : List UInt8} {ns : List (List UInt8)} {is : List Js} {i : Nat} (h : ixN x ns = some i) (hi : is.length ≤ i) : gtM x (.mk k n t ns is) = none := by
  rw [gtM, h]
  split
  · exact List.getElem?_eq_none hi
  · rfl
theorem gtM_at {x : List UInt8} {n : Int} {t : List UInt8} {ns : List (List UInt8)} {is : List Js} {i : Nat} {j : Js} (h : ixN x ns = some i) (hj : is[i]? = some j) : gtM x (.mk 5 n t ns is) = some j := by
  rw [gtM, h, if_pos rfl]
  exact hj
set_option maxHeartbeats 2000000 in
theorem nidx_any (a : Option Addr) (c : Nat) (ns : List (List UInt8)) (x : List UInt8) (S : Nat → Prop) (w : World) (hN : NsF w S a ns) (hl : ns.length ≤ 1000001) :
    Calls Tryz.prog 30 #[.slice a ns.length c, .string (str x)] w fun e w' => e = .returned (.int .i64 (ixI (ixN x ns))) ∧ w' = w := by
  have HN := hide hN
  obtain ⟨m, hm⟩ : ∃ m, m = ns.length := ⟨_, rfl⟩
  have HM := hide hm
  obtain ⟨R, hR⟩ : ∃ R, R = ixI (ixN x ns) := ⟨_, rfl⟩
  rw [← hR, ← hm]
  have HR := hide hR
  have hm9 : m ≤ 1000001 := by omega
  clear hN hm hR hl
  go_enter Tryz.func30, Tryz.ntmps30
  go_wp2
  go_loop [8] (fun v => ∃ q : Nat, q ≤ m ∧ v = .int .i64 (q : Int) ∧ Hid (∀ k, k < q → ns[k]? ≠ some x)) (fun v => m - (intOf v).toNat)
  case atStart => exact ⟨0, Nat.zero_le _, rfl, fun k hk => absurd hk (Nat.not_lt_zero k)⟩
  case round =>
    obtain ⟨q, hq, rfl, HQ⟩ := hrel
    by_cases hlt : q < m
    · have hlt' : (q : Int) < (m : Int) := by omega
      obtain ⟨s, hs⟩ : ∃ s, ns[q]? = some s := ⟨_, List.getElem?_eq_getElem (by rw [← unhide HM]; exact hlt)⟩
      obtain ⟨B, ob, rfl, hSB, hBc⟩ := (unhide HN) (fun e => by rw [e] at hs; simp at hs)
      have z1 := hBc q s hs
      by_cases e : x = s
      · subst e
        have e3 : ((str x).toList == (str x).toList) = true := by simp
        have HE : Hid (R = (q : Int)) := by show _ = _; rw [unhide HR, ixN_some hs (unhide HQ)]; rfl
        clear hBc hs hSB
        go_wp2
        go_ret
        rw [unhide HE]
        exact ⟨rfl, rfl⟩
      · have e3 : ((str x).toList == (str s).toList) = false := by rw [toList_str, toList_str]; simpa using e
        have HQ1 : Hid (∀ k, k < q + 1 → ns[k]? ≠ some x) := fun k hk => by
          by_cases ek : k = q
          · subst ek; rw [hs]; exact fun h => e (Option.some.inj h).symm
          · exact unhide HQ k (by omega)
        clear hBc hs hSB e HQ
        go_wp2
        go_round
        case rel => exact ⟨q + 1, by omega, by go_num, HQ1⟩
        case measure => simp [intOf]; omega
    · have hlt' : ¬ (q : Int) < (m : Int) := by omega
      have HE : Hid (R = -1) := by show _ = _; rw [unhide HR, ixN_none (fun k hk => unhide HQ k (by have := unhide HM; omega))]; rfl
      go_wp2
      go_ret
      rw [unhide HE]
      exact ⟨rfl, rfl⟩
#print axioms nidx_any
/-- What Get hands back. -/
def GtP (w : World) (o : Option Js) (e : Ending) (w' : World) : Prop := ∃ v lo, e = .returned (.tuple #[v, .bool o.isSome]) ∧ w.heap.size ≤ lo ∧ CpJ lo w' v (o.getD Js.nul) ∧ Below w.heap.size w w'
theorem nul_cp (lo : Nat) (w : World) : CpJ lo w (.agg #[.int .i64 0, .int .i64 0, .string ⟨#[]⟩, .slice none 0 0, .slice none 0 0]) Js.nul :=
  ⟨none, 0, none, 0, [], rfl, ⟨rfl, .inl ⟨rfl, rfl⟩⟩, ⟨rfl, .inl ⟨rfl, rfl⟩⟩, fun m j h => by simp at h, fun k h => by cases h⟩
set_option maxHeartbeats 8000000 in
theorem get_any (x : List UInt8) (j : Js) (S : Nat → Prop) (v : Value) (w : World) (hJ : JV w S v j) (hS : ∀ k, S k → k < w.heap.size) (hz : Sz j) :
    Calls Tryz.prog 16 #[v, .string (str x)] w fun e w' => GtP w (gtM x j) e w' := by
  obtain ⟨k, n, t, ns, is⟩ := j
  simp only [JV] at hJ
  obtain ⟨a1, c1, a2, c2, rfl, hN, hnc, hnm, hnn, hic, him, hin, hIt⟩ := hJ
  simp only [Sz] at hz
  obtain ⟨hz1, hz2, hz3, hz4, hz5, hz6⟩ := hz
  obtain ⟨m, hm⟩ : ∃ m, m = is.length := ⟨_, rfl⟩
  obtain ⟨g, hg⟩ : ∃ g, g = ns.length := ⟨_, rfl⟩
  have HM := hide hm
  have HG := hide hg
  obtain ⟨V1, hV1⟩ : ∃ V1, V1 = w.heap.size := ⟨_, rfl⟩
  obtain ⟨V2, hV2⟩ : ∃ V2, V2 = w.heap.size + 1 := ⟨_, rfl⟩
  obtain ⟨W, hW⟩ : ∃ W, W = (w.alloc (.cells #[.int .i64 k, .int .i64 n, .string (str t), .slice a1 ns.length c1, .slice a2 is.length c2] 25)).alloc (.cells #[.int .i64 0, .int .i64 0, .string ⟨#[]⟩, .slice none 0 0, .slice none 0 0] 25) := ⟨_, rfl⟩
  have bW : Below w.heap.size w W := by rw [hW]; exact below2 w _ _
  have sW : W.heap.size = w.heap.size + 2 := by rw [hW]; simp
  have rV1 : W.heap[V1]? = some (.cells #[.int .i64 k, .int .i64 n, .string (str t), .slice a1 g c1, .slice a2 m c2] 25 (0, 0)) := by
    rw [hW, hV1, hm, hg, heap_alloc_old _ _ (by simp)]
    exact heap_alloc_new _ _
  have rV2 : W.heap[V2]? = some (.cells #[.int .i64 0, .int .i64 0, .string ⟨#[]⟩, .slice none 0 0, .slice none 0 0] 25 (0, 0)) := by
    rw [hW, hV2]
    exact heap_alloc2_new _ _ _
  have h12 : V1 < V2 ∧ w.heap.size ≤ V1 := by omega
  have hsz3 : W.heap.size = V2 + 1 := by omega
  have HIX := hide (nidx_any a1 c1 ns x S W (hN.keep (fun q hq => ⟨hq, bW.block q (hS q hq)⟩)) (by omega))
  rw [← hg] at HIX
  obtain ⟨RES, hRES⟩ : ∃ RES, RES = gtM x (.mk k n t ns is) := ⟨_, rfl⟩
  rw [← hRES]
  have HRES := hide hRES
  have HI := hide (JVs.keep (S' := S) (w' := W) (fun q hq => ⟨hq, bW.block q (hS q hq)⟩) _ _ _ hIt)
  have HSW : Hid (∀ k, S k → k < W.heap.size) := fun k hk => Nat.lt_of_lt_of_le (hS k hk) bW.size
  have HZ6 := hide hz6
  have HbW := hide bW
  have HsW := hide hsz3
  have H12 := hide h12
  have HRV2 := hide rV2
  have hmB : m ≤ 100000 := by omega
  have hgB : g ≤ 100000 := by omega
  obtain ⟨p0, p1, p2, p3, p4⟩ := cells5 rV1
  obtain ⟨q0, q1, q2, q3, q4⟩ := cells5 rV2
  have f0 := frozen_of_row W V2 0 _ _ rV2
  have f1 := frozen_of_row W V2 1 _ _ rV2
  have f2 := frozen_of_row W V2 2 _ _ rV2
  have f3 := frozen_of_row W V2 3 _ _ rV2
  have f4 := frozen_of_row W V2 4 _ _ rV2
  -- a nothing, stored where a nothing lies
  obtain ⟨w0, hw0⟩ : ∃ w0, w0 = ((((W.setCell ⟨V2, 0, none⟩ (.int .i64 0)).setCell ⟨V2, 1, none⟩ (.int .i64 0)).setCell ⟨V2, 2, none⟩ (.string ⟨#[]⟩)).setCell ⟨V2, 3, none⟩ (.slice none 0 0)).setCell ⟨V2, 4, none⟩ (.slice none 0 0) := ⟨_, rfl⟩
  have r0 : w0.heap[V2]? = some (.cells #[.int .i64 0, .int .i64 0, .string ⟨#[]⟩, .slice none 0 0, .slice none 0 0] 25 (0, 0)) := by
    rw [hw0]
    exact heap_setCell_same _ _ _ _ _ _ (heap_setCell_same _ _ _ _ _ _ (heap_setCell_same _ _ _ _ _ _ (heap_setCell_same _ _ _ _ _ _ (heap_setCell_same _ _ _ _ _ _ rV2))))
  have k0 : ∀ y, y ≠ V2 → w0.heap[y]? = W.heap[y]? := fun y hy => by rw [hw0]; exact far5 _ _ _ _ _ _ _ _ _ _ _ _ _ hy
  have s0 : w0.heap.size = W.heap.size := by rw [hw0]; exact siz5 _ _ _ _ _ _ _ _ _ _ _ _
  have HB0 : Hid (Below w.heap.size w w0) := by
    obtain ⟨o1, o2, o3⟩ := oth5 W V2 0 1 2 3 4 (.int .i64 0) (.int .i64 0) (.string ⟨#[]⟩) (.slice none 0 0) (.slice none 0 0)
    rw [← hw0] at o1 o2 o3
    exact ⟨o1.trans bW.os, o2.trans bW.tape, o3.trans bW.output, by rw [s0]; exact bW.size, fun y hy => (k0 y (by omega)).trans (bW.block y hy)⟩
  have HR0 := hide r0
  have HW0 := hide hw0
  rw [← hg, ← hm] at hW
  rw [← hg, ← hm]
  clear hRES hN hIt hS hz1 hz2 hz3 hz4 hz5 hz6 bW sW rV1 rV2 h12 hsz3 hm hg hnc hnm hnn hic him hin k0 s0 r0 hw0
  go_enter Tryz.func16, Tryz.ntmps16
  go_upto_region 1 with fail
  rw [← hW, ← hV2, ← hV1]
  clear hW hV1 hV2
  by_cases hk5 : k = 5
  · subst hk5
    go_wp2_with fail
    refine (unhide HIX).mono ?_
    rintro e w1 ⟨rfl, rfl⟩
    clear HIX
    cases hix : ixN x ns with
    | none =>
      have HE : Hid (RES = none) := by show _ = _; rw [unhide HRES, gtM_none hix]
      simp only [ixI]
      clear hix HRES
      go_wp2_with fail
      rw [← unhide HW0]
      obtain ⟨e0, e1, e2, e3, e4⟩ := cells5 (unhide HR0)
      clear HW0
      refine ⟨rfl, _, by simp [results, Tryz.results16, go_sem, e0, e1, e2, e3, e4]; rfl, ?_⟩
      rw [unhide HE]
      exact ⟨_, w0.heap.size, rfl, (unhide HB0).size, nul_cp _ _, unhide HB0⟩
    | some i =>
      have hig := ixN_lt hix
      rw [← unhide HG] at hig
      have hi0 : ¬ (i : Int) < 0 := by omega
      simp only [ixI]
      by_cases him : i < m
      · have him' : ¬ (m : Int) ≤ (i : Int) := by omega
        have him2 : (i : Int) < (m : Int) := by omega
        obtain ⟨y, hy⟩ : ∃ y, is[i]? = some y := ⟨_, List.getElem?_eq_getElem (by rw [← unhide HM]; exact him)⟩
        have HE : Hid (RES = some y) := by show _ = _; rw [unhide HRES, gtM_at hix hy]
        have hmem := List.mem_of_getElem? hy
        have hel := (jvs_iff w1 S a2 is 0).1 (unhide HI) i y hy
        rw [Nat.zero_add] at hel
        obtain ⟨B, o2, u0, u1, u2, u3, u4, rfl, hSb, g0, g1, g2, g3, g4, hj⟩ := hel
        obtain ⟨jk, jn, jt, ja1, jn1, jc1, ja2, jn2, jc2, e⟩ := hj.form
        simp only [Value.agg.injEq, Array.mk.injEq, List.cons.injEq, and_true] at e
        obtain ⟨rfl, rfl, rfl, rfl, rfl⟩ := e
        have HC := hide (deep4 y S _ w1 hj (unhide HSW) ((szs_iff is).1 (unhide HZ6) y hmem))
        clear hix HRES hy hmem hSb hj f0 f1 f2 f3 f4 q0 q1 q2 q3 q4 HW0 HR0 HB0
        go_wp2_with fail
        refine (unhide HC).mono ?_
        rintro e w7 ⟨v', lo', rfl, hlo', hcp, hb7⟩
        have hj7 : JV w7 (fun y => w1.heap.size ≤ y ∧ y < w7.heap.size) v' y := hcp.jv (fun y h1 h2 => ⟨Nat.le_trans hlo' h1, h2⟩)
        obtain ⟨rk, rn, rt, ra1, rn1, rc1, ra2, rn2, rc2, rfl⟩ := hj7.form
        have HCP := hide hcp
        have HLO := hide hlo'
        have HB7 := hide hb7
        have r2 := ((unhide HB7).block V2 (by have := unhide HsW; omega)).trans (unhide HRV2)
        obtain ⟨q0, q1, q2, q3, q4⟩ := cells5 r2
        have f0 := frozen_of_row w7 V2 0 _ _ r2
        have f1 := frozen_of_row w7 V2 1 _ _ r2
        have f2 := frozen_of_row w7 V2 2 _ _ r2
        have f3 := frozen_of_row w7 V2 3 _ _ r2
        have f4 := frozen_of_row w7 V2 4 _ _ r2
        obtain ⟨w9, hw9⟩ : ∃ w9, w9 = ((((w7.setCell ⟨V2, 0, none⟩ (.int .i64 rk)).setCell ⟨V2, 1, none⟩ (.int .i64 rn)).setCell ⟨V2, 2, none⟩ (.string (str rt))).setCell ⟨V2, 3, none⟩ (.slice ra1 rn1 rc1)).setCell ⟨V2, 4, none⟩ (.slice ra2 rn2 rc2) := ⟨_, rfl⟩
        have r9 : w9.heap[V2]? = some (.cells #[.int .i64 rk, .int .i64 rn, .string (str rt), .slice ra1 rn1 rc1, .slice ra2 rn2 rc2] 25 (0, 0)) := by
          rw [hw9]
          exact heap_setCell_same _ _ _ _ _ _ (heap_setCell_same _ _ _ _ _ _ (heap_setCell_same _ _ _ _ _ _ (heap_setCell_same _ _ _ _ _ _ (heap_setCell_same _ _ _ _ _ _ r2))))
        have k9 : ∀ y, y ≠ V2 → w9.heap[y]? = w7.heap[y]? := fun y hy => by rw [hw9]; exact far5 _ _ _ _ _ _ _ _ _ _ _ _ _ hy
        have s9 : w9.heap.size = w7.heap.size := by rw [hw9]; exact siz5 _ _ _ _ _ _ _ _ _ _ _ _
        have HF : Hid (GtP w (some y) (.returned (.tuple #[.agg #[.int .i64 rk, .int .i64 rn, .string (str rt), .slice ra1 rn1 rc1, .slice ra2 rn2 rc2], .bool true])) w9) := by
          have b9 : Below w.heap.size w w9 := by
            have mm := (unhide HbW).trans ((unhide HB7).mono (unhide HbW).size)
            obtain ⟨o1, o2, o3⟩ := oth5 w7 V2 0 1 2 3 4 (.int .i64 rk) (.int .i64 rn) (.string (str rt)) (.slice ra1 rn1 rc1) (.slice ra2 rn2 rc2)
            rw [← hw9] at o1 o2 o3
            exact ⟨o1.trans mm.os, o2.trans mm.tape, o3.trans mm.output, by rw [s9]; exact mm.size, fun y hy => (k9 y (by have := unhide H12; omega)).trans (mm.block y hy)⟩
          have e1 := unhide HsW
          have e2 := unhide HLO
          have hne : ∀ z, lo' ≤ z → z ≠ V2 := fun z hz e => by omega
          refine ⟨_, lo', rfl, Nat.le_trans (unhide HbW).size e2, ?_, b9⟩
          obtain ⟨yk, yn, yt, yns, yis⟩ := y
          obtain ⟨z1, z2, z3, z4, zs, ez, zT, zJ, zE, zD⟩ := unhide HCP
          exact ⟨z1, z2, z3, z4, zs, ez, owns_same zT (fun y hy => k9 y (hne y (owns_lt zT y hy).1)), owns_same zJ (fun y hy => k9 y (hne y (owns_lt zJ y hy).1)), fun i j hj => by
            obtain ⟨v, h1, h2⟩ := zE i j hj
            exact ⟨v, h1, JV.keep (fun y hy => ⟨⟨hy.1, by have := hy.2.1; omega, hy.2.2⟩, k9 y (hne y hy.1)⟩) _ _ h2⟩, zD⟩
        have HR9 := hide r9
        clear hcp hlo' hb7 hj7 r2 r9 k9 s9 HC HCP HB7 HLO g0 g1 g2 g3 g4 p0 p1 p2 p3 p4
        go_wp2_with fail
        rw [← hw9]
        obtain ⟨e0, e1, e2, e3, e4⟩ := cells5 (unhide HR9)
        clear hw9
        refine ⟨rfl, _, by simp [results, Tryz.results16, go_sem, e0, e1, e2, e3, e4]; rfl, ?_⟩
        rw [unhide HE]
        exact unhide HF
      · have him' : (m : Int) ≤ (i : Int) := by omega
        have HE : Hid (RES = none) := by show _ = _; rw [unhide HRES, gtM_far hix (by rw [← unhide HM]; omega)]
        clear hix HRES
        go_wp2_with fail
        rw [← unhide HW0]
        obtain ⟨e0, e1, e2, e3, e4⟩ := cells5 (unhide HR0)
        clear HW0
        refine ⟨rfl, _, by simp [results, Tryz.results16, go_sem, e0, e1, e2, e3, e4]; rfl, ?_⟩
        rw [unhide HE]
        exact ⟨_, w0.heap.size, rfl, (unhide HB0).size, nul_cp _ _, unhide HB0⟩
  · have hkb : (k != 5) = true := by simpa using hk5
    have HE : Hid (RES = none) := by show _ = _; rw [unhide HRES, gtM_not hk5]
    clear HRES HIX
    go_wp2_with fail
    rw [← unhide HW0]
    obtain ⟨e0, e1, e2, e3, e4⟩ := cells5 (unhide HR0)
    clear HW0
    refine ⟨rfl, _, by simp [results, Tryz.results16, go_sem, e0, e1, e2, e3, e4]; rfl, ?_⟩
    rw [unhide HE]
    exact ⟨_, w0.heap.size, rfl, (unhide HB0).size, nul_cp _ _, unhide HB0⟩
#print axioms get_any
end Go.Proofs.YtbnbngmnoffmkaaGreatDoor
end
