/-
  jsonx's statements: a value in memory of its own: own.; for all values JsonxBack answers true.; for all values and numbers JsonxCut answers true.
-/
import Derived.Test.YtbnbngmnoffmkaaGreatDoorPkJntsbs
import Derived.Deep.RegionLaw
import Derived.Test.YtbnbngmnoffmkaaGreatDoorPkJntsbd
import Derived.Test.YtbnbngmnoffmkaaGreatDoorPkJntsbe
section
set_option linter.unusedVariables false
set_option maxRecDepth 1000000
namespace Go.Proofs.YtbnbngmnoffmkaaGreatDoor
open Go.RowKit

/-- What own hands back. -/
def OwP (w : World) (j : Js) (e : Ending) (w' : World) : Prop := ∃ v lo, e = .returned v ∧ w.heap.size ≤ lo ∧ CpJ lo w' v j ∧ Below w.heap.size w w'
def OwC (j : Js) : Prop := ∀ (S : Nat → Prop) (v : Value) (w : World), JV w S v j → (∀ k, S k → k < w.heap.size) → Sz j → Calls Tryz.prog 11 #[v] w fun e w' => OwP w j e w'
set_option maxHeartbeats 16000000 in
theorem own_core (k n : Int) (t : List UInt8) (ns : List (List UInt8)) (is : List Js) (hrec : ∀ x ∈ is, OwC x) : OwC (.mk k n t ns is) := by
  intro S v w hJ hS hz
  simp only [JV] at hJ
  obtain ⟨a1, c1, a2, c2, rfl, hN, hnc, hnm, hnn, hic, him, _, hIt⟩ := hJ
  simp only [Sz] at hz
  obtain ⟨hz1, hz2, hz3, hz4, hz5, hz6⟩ := hz
  obtain ⟨m, hm⟩ : ∃ m, m = is.length := ⟨_, rfl⟩
  obtain ⟨g, hg⟩ : ∃ g, g = ns.length := ⟨_, rfl⟩
  have HM := hide hm
  have HG := hide hg
  obtain ⟨V1, hV1⟩ : ∃ V1, V1 = w.heap.size := ⟨_, rfl⟩
  obtain ⟨V2, hV2⟩ : ∃ V2, V2 = w.heap.size + 1 := ⟨_, rfl⟩
  obtain ⟨V3, hV3⟩ : ∃ V3, V3 = w.heap.size + 1 + 1 := ⟨_, rfl⟩
  obtain ⟨W, hW⟩ : ∃ W, W = ((w.alloc (.cells #[.int .i64 k, .int .i64 n, .string (str t), .slice a1 ns.length c1, .slice a2 is.length c2] 25)).alloc (.cells #[.int .i64 0, .int .i64 0, .string ⟨#[]⟩, .slice none 0 0, .slice none 0 0] 25)).alloc (.cells #[.int .i64 k, .int .i64 n, .string (str t), .slice a1 ns.length c1, .slice a2 is.length c2] 25) := ⟨_, rfl⟩
  have bW : Below w.heap.size w W := by rw [hW]; exact below3 w _ _ _
  have sW : W.heap.size = w.heap.size + 3 := by rw [hW]; simp
  have rV3 : W.heap[V3]? = some (.cells #[.int .i64 k, .int .i64 n, .string (str t), .slice a1 g c1, .slice a2 m c2] 25 (0, 0)) := by
    rw [hW, hV3, hm, hg]
    have := heap_alloc_new (((w.alloc (.cells #[.int .i64 k, .int .i64 n, .string (str t), .slice a1 ns.length c1, .slice a2 is.length c2] 25)).alloc (.cells #[.int .i64 0, .int .i64 0, .string ⟨#[]⟩, .slice none 0 0, .slice none 0 0] 25))) (.cells #[.int .i64 k, .int .i64 n, .string (str t), .slice a1 ns.length c1, .slice a2 is.length c2] 25)
    simpa using this
  have rV2 : W.heap[V2]? = some (.cells #[.int .i64 0, .int .i64 0, .string ⟨#[]⟩, .slice none 0 0, .slice none 0 0] 25 (0, 0)) := by
    rw [hW, hV2, heap_alloc_old _ _ (by simp)]
    exact heap_alloc2_new _ _ _
  have rV1 : W.heap[V1]? = some (.cells #[.int .i64 k, .int .i64 n, .string (str t), .slice a1 g c1, .slice a2 m c2] 25 (0, 0)) := by
    rw [hW, hV1, hm, hg, heap_alloc_old _ _ (by simp; omega), heap_alloc_old _ _ (by simp)]
    exact heap_alloc_new _ _
  have h12 : V1 < V2 ∧ V2 < V3 ∧ w.heap.size ≤ V1 := by omega
  have hsz3 : W.heap.size = V3 + 1 := by omega
  have HCL := hide (nclone_any a1 c1 ns S W (hN.keep (fun q hq => ⟨hq, bW.block q (hS q hq)⟩)) hnn hnc (by omega))
  rw [← hg] at HCL
  have HI := hide hIt
  have HS := hide hS
  have HREC := hide hrec
  have HZ6 := hide hz6
  have HbW := hide bW
  have HsW := hide hsz3
  have H12 := hide h12
  have HRV1 := hide rV1
  have HRV2 := hide rV2
  have HRV3 := hide rV3
  have hmB : m ≤ 100000 := by omega
  have hgB : g ≤ 100000 := by omega
  obtain ⟨p0, p1, p2, p3, p4⟩ := cells5 rV1
  rw [← hg, ← hm] at hW
  rw [← hg, ← hm]
  clear hN hIt hS hrec hz1 hz2 hz3 hz4 hz5 hz6 bW sW rV1 rV2 rV3 h12 hsz3 hm hg hnc hnm hnn hic him
  go_enter Tryz.func11, Tryz.ntmps11
  go_upto_region 2 with fail
  rw [← hW, ← hV3, ← hV2, ← hV1]
  clear hW hV1 hV2 hV3
  go_wp2_with fail
  refine (unhide HCL).mono ?_
  rintro e w2 ⟨a', c', rfl, HO2, HB2⟩
  have HR3 := hide (((unhide HB2).block V3 (by rw [unhide HsW]; omega)).trans (unhide HRV3))
  have f3 := frozen_of_row w2 V3 3 _ _ (unhide HR3)
  have f4 := frozen_of_row w2 V3 4 _ _ (unhide HR3)
  have d3 := cell_of_row w2 V3 3 _ _ _ (unhide HR3)
  have d4 := cell_of_row w2 V3 4 _ _ _ (unhide HR3)
  simp only [List.getElem?_toArray, List.getElem?_cons_succ, List.getElem?_cons_zero] at d3 d4
  clear HCL p0 p1 p2 p3 p4
  obtain ⟨w4, hw4⟩ : ∃ w4, w4 = (w2.setCell ⟨V3, 3, none⟩ (.slice a' g c')).setCell ⟨V3, 4, none⟩ (.slice none 0 0) := ⟨_, rfl⟩
  have hk4 : ∀ x, x ≠ V3 → w4.heap[x]? = w2.heap[x]? := fun x hx => by rw [hw4, Below.heap_setCell _ ⟨V3, 4, none⟩ _ x hx, Below.heap_setCell _ ⟨V3, 3, none⟩ _ x hx]
  have hs4 : w4.heap.size = w2.heap.size := by rw [hw4]; simp
  have HB4 : Hid (Bw w4 V3 W.heap.size k n t ns [] a' c' none 0 []) := by
    have hne : ∀ x, blk a' = some x → x ≠ V3 := fun x hx e => by have := (owns_lt (unhide HO2) x hx).1; rw [unhide HsW] at this; omega
    refine ⟨?_, owns_same (unhide HO2) (fun x hx => hk4 x (hne x hx)), ⟨rfl, .inl ⟨rfl, rfl⟩⟩, fun _ _ h => by simp at h, fun e => hne V3 e rfl, (fun e => by cases e), (fun _ _ e => by cases e)⟩
    rw [hw4, ← unhide HG]
    exact heap_setCell_same _ _ _ _ _ _ (heap_setCell_same _ _ _ _ _ _ (unhide HR3))
  have HM4 : Hid (Mv W w4 V3) := by
    show Mv _ _ _
    rw [hw4]
    exact ((Mv.ofB (unhide HB2)).trans (Mv.set w2 V3 3 _)).trans (Mv.set _ V3 4 _)
  have HR1 := hide ((hk4 V1 (by have := unhide H12; omega)).trans (((unhide HB2).block V1 (by rw [unhide HsW]; have := unhide H12; omega)).trans (unhide HRV1)))
  obtain ⟨p0, p1, p2, p3, p4⟩ := cells5 (unhide HR1)
  clear hk4 hs4 HR3 HO2 HB2
  go_upto_region 4 with fail
  rw [← hw4]
  clear hw4 d3 d4 f3 f4
  go_wp2_with fail
  clear p0 p1 p2 p3 p4
  go_loopw [15] (fun v wr => ∃ (q : Nat) (L : List Js) (ca : Option Addr) (cc : Nat) (xs : List Value), q ≤ m ∧ v = .int .i64 (q : Int) ∧ Hid (L = is.take q) ∧ Hid (Bw wr V3 W.heap.size k n t ns L a' c' ca cc xs) ∧ Hid (Mv W wr V3)) (fun v _ => m - (intOf v).toNat)
  case atStart => exact ⟨0, [], none, 0, [], Nat.zero_le _, rfl, by show _ = _; simp, HB4, HM4⟩
  case round =>
    obtain ⟨q, L, ca, cc, xs, hq, rfl, HLq, HBq, HMq⟩ := hrel
    by_cases hlt : q < m
    · have hlt' : (q : Int) < (m : Int) := by omega
      obtain ⟨x, hx⟩ : ∃ x, is[q]? = some x := ⟨_, List.getElem?_eq_getElem (by rw [← unhide HM]; exact hlt)⟩
      have hLl : L.length ≤ 100000 := by rw [unhide HLq, List.length_take]; omega
      have HL1 : Hid (L ++ [x] = is.take (q + 1)) := by show _ = _; rw [List.take_add_one, hx, unhide HLq]; rfl
      have hmem := List.mem_of_getElem? hx
      have ex := ((jvs_iff w S a2 is 0).1 (unhide HI) q x hx).keep (S' := S) (w' := wr) (fun y hy => ⟨hy, ((unhide HMq).block y (Nat.lt_of_lt_of_le (unhide HS y hy) (unhide HbW).size) (fun e => by have := Option.some.inj e; have := unhide HS y hy; have := unhide H12; omega)).trans ((unhide HbW).block y (unhide HS y hy))⟩)
      rw [Nat.zero_add] at ex
      obtain ⟨B, off, v0, v1, v2, v3, v4, rfl, hSb, g0, g1, g2, g3, g4, hj⟩ := ex
      obtain ⟨jk, jn, jt, ja1, jn1, jc1, ja2, jn2, jc2, e⟩ := hj.form
      simp only [Value.agg.injEq, Array.mk.injEq, List.cons.injEq, and_true] at e
      obtain ⟨rfl, rfl, rfl, rfl, rfl⟩ := e
      obtain ⟨Z, hZ⟩ : ∃ Z, Z = wr.heap.size := ⟨_, rfl⟩
      obtain ⟨U, hU⟩ : ∃ U, U = wr.alloc (.cells #[.int .i64 jk, .int .i64 jn, .string (str jt), .slice ja1 jn1 jc1, .slice ja2 jn2 jc2] 25) := ⟨_, rfl⟩
      have bU : Below wr.heap.size wr U := by rw [hU]; exact (Below.refl _ _).alloc (Nat.le_refl _) _
      have rU : U.heap[Z]? = some (.cells #[.int .i64 jk, .int .i64 jn, .string (str jt), .slice ja1 jn1 jc1, .slice ja2 jn2 jc2] 25 (0, 0)) := by rw [hU, hZ]; exact heap_alloc_new _ _
      have hsl : ∀ y, S y → y < wr.heap.size := fun y hy => by have := unhide HS y hy; have := (unhide HbW).size; have := (unhide HMq).size; omega
      have HC := hide (unhide HREC x hmem S _ U.drew (JV.keep (w := wr) (w' := U.drew) (fun y hy => ⟨hy, bU.block y (hsl y hy)⟩) _ _ hj) (fun y hy => Nat.lt_of_lt_of_le (hsl y hy) bU.size) ((szs_iff is).1 (unhide HZ6) x hmem))
      have HBU := hide ((unhide HBq).below bU)
      have HMU : Hid (Mv W U V3) := (unhide HMq).trans (Mv.ofB bU)
      have HWsz : Hid (W.heap.size ≤ U.heap.size) := (unhide HMU).size
      obtain ⟨d0, d1, d2, d3, d4⟩ := cells5 rU
      obtain ⟨_, c4, _⟩ := (unhide HBU).cells
      clear hx hmem hSb hj bU rU hsl HBq HMq HLq
      go_upto_region 7 with fail
      rw [← hU, ← hZ]
      clear hU hZ g0 g1 g2 g3 g4
      go_region_law (first
        | (refine stp_app5 _ rfl _ _ rfl W.heap.size ca cc L.length xs rfl ((unhide HB5).below ((Below.refl _ _).alloc (Nat.le_refl _) _)).it w5.heap.size _ rfl [.int .i64 rk, .int .i64 rn, .string (str rt), .slice ra1 rn1 rc1, .slice ra2 rn2 rc2] rfl (by simp [Value.oneCell']) (heap_alloc_new _ _) (by omega) (by simp; have := unhide HW5; omega) ?_
           intro gg cap w7 HO HGr HAT HGL
           have HR7 := hide (((unhide HGr).block V3 ((unhide HB5).below ((Below.refl _ _).alloc (Nat.le_refl _) _)).lt (fun e => (unhide HB5).v2 e.symm)).trans ((unhide HB5).below ((Below.refl _ _).alloc (Nat.le_refl _) _)).row)
           have f7 := frozen_of_row w7 V3 4 _ _ (unhide HR7)
           have c7 : w7.cell? ⟨V3, 4, none⟩ = some (.slice ca L.length cc) := (cells5 (unhide HR7)).2.2.2.2)
        | (go_simp
           go_at_call 11
           refine (unhide HC).mono ?_
           rintro e w5 ⟨v', lo', rfl, hlo', hcp, hb5⟩
           have hj5 : JV w5 (fun y => U.heap.size ≤ y ∧ y < w5.heap.size) v' x := hcp.jv (fun y h1 h2 => ⟨Nat.le_trans hlo' h1, h2⟩)
           obtain ⟨rk, rn, rt, ra1, rn1, rc1, ra2, rn2, rc2, rfl⟩ := hj5.form
           have HJ5 := hide hj5
           have HB5 : Hid (Bw w5 V3 W.heap.size k n t ns L a' c' ca cc xs) := (unhide HBU).below ((Below.refl _ _).drew.trans hb5)
           have HM5 : Hid (Mv W w5 V3) := (unhide HMU).trans (Mv.ofB ((Below.refl _ _).drew.trans hb5))
           have HW5 : Hid (W.heap.size ≤ w5.heap.size) := (unhide HM5).size
           have HS5 : Hid (U.heap.size ≤ w5.heap.size) := hb5.size
           have c5 : w5.cell? ⟨V3, 4, none⟩ = some (.slice ca L.length cc) := (unhide HB5).cells.2.1
           have hV5 : V3 < w5.heap.size := (unhide HB5).lt
           clear hcp hb5 hlo' hj5))
      all_goals
        obtain ⟨u, hu⟩ : ∃ u, u = w5.alloc (.cells #[.int .i64 rk, .int .i64 rn, .string (str rt), .slice ra1 rn1 rc1, .slice ra2 rn2 rc2] 25) := ⟨_, rfl⟩
        have b5u : Below w5.heap.size w5 u := by rw [hu]; exact (Below.refl _ _).alloc (Nat.le_refl _) _
        have HGu : u.grownBy w7 (blk ca) := by rw [hu]; exact unhide HGr
        have HATu : blk ca = some gg ∨ gg = u.heap.size := by rw [hu]; exact unhide HAT
        have hBu := (unhide HB5).below b5u
        have hgV : gg ≠ V3 := by
          rintro rfl
          rcases HATu with e | e
          · exact hBu.v2 e
          · have := hBu.lt; omega
        obtain ⟨w8, hw8⟩ : ∃ w8, w8 = w7.setCell ⟨V3, 4, none⟩ (.slice (some ⟨gg, 0, none⟩) (L.length + 1) cap) := ⟨_, rfl⟩
        have k8 : ∀ y, y ≠ V3 → w8.heap[y]? = w7.heap[y]? := fun y hy => by rw [hw8]; exact Below.heap_setCell _ ⟨V3, 4, none⟩ _ y hy
        have r8 : w8.heap[V3]? = some (.cells #[.int .i64 k, .int .i64 n, .string (str t), .slice a' ns.length c', .slice (some ⟨gg, 0, none⟩) (L.length + 1) cap] 25 (0, 0)) := by rw [hw8]; exact heap_setCell_same _ _ _ _ _ _ (unhide HR7)
        have s8 : w8.heap.size = w7.heap.size := by rw [hw8]; simp
        have hB8 : Bw w8 V3 W.heap.size k n t ns (L ++ [x]) a' c' (some ⟨gg, 0, none⟩) cap (xs ++ [.int .i64 rk, .int .i64 rn, .string (str rt), .slice ra1 rn1 rc1, .slice ra2 rn2 rc2]) :=
          hBu.push (old := U.heap.size) (JV.keep (fun y hy => ⟨⟨hy.1, Nat.lt_of_lt_of_le hy.2 b5u.size⟩, b5u.block y hy.2⟩) _ _ (unhide HJ5)) (unhide HWsz) (unhide HBU).lt (fun y hy => (owns_lt (unhide HBU).nm y hy).2) (fun y hy => (owns_lt (unhide HBU).it y hy).2) HGu HATu (unhide HGL) r8 (owns_same (unhide HO) (fun y hy => k8 y (fun e => hgV (by simp [blk] at hy; omega)))) (fun y h1 _ => k8 y h1) s8
        have HB8 := hide hB8
        have HM8 : Hid (Mv W w8 V3) := by
          show Mv _ _ _
          have m1 : Mv W u V3 := (unhide HM5).trans (Mv.ofB b5u)
          have m2 : Mv W w7 V3 := ⟨HGu.os.trans m1.os, HGu.tape.trans m1.tape, HGu.output.trans m1.output, Nat.le_trans m1.size HGu.size, fun y hy hne => (HGu.block y (Nat.lt_of_lt_of_le hy m1.size) (fun e => by have := (owns_lt hBu.it y e.symm).1; omega)).trans (m1.block y hy hne)⟩
          rw [hw8]
          exact m2.trans (Mv.set w7 V3 4 _)
        rw [← hw8]
        clear hw8 k8 r8 s8 hB8 hBu hgV HATu HGu b5u hu f7 c7 c5 hV5 d0 d1 d2 d3 d4 c4
        go_wp2_with fail
        go_roundw
        case rel => exact ⟨q + 1, L ++ [x], some ⟨gg, 0, none⟩, cap, _, by omega, by go_num, HL1, HB8, HM8⟩
        case measure => simp [intOf]; omega
    · have hqm : q = m := by omega
      subst hqm
      have hlt' : ¬ (q : Int) < (q : Int) := by omega
      have HLI : Hid (L = is) := by show _ = _; rw [unhide HLq, unhide HM, List.take_length]
      have hrow := (unhide HBq).row
      have HLs : Hid (L.length = q ∧ ns.length = g) := ⟨by rw [unhide HLI]; exact (unhide HM).symm, (unhide HG).symm⟩
      rw [(unhide HLs).1, (unhide HLs).2] at hrow
      obtain ⟨p0, p1, p2, p3, p4⟩ := cells5 hrow
      have r2 := ((unhide HMq).block V2 (by have := unhide H12; have := unhide HsW; omega) (fun e => by have := Option.some.inj e; have := unhide H12; omega)).trans (unhide HRV2)
      obtain ⟨q0, q1, q2, q3, q4⟩ := cells5 r2
      have f0 := frozen_of_row wr V2 0 _ _ r2
      have f1 := frozen_of_row wr V2 1 _ _ r2
      have f2 := frozen_of_row wr V2 2 _ _ r2
      have f3 := frozen_of_row wr V2 3 _ _ r2
      have f4 := frozen_of_row wr V2 4 _ _ r2
      obtain ⟨w9, hw9⟩ : ∃ w9, w9 = ((((wr.setCell ⟨V2, 0, none⟩ (.int .i64 k)).setCell ⟨V2, 1, none⟩ (.int .i64 n)).setCell ⟨V2, 2, none⟩ (.string (str t))).setCell ⟨V2, 3, none⟩ (.slice a' g c')).setCell ⟨V2, 4, none⟩ (.slice ca q cc) := ⟨_, rfl⟩
      have r9 : w9.heap[V2]? = some (.cells #[.int .i64 k, .int .i64 n, .string (str t), .slice a' g c', .slice ca q cc] 25 (0, 0)) := by
        rw [hw9]
        exact heap_setCell_same _ _ _ _ _ _ (heap_setCell_same _ _ _ _ _ _ (heap_setCell_same _ _ _ _ _ _ (heap_setCell_same _ _ _ _ _ _ (heap_setCell_same _ _ _ _ _ _ r2))))
      have k9 : ∀ y, y ≠ V2 → w9.heap[y]? = wr.heap[y]? := fun y hy => by rw [hw9]; exact far5 _ _ _ _ _ _ _ _ _ _ _ _ _ hy
      have s9 : w9.heap.size = wr.heap.size := by rw [hw9]; exact siz5 _ _ _ _ _ _ _ _ _ _ _ _
      have b9 : Below w.heap.size w w9 := by
        have mm := (Mv.ofB (unhide HbW)).trans (unhide HMq)
        obtain ⟨o1, o2, o3⟩ := oth5 wr V2 0 1 2 3 4 (.int .i64 k) (.int .i64 n) (.string (str t)) (.slice a' g c') (.slice ca q cc)
        rw [← hw9] at o1 o2 o3
        exact ⟨o1.trans mm.os, o2.trans mm.tape, o3.trans mm.output, by rw [s9]; exact mm.size, fun y hy => (k9 y (by have := unhide H12; omega)).trans (mm.block y hy (fun e => by have := Option.some.inj e; have := unhide H12; omega))⟩
      have HE : Hid (OwP w (.mk k n t ns is) (.returned (.agg #[.int .i64 k, .int .i64 n, .string (str t), .slice a' g c', .slice ca q cc])) w9) := by
        have hc := ((unhide HBq).keep (w' := w9) (fun y hy _ => k9 y (fun e => by have := unhide H12; have := unhide HsW; rcases hy with hy | hy <;> omega)) (by rw [s9]; exact Nat.le_refl _)).cp
        rw [(unhide HLs).1, (unhide HLs).2, unhide HLI] at hc
        exact ⟨_, W.heap.size, rfl, (unhide HbW).size, hc, b9⟩
      have HR9 := hide r9
      clear hlt hrow r2 r9 k9 s9 b9 HLs
      go_wp2_with fail
      rw [← hw9]
      obtain ⟨e0, e1, e2, e3, e4⟩ := cells5 (unhide HR9)
      clear hw9
      refine ⟨rfl, _, by simp [results, Tryz.results11, go_sem, e0, e1, e2, e3, e4]; rfl, ?_⟩
      exact unhide HE
#print axioms own_core
theorem own_any : ∀ (N : Nat) (j : Js), SizeOf.sizeOf j < N → OwC j
  | 0, j, h => by omega
  | N + 1, .mk k n t ns is, h => own_core k n t ns is (fun x hx => own_any N x (by
      have h1 := List.sizeOf_lt_of_mem hx
      simp only [Js.mk.sizeOf_spec] at h
      omega))
theorem own4 (j : Js) : OwC j := own_any _ j (Nat.lt_succ_self _)
/-- own, told plainly. -/
theorem own_jv (j : Js) (S : Nat → Prop) (v : Value) (w : World) (hJ : JV w S v j) (hS : ∀ k, S k → k < w.heap.size) (hz : Sz j) :
    Calls Tryz.prog 11 #[v] w fun e w' => ∃ (k n : Int) (t : List UInt8) (a1 : Option Addr) (n1 c1 : Nat) (a2 : Option Addr) (n2 c2 : Nat), e = .returned (.agg #[.int .i64 k, .int .i64 n, .string (str t), .slice a1 n1 c1, .slice a2 n2 c2]) ∧ Hid (JV w' (Al w') (.agg #[.int .i64 k, .int .i64 n, .string (str t), .slice a1 n1 c1, .slice a2 n2 c2]) j) ∧ Hid (Below w.heap.size w w') := by
  refine (own4 j S v w hJ hS hz).mono ?_
  rintro e w' ⟨v', lo, rfl, hlo, hcp, hb⟩
  have hj := hcp.jv (S := Al w') (fun k _ h => h)
  obtain ⟨k, n, t, a1, n1, c1, a2, n2, c2, rfl⟩ := hj.form
  exact ⟨k, n, t, a1, n1, c1, a2, n2, c2, rfl, hj, hb⟩
#print axioms own_jv
end Go.Proofs.YtbnbngmnoffmkaaGreatDoor
end
section
set_option linter.unusedVariables false
set_option maxRecDepth 1000000
namespace Go.Proofs.YtbnbngmnoffmkaaGreatDoor
open Go.RowKit

theorem prM_gd (j : Js) (h : (prM j).2 = 0) : ck 16 j = 0 ∧ (prM j).1 = prN 16 j ∧ (prN 16 j).length ≤ 65536 := by
  by_cases hc : ck 16 j = 0
  · rcases prM_ok j hc with h1 | h1
    · exact ⟨hc, h1.2⟩
    · omega
  · unfold prM at h
    rw [if_pos hc] at h
    exact absurd h hc
theorem prM_bad (j : Js) (h : (prM j).2 ≠ 0) : (prM j).1 = [] := by
  unfold prM at h ⊢
  split
  · rfl
  · split
    · rfl
    · rename_i h1 h2
      rw [if_neg h1, if_neg h2] at h
      exact absurd rfl h
theorem back_math (j : Js) (hz : Sz j) (h : (prM j).2 = 0) : psM (prM j).1 = (srN 16 j, 0, 0) ∧ Gd 16 (srN 16 j) ∧ prM (srN 16 j) = ((prM j).1, 0) ∧ saM j (srN 16 j) = true := by
  obtain ⟨hc, e, hl⟩ := prM_gd j h
  have hs := ck_sr 16 j hc hz
  rw [e]
  refine ⟨ps_print j hc hz hl, hs, ?_, ?_⟩
  · unfold prM
    rw [if_neg (by rw [hs.1]; simp), pr_sr 16 j hc, if_neg (by omega)]
  · rw [saM_iff _ _ ⟨hc, hz⟩ hs, decide_eq_true_eq]
    exact (pr_sr 16 j hc).symm
end Go.Proofs.YtbnbngmnoffmkaaGreatDoor
end
section
set_option linter.unusedVariables false
set_option maxRecDepth 1000000
namespace Go.Proofs.YtbnbngmnoffmkaaGreatDoor
open Go.RowKit

theorem opL (o : Int) (L : Nat) (hL : 1 ≤ L) (hl : L ≤ 70000) : ∃ r : Nat, r < L ∧ wrap64 ((IntKind.u64.wrap o).tmod (L : Int)) = (r : Int) := by
  have e : IntKind.u64.wrap o = o % 18446744073709551616 := by simp [IntKind.wrap, IntKind.bits, IntKind.signed]
  have h0 : 0 ≤ o % 18446744073709551616 := Int.emod_nonneg _ (by omega)
  have e2 : (o % 18446744073709551616).tmod (L : Int) = o % 18446744073709551616 % (L : Int) := Int.tmod_eq_emod_of_nonneg h0
  have h1 := Int.emod_nonneg (o % 18446744073709551616) (show (L : Int) ≠ 0 by omega)
  have h2 := Int.emod_lt_of_pos (o % 18446744073709551616) (show (0 : Int) < (L : Int) by omega)
  refine ⟨(o % 18446744073709551616 % (L : Int)).toNat, by omega, ?_⟩
  rw [e, e2, IntWalk.wrap64_in _ (by omega)]
  omega
theorem cut_str4 (s : List UInt8) (k : Nat) : (str s).extract 0 k = str (s.take k) := by
  apply ByteArray.ext
  simp [str, ByteArray.data_extract]
end Go.Proofs.YtbnbngmnoffmkaaGreatDoor
end
