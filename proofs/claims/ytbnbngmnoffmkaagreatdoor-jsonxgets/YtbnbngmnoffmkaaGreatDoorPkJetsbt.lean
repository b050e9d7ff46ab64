/-
  jsonx: the document's own Get and Same.; jsonx's statements: how long the text of a value is that may be gone through.; for all values and names JsonxGets answers true: the walk.
-/
import Derived.Test.YtbnbngmnoffmkaaGreatDoorPkJetsbi
import Derived.Test.YtbnbngmnoffmkaaGreatDoorPkJetsbs
import Derived.Test.YtbnbngmnoffmkaaGreatDoorPkJetsbd
import Derived.Test.YtbnbngmnoffmkaaGreatDoorPkJetsbh
section
set_option linter.unusedVariables false
set_option maxRecDepth 1000000
namespace Go.Proofs.YtbnbngmnoffmkaaGreatDoor
open Go.RowKit

/-- What the document's Get hands back. -/
def RgP (w : World) (o : Option Js) (e : Ending) (w' : World) : Prop := ∃ v, e = .returned (.tuple #[v, .bool o.isSome]) ∧ JV w' (Al w') v (o.getD Js.nul) ∧ Below w.heap.size w w'
theorem nul_jv (w : World) : JV w (Al w) (.agg #[.int .i64 0, .int .i64 0, .string ⟨#[]⟩, .slice none 0 0, .slice none 0 0]) Js.nul := (nul_cp w.heap.size w).jv (fun k _ h => h)
set_option maxHeartbeats 8000000 in
theorem rget_any (x : List UInt8) (j : Js) (S : Nat → Prop) (v : Value) (w : World) (hJ : JV w S v j) (hS : ∀ k, S k → k < w.heap.size) (hz : Sz j) :
    Calls Tryz.prog 17 #[v, .string (str x)] w fun e w' => RgP w (gtM x j) e w' := by
  obtain ⟨k, n, t, ns, is⟩ := j
  simp only [JV] at hJ
  obtain ⟨a1, c1, a2, c2, rfl, hN, hnc, hnm, hnn, hic, him, hin, hIt⟩ := hJ
  simp only [Sz] at hz
  obtain ⟨hz1, hz2, hz3, hz4, hz5, hz6⟩ := hz
  obtain ⟨m, hm⟩ : ∃ m, m = is.length := ⟨_, rfl⟩
  obtain ⟨g, hg⟩ : ∃ g, g = ns.length := ⟨_, rfl⟩
  have HM := hide hm
  have HG := hide hg
  obtain ⟨V1, hV1⟩ : ∃ V1, V1 = w.heap.size := ⟨_, rfl⟩
  obtain ⟨V2, hV2⟩ : ∃ V2, V2 = w.heap.size + 1 := ⟨_, rfl⟩
  obtain ⟨W, hW⟩ : ∃ W, W = (w.alloc (.cells #[.int .i64 k, .int .i64 n, .string (str t), .slice a1 ns.length c1, .slice a2 is.length c2] 25)).alloc (.cells #[.int .i64 0, .int .i64 0, .string ⟨#[]⟩, .slice none 0 0, .slice none 0 0] 25) := ⟨_, rfl⟩
  have bW : Below w.heap.size w W := by rw [hW]; exact below2 w _ _
  have sW : W.heap.size = w.heap.size + 2 := by rw [hW]; simp
  have rV1 : W.heap[V1]? = some (.cells #[.int .i64 k, .int .i64 n, .string (str t), .slice a1 g c1, .slice a2 m c2] 25 (0, 0)) := by
    rw [hW, hV1, hm, hg, heap_alloc_old _ _ (by simp)]
    exact heap_alloc_new _ _
  have rV2 : W.heap[V2]? = some (.cells #[.int .i64 0, .int .i64 0, .string ⟨#[]⟩, .slice none 0 0, .slice none 0 0] 25 (0, 0)) := by
    rw [hW, hV2]
    exact heap_alloc2_new _ _ _
  have h12 : V1 < V2 ∧ w.heap.size ≤ V1 := by omega
  have hsz3 : W.heap.size = V2 + 1 := by omega
  have HN := hide (hN.keep (S' := S) (w' := W) (fun q hq => ⟨hq, bW.block q (hS q hq)⟩))
  obtain ⟨RES, hRES⟩ : ∃ RES, RES = gtM x (.mk k n t ns is) := ⟨_, rfl⟩
  rw [← hRES]
  have HRES := hide hRES
  have HI := hide (JVs.keep (S' := S) (w' := W) (fun q hq => ⟨hq, bW.block q (hS q hq)⟩) _ _ _ hIt)
  have HSW : Hid (∀ k, S k → k < w.heap.size) := hS
  have HbW := hide bW
  have HsW := hide hsz3
  have H12 := hide h12
  have HRV2 := hide rV2
  have hmB : m ≤ 100000 := by omega
  have hgB : g ≤ 100000 := by omega
  obtain ⟨p0, p1, p2, p3, p4⟩ := cells5 rV1
  obtain ⟨q0, q1, q2, q3, q4⟩ := cells5 rV2
  have f0 := frozen_of_row W V2 0 _ _ rV2
  have f1 := frozen_of_row W V2 1 _ _ rV2
  have f2 := frozen_of_row W V2 2 _ _ rV2
  have f3 := frozen_of_row W V2 3 _ _ rV2
  have f4 := frozen_of_row W V2 4 _ _ rV2
  have HST : Hid (∀ v0 v1 v2 v3 v4, ∀ w0, w0 = ((((W.setCell ⟨V2, 0, none⟩ v0).setCell ⟨V2, 1, none⟩ v1).setCell ⟨V2, 2, none⟩ v2).setCell ⟨V2, 3, none⟩ v3).setCell ⟨V2, 4, none⟩ v4 → w0.heap[V2]? = some (.cells #[v0, v1, v2, v3, v4] 25 (0, 0)) ∧ Below w.heap.size w w0 ∧ ∀ y, y ≠ V2 → w0.heap[y]? = W.heap[y]?) := by
    intro v0 v1 v2 v3 v4 w0 hw0
    have k0 : ∀ y, y ≠ V2 → w0.heap[y]? = W.heap[y]? := fun y hy => by rw [hw0]; exact far5 _ _ _ _ _ _ _ _ _ _ _ _ _ hy
    have s0 : w0.heap.size = W.heap.size := by rw [hw0]; exact siz5 _ _ _ _ _ _ _ _ _ _ _ _
    refine ⟨?_, ?_, k0⟩
    · rw [hw0]
      exact heap_setCell_same _ _ _ _ _ _ (heap_setCell_same _ _ _ _ _ _ (heap_setCell_same _ _ _ _ _ _ (heap_setCell_same _ _ _ _ _ _ (heap_setCell_same _ _ _ _ _ _ rV2))))
    · obtain ⟨o1, o2, o3⟩ := oth5 W V2 0 1 2 3 4 v0 v1 v2 v3 v4
      rw [← hw0] at o1 o2 o3
      exact ⟨o1.trans bW.os, o2.trans bW.tape, o3.trans bW.output, by rw [s0]; exact bW.size, fun y hy => (k0 y (by omega)).trans (bW.block y hy)⟩
  -- a nothing, stored where a nothing lies
  obtain ⟨w0, hw0⟩ : ∃ w0, w0 = ((((W.setCell ⟨V2, 0, none⟩ (.int .i64 0)).setCell ⟨V2, 1, none⟩ (.int .i64 0)).setCell ⟨V2, 2, none⟩ (.string ⟨#[]⟩)).setCell ⟨V2, 3, none⟩ (.slice none 0 0)).setCell ⟨V2, 4, none⟩ (.slice none 0 0) := ⟨_, rfl⟩
  obtain ⟨hr0, hb0, _⟩ := unhide HST _ _ _ _ _ w0 hw0
  have HB0 := hide hb0
  have HR0 := hide hr0
  have HW0 := hide hw0
  rw [← hg, ← hm] at hW
  rw [← hg, ← hm]
  clear hRES hN hIt hS hz1 hz2 hz3 hz4 hz5 hz6 bW sW rV1 rV2 h12 hsz3 hm hg hnc hnm hnn hic him hin hb0 hr0 hw0
  go_enter Tryz.func17, Tryz.ntmps17
  go_upto_region 1 with fail
  rw [← hW, ← hV2, ← hV1]
  clear hW hV1 hV2
  go_wp2_with fail
  go_loop [11] (fun v => ∃ q : Nat, q ≤ g ∧ v = .int .i64 (q : Int) ∧ Hid (∀ k, k < q → ns[k]? ≠ some x)) (fun v => g - (intOf v).toNat)
  case atStart => exact ⟨0, Nat.zero_le _, rfl, fun k hk => absurd hk (Nat.not_lt_zero k)⟩
  case round =>
    obtain ⟨q, hq, rfl, HQ⟩ := hrel
    by_cases hlt : q < g
    · have hlt' : (q : Int) < (g : Int) := by omega
      obtain ⟨s, hs⟩ : ∃ s, ns[q]? = some s := ⟨_, List.getElem?_eq_getElem (by rw [← unhide HG]; exact hlt)⟩
      obtain ⟨B, ob, rfl, hSB, hBc⟩ := (unhide HN) (fun e => by rw [e] at hs; simp at hs)
      have z1 := hBc q s hs
      by_cases e : s = x
      · subst e
        have e3 : ((str s).toList == (str s).toList) = true := by simp
        have hix := ixN_some hs (unhide HQ)
        clear hBc hs hSB HQ
        by_cases hk5 : k = 5
        · subst hk5
          by_cases him : q < m
          · have him' : ¬ (m : Int) ≤ (q : Int) := by omega
            have him2 : (q : Int) < (m : Int) := by omega
            obtain ⟨y, hy⟩ : ∃ y, is[q]? = some y := ⟨_, List.getElem?_eq_getElem (by rw [← unhide HM]; exact him)⟩
            have HE : Hid (RES = some y) := by show _ = _; rw [unhide HRES, gtM_at hix hy]
            have hel := (jvs_iff W S a2 is 0).1 (unhide HI) q y hy
            rw [Nat.zero_add] at hel
            obtain ⟨B2, o2, u0, u1, u2, u3, u4, rfl, hSb, g0, g1, g2, g3, g4, hj⟩ := hel
            obtain ⟨jk, jn, jt, ja1, jn1, jc1, ja2, jn2, jc2, e⟩ := hj.form
            simp only [Value.agg.injEq, Array.mk.injEq, List.cons.injEq, and_true] at e
            obtain ⟨rfl, rfl, rfl, rfl, rfl⟩ := e
            obtain ⟨w9, hw9⟩ : ∃ w9, w9 = ((((W.setCell ⟨V2, 0, none⟩ (.int .i64 jk)).setCell ⟨V2, 1, none⟩ (.int .i64 jn)).setCell ⟨V2, 2, none⟩ (.string (str jt))).setCell ⟨V2, 3, none⟩ (.slice ja1 jn1 jc1)).setCell ⟨V2, 4, none⟩ (.slice ja2 jn2 jc2) := ⟨_, rfl⟩
            obtain ⟨hr9, hb9, hk9⟩ := unhide HST _ _ _ _ _ w9 hw9
            have HF : Hid (RgP w (some y) (.returned (.tuple #[.agg #[.int .i64 jk, .int .i64 jn, .string (str jt), .slice ja1 jn1 jc1, .slice ja2 jn2 jc2], .bool true])) w9) :=
              ⟨_, rfl, JV.keep (fun z hz => ⟨by have := unhide HSW z hz; have := hb9.size; show z < _; omega, hk9 z (by have := unhide HSW z hz; have := unhide H12; omega)⟩) _ _ hj, hb9⟩
            have HR9 := hide hr9
            clear hix HRES hy hSb hj HW0 HR0 HB0 hr9 hb9 hk9
            go_wp2_with fail
            rw [← hw9]
            obtain ⟨e0, e1, e2, e3, e4⟩ := cells5 (unhide HR9)
            clear hw9
            refine ⟨rfl, _, by simp [results, Tryz.results17, go_sem, e0, e1, e2, e3, e4]; rfl, ?_⟩
            rw [unhide HE]
            exact unhide HF
          · have him' : (m : Int) ≤ (q : Int) := by omega
            have HE : Hid (RES = none) := by show _ = _; rw [unhide HRES, gtM_far hix (by rw [← unhide HM]; omega)]
            clear hix HRES
            go_wp2_with fail
            rw [← unhide HW0]
            obtain ⟨e0, e1, e2, e3, e4⟩ := cells5 (unhide HR0)
            clear HW0
            refine ⟨rfl, _, by simp [results, Tryz.results17, go_sem, e0, e1, e2, e3, e4]; rfl, ?_⟩
            rw [unhide HE]
            exact ⟨_, rfl, nul_jv _, unhide HB0⟩
        · have hkb : (k != 5) = true := by simpa using hk5
          have HE : Hid (RES = none) := by show _ = _; rw [unhide HRES, gtM_not hk5]
          clear HRES hix
          go_wp2_with fail
          rw [← unhide HW0]
          obtain ⟨e0, e1, e2, e3, e4⟩ := cells5 (unhide HR0)
          clear HW0
          refine ⟨rfl, _, by simp [results, Tryz.results17, go_sem, e0, e1, e2, e3, e4]; rfl, ?_⟩
          rw [unhide HE]
          exact ⟨_, rfl, nul_jv _, unhide HB0⟩
      · have e3 : ((str s).toList == (str x).toList) = false := by rw [toList_str, toList_str]; simpa using e
        have HQ1 : Hid (∀ k, k < q + 1 → ns[k]? ≠ some x) := fun k hk => by
          by_cases ek : k = q
          · subst ek; rw [hs]; exact fun h => e (Option.some.inj h)
          · exact unhide HQ k (by omega)
        clear hBc hs hSB e HQ
        go_wp2_with fail
        go_round
        case rel => exact ⟨q + 1, by omega, by go_num, HQ1⟩
        case measure => simp [intOf]; omega
    · have hlt' : ¬ (q : Int) < (g : Int) := by omega
      have HE : Hid (RES = none) := by show _ = _; rw [unhide HRES, gtM_none (ixN_none (fun k hk => unhide HQ k (by have := unhide HG; omega)))]
      clear HRES
      go_wp2_with fail
      rw [← unhide HW0]
      obtain ⟨e0, e1, e2, e3, e4⟩ := cells5 (unhide HR0)
      clear HW0
      refine ⟨rfl, _, by simp [results, Tryz.results17, go_sem, e0, e1, e2, e3, e4]; rfl, ?_⟩
      rw [unhide HE]
      exact ⟨_, rfl, nul_jv _, unhide HB0⟩
#print axioms rget_any
/-- Are two values the same, as the document tells it? -/
def rsM (a b : Js) : Bool := decide (ck 16 a = 0) && (decide (ck 16 b = 0) && decide (prN 16 a = prN 16 b))
theorem saM_rs (a b : Js) (za : Sz a) (zb : Sz b) : saM a b = rsM a b := by
  unfold rsM
  by_cases ha : ck 16 a = 0
  · by_cases hb : ck 16 b = 0
    · rw [saM_iff a b ⟨ha, za⟩ ⟨hb, zb⟩]; simp [ha, hb]
    · unfold saM; simp [hb]
  · unfold saM; simp [ha]
set_option maxHeartbeats 16000000 in
theorem rsame_any (a b : Js) (S : Nat → Prop) (v v' : Value) (w : World) (hJ : JV w S v a) (hJ' : JV w S v' b) (hS : ∀ k, S k → k < w.heap.size) (za : Sz a) (zb : Sz b) (la : ck 16 a = 0 → (prN 16 a).length ≤ 1000000) (lb : ck 16 b = 0 → (prN 16 b).length ≤ 1000000) :
    Calls Tryz.prog 19 #[v, v'] w fun e w' => e = .returned (.bool (rsM a b)) ∧ Hid (Below w.heap.size w w') := by
  obtain ⟨k, n, t, a1, n1, c1, a2, n2, c2, rfl⟩ := hJ.form
  obtain ⟨k', n', t', b1, m1, d1, b2, m2, d2, rfl⟩ := hJ'.form
  obtain ⟨V, hV⟩ : ∃ V, V = w.heap.size := ⟨_, rfl⟩
  obtain ⟨X, hX⟩ : ∃ X, X = w.heap.size + 1 := ⟨_, rfl⟩
  obtain ⟨W, hW⟩ : ∃ W, W = (w.alloc (.cells #[.int .i64 k, .int .i64 n, .string (str t), .slice a1 n1 c1, .slice a2 n2 c2] 25)).alloc (.cells #[.int .i64 k', .int .i64 n', .string (str t'), .slice b1 m1 d1, .slice b2 m2 d2] 25) := ⟨_, rfl⟩
  have bW : Below w.heap.size w W := by rw [hW]; exact below2 w _ _
  have rV : W.heap[V]? = some (.cells #[.int .i64 k, .int .i64 n, .string (str t), .slice a1 n1 c1, .slice a2 n2 c2] 25 (0, 0)) := by rw [hW, hV, heap_alloc_old _ _ (by simp)]; exact heap_alloc_new _ _
  have rX : W.heap[X]? = some (.cells #[.int .i64 k', .int .i64 n', .string (str t'), .slice b1 m1 d1, .slice b2 m2 d2] 25 (0, 0)) := by rw [hW, hX]; exact heap_alloc2_new _ _ _
  have HKK : Hid (∀ u, Below W.heap.size W u → u.heap[V]? = some (.cells #[.int .i64 k, .int .i64 n, .string (str t), .slice a1 n1 c1, .slice a2 n2 c2] 25 (0, 0)) ∧ u.heap[X]? = some (.cells #[.int .i64 k', .int .i64 n', .string (str t'), .slice b1 m1 d1, .slice b2 m2 d2] 25 (0, 0))) := fun u hb => ⟨(hb.block V (Array.getElem?_eq_some_iff.1 rV).1).trans rV, (hb.block X (Array.getElem?_eq_some_iff.1 rX).1).trans rX⟩
  have HF : Hid (∀ u, Below W.heap.size W u → Below w.heap.size w u) := fun u hb => bW.trans (hb.mono bW.size)
  have HA : Hid (∀ u, Below W.heap.size W u → JV u S (.agg #[.int .i64 k, .int .i64 n, .string (str t), .slice a1 n1 c1, .slice a2 n2 c2]) a ∧ JV u S (.agg #[.int .i64 k', .int .i64 n', .string (str t'), .slice b1 m1 d1, .slice b2 m2 d2]) b ∧ (∀ k, S k → k < u.heap.size)) := fun u hb => ⟨JV.keep (fun k hk => ⟨hk, (unhide HF u hb).block k (hS k hk)⟩) _ _ hJ, JV.keep (fun k hk => ⟨hk, (unhide HF u hb).block k (hS k hk)⟩) _ _ hJ', fun k hk => Nat.lt_of_lt_of_le (hS k hk) (unhide HF u hb).size⟩
  have HCa : Hid (∀ u, Below W.heap.size W u → Calls Tryz.prog 15 #[(.agg #[.int .i64 k, .int .i64 n, .string (str t), .slice a1 n1 c1, .slice a2 n2 c2])] u fun e w' => e = .returned (.int .i64 ((ck 16 a : Nat) : Int)) ∧ Hid (Below u.heap.size u w')) := fun u hb => rcheckJ_any a S _ u (unhide HA u hb).1 (unhide HA u hb).2.2 za
  have HCb : Hid (∀ u, Below W.heap.size W u → Calls Tryz.prog 15 #[(.agg #[.int .i64 k', .int .i64 n', .string (str t'), .slice b1 m1 d1, .slice b2 m2 d2])] u fun e w' => e = .returned (.int .i64 ((ck 16 b : Nat) : Int)) ∧ Hid (Below u.heap.size u w')) := fun u hb => rcheckJ_any b S _ u (unhide HA u hb).2.1 (unhide HA u hb).2.2 zb
  have HTa : Hid (ck 16 a = 0 → ∀ u, Below W.heap.size W u → Calls Tryz.prog 27 #[(.agg #[.int .i64 k, .int .i64 n, .string (str t), .slice a1 n1 c1, .slice a2 n2 c2])] u fun e w' => e = .returned (.string (str (prN 16 a))) ∧ Hid (Below u.heap.size u w')) := fun h u hb => text_any 16 a S _ u (unhide HA u hb).1 (unhide HA u hb).2.2 h za (by have := la h; omega)
  have HTb : Hid (ck 16 b = 0 → ∀ u, Below W.heap.size W u → Calls Tryz.prog 27 #[(.agg #[.int .i64 k', .int .i64 n', .string (str t'), .slice b1 m1 d1, .slice b2 m2 d2])] u fun e w' => e = .returned (.string (str (prN 16 b))) ∧ Hid (Below u.heap.size u w')) := fun h u hb => text_any 16 b S _ u (unhide HA u hb).2.1 (unhide HA u hb).2.2 h zb (by have := lb h; omega)
  have HR : Hid (rsM a b = (decide (ck 16 a = 0) && (decide (ck 16 b = 0) && decide (prN 16 a = prN 16 b)))) := rfl
  generalize rsM a b = R at HR ⊢
  generalize prN 16 a = Ta at HR HTa
  generalize prN 16 b = Tb at HR HTb
  generalize ck 16 a = Ea at HR HCa HTa
  generalize ck 16 b = Eb at HR HCb HTb
  clear hJ hJ' hS za zb la lb bW rV rX HA
  go_enter Tryz.func19, Tryz.ntmps19
  go_upto_region 1 with fail
  rw [← hW, ← hX, ← hV]
  clear hW hV hX
  by_cases ha : Ea = 0
  · by_cases hb : Eb = 0
    · subst ha
      subst hb
      simp only [show ((0 : Nat) : Int) = 0 from rfl] at HCa HCb
      have HRa : Hid (R = decide (Ta = Tb)) := by show _ = _; rw [unhide HR]; simp
      obtain ⟨E3, hE3⟩ : ∃ E3, E3 = decide (Ta = Tb) := ⟨_, rfl⟩
      rw [← hE3] at HRa
      have e3 : ((str Ta).toList == (str Tb).toList) = E3 := by rw [toList_str, toList_str, hE3]; by_cases h : Ta = Tb <;> simp [h]
      clear hE3 HR
      go_wp2_with fail
      obtain ⟨D, hD⟩ : ∃ D, D = W.drew := ⟨_, rfl⟩
      have HBD : Hid (Below W.heap.size W D) := by show Below _ _ _; rw [hD]; exact (Below.refl _ _).drew
      refine wp_region_held_drew (S := fun u => u.heap[V]? = some (.cells #[.int .i64 k, .int .i64 n, .string (str t), .slice a1 n1 c1, .slice a2 n2 c2] 25 (0, 0)) ∧ u.heap[X]? = some (.cells #[.int .i64 k', .int .i64 n', .string (str t'), .slice b1 m1 d1, .slice b2 m2 d2] 25 (0, 0))) (by kernel_rfl) (by rw [← hD]; exact unhide HKK D (unhide HBD)) (fun hHeld => ?_)
      rw [← hD] at hHeld ⊢
      clear hD
      refine wpAnyH_take (i := 0) (oi := ?_) (v := ?_) ?_ (by kernel_rfl) ?_ ?_ ?_ ?_ hHeld ?_
      rotate_left 2
      · (simp only [List.getElem?_toArray, List.getElem?_cons_zero]) <;> with_reducible rfl
      · kernel_rfl
      · kernel_rfl
      · exact fun _ _ _ h => h
      · exact Or.inl ⟨by rfl, by (intro w hSw; (try dsimp only at hSw); obtain ⟨sV, sX⟩ := hSw; obtain ⟨y0, y1, y2, y3, y4⟩ := cells5 sV; obtain ⟨x0, x1, x2, x3, x4⟩ := cells5 sX; go_simp <;> with_reducible rfl)⟩
      simp only [Act.put, List.setIfInBounds_toArray, List.set_cons_zero, List.set_cons_succ]
      refine wpAnyH_ready (rs := [1]) (by kernel_rfl) (by simp) ?rda
      refine AllReadyH.cons (o := ?oa) ?ha (fun K hK => ?ba) AllReadyH.nil
      case ha => (simp only [List.getElem?_toArray, List.getElem?_cons_succ, List.getElem?_cons_zero]) <;> with_reducible rfl
      case ba =>
        go_simp
        refine (unhide HCa D (unhide HBD)).mono ?_
        rintro e w1 ⟨rfl, hb⟩
        have HBw1 : Hid (Below W.heap.size W w1) := (unhide HBD).trans ((unhide hb).mono (unhide HBD).size)
        clear hb
        refine hK.out _ _ (unhide HKK w1 (unhide HBw1)) (fun hHeld => ?_)
        clear hK K
        try simp only [Act.put, List.setIfInBounds_toArray, List.set_cons_zero, List.set_cons_succ]
        refine wpAnyH_take (i := 2) (oi := ?_) (v := ?_) ?_ (by kernel_rfl) ?_ ?_ ?_ ?_ hHeld ?_
        rotate_left 2
        · (simp only [List.getElem?_toArray, List.getElem?_cons_succ, List.getElem?_cons_zero]) <;> with_reducible rfl
        · kernel_rfl
        · kernel_rfl
        · exact fun _ _ _ h => h
        · exact Or.inl ⟨by rfl, by (intro w hSw; (try dsimp only at hSw); obtain ⟨sV, sX⟩ := hSw; obtain ⟨y0, y1, y2, y3, y4⟩ := cells5 sV; obtain ⟨x0, x1, x2, x3, x4⟩ := cells5 sX; go_simp <;> with_reducible rfl)⟩
        simp only [Act.put, List.setIfInBounds_toArray, List.set_cons_zero, List.set_cons_succ]
        refine wpAnyH_take (i := 3) (oi := ?_) (v := ?_) ?_ (by kernel_rfl) ?_ ?_ ?_ ?_ hHeld ?_
        rotate_left 2
        · (simp only [List.getElem?_toArray, List.getElem?_cons_succ, List.getElem?_cons_zero]) <;> with_reducible rfl
        · kernel_rfl
        · kernel_rfl
        · exact fun _ _ _ h => h
        · exact Or.inl ⟨by rfl, by (intro w hSw; (try dsimp only at hSw); obtain ⟨sV, sX⟩ := hSw; obtain ⟨y0, y1, y2, y3, y4⟩ := cells5 sV; obtain ⟨x0, x1, x2, x3, x4⟩ := cells5 sX; go_simp <;> with_reducible rfl)⟩
        simp only [Act.put, List.setIfInBounds_toArray, List.set_cons_zero, List.set_cons_succ]
        refine wpAnyH_take (i := 4) (oi := ?_) (v := ?_) ?_ (by kernel_rfl) ?_ ?_ ?_ ?_ hHeld ?_
        rotate_left 2
        · (simp only [List.getElem?_toArray, List.getElem?_cons_succ, List.getElem?_cons_zero]) <;> with_reducible rfl
        · kernel_rfl
        · kernel_rfl
        · exact fun _ _ _ h => h
        · exact Or.inl ⟨by rfl, by (intro w hSw; (try dsimp only at hSw); obtain ⟨sV, sX⟩ := hSw; obtain ⟨y0, y1, y2, y3, y4⟩ := cells5 sV; obtain ⟨x0, x1, x2, x3, x4⟩ := cells5 sX; go_simp <;> with_reducible rfl)⟩
        simp only [Act.put, List.setIfInBounds_toArray, List.set_cons_zero, List.set_cons_succ]
        refine wpAnyH_ready (rs := [5]) (by kernel_rfl) (by simp) ?rdb
        refine AllReadyH.cons (o := ?ob) ?hb (fun K hK => ?bb) AllReadyH.nil
        case hb => (simp only [List.getElem?_toArray, List.getElem?_cons_succ, List.getElem?_cons_zero]) <;> with_reducible rfl
        case bb =>
          go_simp
          refine (unhide HCb w1 (unhide HBw1)).mono ?_
          rintro e w2 ⟨rfl, hb⟩
          have HBw2 : Hid (Below W.heap.size W w2) := (unhide HBw1).trans ((unhide hb).mono (unhide HBw1).size)
          clear hb
          refine hK.out _ _ (unhide HKK w2 (unhide HBw2)) (fun hHeld => ?_)
          clear hK K
          try simp only [Act.put, List.setIfInBounds_toArray, List.set_cons_zero, List.set_cons_succ]
          refine wpAnyH_take (i := 6) (oi := ?_) (v := ?_) ?_ (by kernel_rfl) ?_ ?_ ?_ ?_ hHeld ?_
          rotate_left 2
          · (simp only [List.getElem?_toArray, List.getElem?_cons_succ, List.getElem?_cons_zero]) <;> with_reducible rfl
          · kernel_rfl
          · kernel_rfl
          · exact fun _ _ _ h => h
          · exact Or.inl ⟨by rfl, by (intro w hSw; (try dsimp only at hSw); obtain ⟨sV, sX⟩ := hSw; obtain ⟨y0, y1, y2, y3, y4⟩ := cells5 sV; obtain ⟨x0, x1, x2, x3, x4⟩ := cells5 sX; go_simp <;> with_reducible rfl)⟩
          simp only [Act.put, List.setIfInBounds_toArray, List.set_cons_zero, List.set_cons_succ]
          refine wpAnyH_take (i := 7) (oi := ?_) (v := ?_) ?_ (by kernel_rfl) ?_ ?_ ?_ ?_ hHeld ?_
          rotate_left 2
          · (simp only [List.getElem?_toArray, List.getElem?_cons_succ, List.getElem?_cons_zero]) <;> with_reducible rfl
          · kernel_rfl
          · kernel_rfl
          · exact fun _ _ _ h => h
          · exact Or.inl ⟨by rfl, by (intro w hSw; (try dsimp only at hSw); obtain ⟨sV, sX⟩ := hSw; obtain ⟨y0, y1, y2, y3, y4⟩ := cells5 sV; obtain ⟨x0, x1, x2, x3, x4⟩ := cells5 sX; go_simp <;> with_reducible rfl)⟩
          simp only [Act.put, List.setIfInBounds_toArray, List.set_cons_zero, List.set_cons_succ]
          refine wpAnyH_take (i := 8) (oi := ?_) (v := ?_) ?_ (by kernel_rfl) ?_ ?_ ?_ ?_ hHeld ?_
          rotate_left 2
          · (simp only [List.getElem?_toArray, List.getElem?_cons_succ, List.getElem?_cons_zero]) <;> with_reducible rfl
          · kernel_rfl
          · kernel_rfl
          · exact fun _ _ _ h => h
          · exact Or.inl ⟨by rfl, by (intro w hSw; (try dsimp only at hSw); obtain ⟨sV, sX⟩ := hSw; obtain ⟨y0, y1, y2, y3, y4⟩ := cells5 sV; obtain ⟨x0, x1, x2, x3, x4⟩ := cells5 sX; go_simp <;> with_reducible rfl)⟩
          simp only [Act.put, List.setIfInBounds_toArray, List.set_cons_zero, List.set_cons_succ]
          refine wpAnyH_take (i := 9) (oi := ?_) (v := ?_) ?_ (by kernel_rfl) ?_ ?_ ?_ ?_ hHeld ?_
          rotate_left 2
          · (simp only [List.getElem?_toArray, List.getElem?_cons_succ, List.getElem?_cons_zero]) <;> with_reducible rfl
          · kernel_rfl
          · kernel_rfl
          · exact fun _ _ _ h => h
          · exact Or.inl ⟨by rfl, by (intro w hSw; (try dsimp only at hSw); obtain ⟨sV, sX⟩ := hSw; obtain ⟨y0, y1, y2, y3, y4⟩ := cells5 sV; obtain ⟨x0, x1, x2, x3, x4⟩ := cells5 sX; go_simp <;> with_reducible rfl)⟩
          simp only [Act.put, List.setIfInBounds_toArray, List.set_cons_zero, List.set_cons_succ]
          refine wpAnyH_take (i := 11) (oi := ?_) (v := ?_) ?_ (by kernel_rfl) ?_ ?_ ?_ ?_ hHeld ?_
          rotate_left 2
          · (simp only [List.getElem?_toArray, List.getElem?_cons_succ, List.getElem?_cons_zero]) <;> with_reducible rfl
          · kernel_rfl
          · kernel_rfl
          · exact fun _ _ _ h => h
          · exact Or.inl ⟨by rfl, by (intro w hSw; (try dsimp only at hSw); obtain ⟨sV, sX⟩ := hSw; obtain ⟨y0, y1, y2, y3, y4⟩ := cells5 sV; obtain ⟨x0, x1, x2, x3, x4⟩ := cells5 sX; go_simp <;> with_reducible rfl)⟩
          simp only [Act.put, List.setIfInBounds_toArray, List.set_cons_zero, List.set_cons_succ]
          refine wpAnyH_ready (rs := [10]) (by kernel_rfl) (by simp) ?rdc
          refine AllReadyH.cons (o := ?oc) ?hc (fun K hK => ?bc) AllReadyH.nil
          case hc => (simp only [List.getElem?_toArray, List.getElem?_cons_succ, List.getElem?_cons_zero]) <;> with_reducible rfl
          case bc =>
            go_simp
            refine (unhide HTa (by first | exact rfl | trivial) w2 (unhide HBw2)).mono ?_
            rintro e w3 ⟨rfl, hb⟩
            have HBw3 : Hid (Below W.heap.size W w3) := (unhide HBw2).trans ((unhide hb).mono (unhide HBw2).size)
            clear hb
            refine hK.out _ _ (unhide HKK w3 (unhide HBw3)) (fun hHeld => ?_)
            clear hK K
            try simp only [Act.put, List.setIfInBounds_toArray, List.set_cons_zero, List.set_cons_succ]
            refine wpAnyH_ready (rs := [12]) (by kernel_rfl) (by simp) ?rdd
            refine AllReadyH.cons (o := ?od) ?hd (fun K hK => ?bd) AllReadyH.nil
            case hd => (simp only [List.getElem?_toArray, List.getElem?_cons_succ, List.getElem?_cons_zero]) <;> with_reducible rfl
            case bd =>
              go_simp
              refine (unhide HTb (by first | exact rfl | trivial) w3 (unhide HBw3)).mono ?_
              rintro e w4 ⟨rfl, hb⟩
              have HBw4 : Hid (Below W.heap.size W w4) := (unhide HBw3).trans ((unhide hb).mono (unhide HBw3).size)
              clear hb
              refine hK.out _ _ (unhide HKK w4 (unhide HBw4)) (fun hHeld => ?_)
              clear hK K
              try simp only [Act.put, List.setIfInBounds_toArray, List.set_cons_zero, List.set_cons_succ]
              refine wpAnyH_take (i := 13) (oi := ?_) (v := ?_) ?_ (by kernel_rfl) ?_ ?_ ?_ ?_ hHeld ?_
              rotate_left 2
              · (simp only [List.getElem?_toArray, List.getElem?_cons_succ, List.getElem?_cons_zero]) <;> with_reducible rfl
              · kernel_rfl
              · kernel_rfl
              · exact fun _ _ _ h => h
              · exact Or.inl ⟨by rfl, by (intro w hSw; (try dsimp only at hSw); obtain ⟨sV, sX⟩ := hSw; obtain ⟨y0, y1, y2, y3, y4⟩ := cells5 sV; obtain ⟨x0, x1, x2, x3, x4⟩ := cells5 sX; go_simp <;> with_reducible rfl)⟩
              simp only [Act.put, List.setIfInBounds_toArray, List.set_cons_zero, List.set_cons_succ]
              refine wpAnyH_take (i := 14) (oi := ?_) (v := ?_) ?_ (by kernel_rfl) ?_ ?_ ?_ ?_ hHeld ?_
              rotate_left 2
              · (simp only [List.getElem?_toArray, List.getElem?_cons_succ, List.getElem?_cons_zero]) <;> with_reducible rfl
              · kernel_rfl
              · kernel_rfl
              · exact fun _ _ _ h => h
              · exact Or.inl ⟨by rfl, by (intro w hSw; (try dsimp only at hSw); obtain ⟨sV, sX⟩ := hSw; obtain ⟨y0, y1, y2, y3, y4⟩ := cells5 sV; obtain ⟨x0, x1, x2, x3, x4⟩ := cells5 sX; go_simp <;> with_reducible rfl)⟩
              simp only [Act.put, List.setIfInBounds_toArray, List.set_cons_zero, List.set_cons_succ]
              refine wpAnyH_take (i := 15) (oi := ?_) (v := ?_) ?_ (by kernel_rfl) ?_ ?_ ?_ ?_ hHeld ?_
              rotate_left 2
              · (simp only [List.getElem?_toArray, List.getElem?_cons_succ, List.getElem?_cons_zero]) <;> with_reducible rfl
              · kernel_rfl
              · kernel_rfl
              · exact fun _ _ _ h => h
              · exact Or.inl ⟨by rfl, by (intro w hSw; (try dsimp only at hSw); obtain ⟨sV, sX⟩ := hSw; obtain ⟨y0, y1, y2, y3, y4⟩ := cells5 sV; obtain ⟨x0, x1, x2, x3, x4⟩ := cells5 sX; go_simp <;> with_reducible rfl)⟩
              simp only [Act.put, List.setIfInBounds_toArray, List.set_cons_zero, List.set_cons_succ]
              refine wpAnyH_done (by kernel_rfl) ?_ _
              go_wp2_with fail
              go_ret
              rw [unhide HRa]
              exact ⟨rfl, unhide HF w4 (unhide HBw4)⟩
    · subst ha
      simp only [show ((0 : Nat) : Int) = 0 from rfl] at HCa
      have HRa : Hid (R = false) := by show _ = _; rw [unhide HR]; simp [hb]
      have e3 : (((Eb : Nat) : Int) == 0) = false := by simp; omega
      clear hb HR
      go_wp2_with fail
      obtain ⟨D, hD⟩ : ∃ D, D = W.drew := ⟨_, rfl⟩
      have HBD : Hid (Below W.heap.size W D) := by show Below _ _ _; rw [hD]; exact (Below.refl _ _).drew
      refine wp_region_held_drew (S := fun u => u.heap[V]? = some (.cells #[.int .i64 k, .int .i64 n, .string (str t), .slice a1 n1 c1, .slice a2 n2 c2] 25 (0, 0)) ∧ u.heap[X]? = some (.cells #[.int .i64 k', .int .i64 n', .string (str t'), .slice b1 m1 d1, .slice b2 m2 d2] 25 (0, 0))) (by kernel_rfl) (by rw [← hD]; exact unhide HKK D (unhide HBD)) (fun hHeld => ?_)
      rw [← hD] at hHeld ⊢
      clear hD
      refine wpAnyH_take (i := 0) (oi := ?_) (v := ?_) ?_ (by kernel_rfl) ?_ ?_ ?_ ?_ hHeld ?_
      rotate_left 2
      · (simp only [List.getElem?_toArray, List.getElem?_cons_zero]) <;> with_reducible rfl
      · kernel_rfl
      · kernel_rfl
      · exact fun _ _ _ h => h
      · exact Or.inl ⟨by rfl, by (intro w hSw; (try dsimp only at hSw); obtain ⟨sV, sX⟩ := hSw; obtain ⟨y0, y1, y2, y3, y4⟩ := cells5 sV; obtain ⟨x0, x1, x2, x3, x4⟩ := cells5 sX; go_simp <;> with_reducible rfl)⟩
      simp only [Act.put, List.setIfInBounds_toArray, List.set_cons_zero, List.set_cons_succ]
      refine wpAnyH_ready (rs := [1]) (by kernel_rfl) (by simp) ?rde
      refine AllReadyH.cons (o := ?oe) ?he (fun K hK => ?be) AllReadyH.nil
      case he => (simp only [List.getElem?_toArray, List.getElem?_cons_succ, List.getElem?_cons_zero]) <;> with_reducible rfl
      case be =>
        go_simp
        refine (unhide HCa D (unhide HBD)).mono ?_
        rintro e w1 ⟨rfl, hb⟩
        have HBw1 : Hid (Below W.heap.size W w1) := (unhide HBD).trans ((unhide hb).mono (unhide HBD).size)
        clear hb
        refine hK.out _ _ (unhide HKK w1 (unhide HBw1)) (fun hHeld => ?_)
        clear hK K
        try simp only [Act.put, List.setIfInBounds_toArray, List.set_cons_zero, List.set_cons_succ]
        refine wpAnyH_take (i := 2) (oi := ?_) (v := ?_) ?_ (by kernel_rfl) ?_ ?_ ?_ ?_ hHeld ?_
        rotate_left 2
        · (simp only [List.getElem?_toArray, List.getElem?_cons_succ, List.getElem?_cons_zero]) <;> with_reducible rfl
        · kernel_rfl
        · kernel_rfl
        · exact fun _ _ _ h => h
        · exact Or.inl ⟨by rfl, by (intro w hSw; (try dsimp only at hSw); obtain ⟨sV, sX⟩ := hSw; obtain ⟨y0, y1, y2, y3, y4⟩ := cells5 sV; obtain ⟨x0, x1, x2, x3, x4⟩ := cells5 sX; go_simp <;> with_reducible rfl)⟩
        simp only [Act.put, List.setIfInBounds_toArray, List.set_cons_zero, List.set_cons_succ]
        refine wpAnyH_take (i := 3) (oi := ?_) (v := ?_) ?_ (by kernel_rfl) ?_ ?_ ?_ ?_ hHeld ?_
        rotate_left 2
        · (simp only [List.getElem?_toArray, List.getElem?_cons_succ, List.getElem?_cons_zero]) <;> with_reducible rfl
        · kernel_rfl
        · kernel_rfl
        · exact fun _ _ _ h => h
        · exact Or.inl ⟨by rfl, by (intro w hSw; (try dsimp only at hSw); obtain ⟨sV, sX⟩ := hSw; obtain ⟨y0, y1, y2, y3, y4⟩ := cells5 sV; obtain ⟨x0, x1, x2, x3, x4⟩ := cells5 sX; go_simp <;> with_reducible rfl)⟩
        simp only [Act.put, List.setIfInBounds_toArray, List.set_cons_zero, List.set_cons_succ]
        refine wpAnyH_take (i := 4) (oi := ?_) (v := ?_) ?_ (by kernel_rfl) ?_ ?_ ?_ ?_ hHeld ?_
        rotate_left 2
        · (simp only [List.getElem?_toArray, List.getElem?_cons_succ, List.getElem?_cons_zero]) <;> with_reducible rfl
        · kernel_rfl
        · kernel_rfl
        · exact fun _ _ _ h => h
        · exact Or.inl ⟨by rfl, by (intro w hSw; (try dsimp only at hSw); obtain ⟨sV, sX⟩ := hSw; obtain ⟨y0, y1, y2, y3, y4⟩ := cells5 sV; obtain ⟨x0, x1, x2, x3, x4⟩ := cells5 sX; go_simp <;> with_reducible rfl)⟩
        simp only [Act.put, List.setIfInBounds_toArray, List.set_cons_zero, List.set_cons_succ]
        refine wpAnyH_ready (rs := [5]) (by kernel_rfl) (by simp) ?rdf
        refine AllReadyH.cons (o := ?of) ?hf (fun K hK => ?bf) AllReadyH.nil
        case hf => (simp only [List.getElem?_toArray, List.getElem?_cons_succ, List.getElem?_cons_zero]) <;> with_reducible rfl
        case bf =>
          go_simp
          refine (unhide HCb w1 (unhide HBw1)).mono ?_
          rintro e w2 ⟨rfl, hb⟩
          have HBw2 : Hid (Below W.heap.size W w2) := (unhide HBw1).trans ((unhide hb).mono (unhide HBw1).size)
          clear hb
          refine hK.out _ _ (unhide HKK w2 (unhide HBw2)) (fun hHeld => ?_)
          clear hK K
          try simp only [Act.put, List.setIfInBounds_toArray, List.set_cons_zero, List.set_cons_succ]
          refine wpAnyH_take (i := 6) (oi := ?_) (v := ?_) ?_ (by kernel_rfl) ?_ ?_ ?_ ?_ hHeld ?_
          rotate_left 2
          · (simp only [List.getElem?_toArray, List.getElem?_cons_succ, List.getElem?_cons_zero]) <;> with_reducible rfl
          · kernel_rfl
          · kernel_rfl
          · exact fun _ _ _ h => h
          · exact Or.inl ⟨by rfl, by (intro w hSw; (try dsimp only at hSw); obtain ⟨sV, sX⟩ := hSw; obtain ⟨y0, y1, y2, y3, y4⟩ := cells5 sV; obtain ⟨x0, x1, x2, x3, x4⟩ := cells5 sX; go_simp <;> with_reducible rfl)⟩
          simp only [Act.put, List.setIfInBounds_toArray, List.set_cons_zero, List.set_cons_succ]
          refine wpAnyH_take (i := 7) (oi := ?_) (v := ?_) ?_ (by kernel_rfl) ?_ ?_ ?_ ?_ hHeld ?_
          rotate_left 2
          · (simp only [List.getElem?_toArray, List.getElem?_cons_succ, List.getElem?_cons_zero]) <;> with_reducible rfl
          · kernel_rfl
          · kernel_rfl
          · exact fun _ _ _ h => h
          · exact Or.inl ⟨by rfl, by (intro w hSw; (try dsimp only at hSw); obtain ⟨sV, sX⟩ := hSw; obtain ⟨y0, y1, y2, y3, y4⟩ := cells5 sV; obtain ⟨x0, x1, x2, x3, x4⟩ := cells5 sX; go_simp <;> with_reducible rfl)⟩
          simp only [Act.put, List.setIfInBounds_toArray, List.set_cons_zero, List.set_cons_succ]
          refine wpAnyH_take (i := 8) (oi := ?_) (v := ?_) ?_ (by kernel_rfl) ?_ ?_ ?_ ?_ hHeld ?_
          rotate_left 2
          · (simp only [List.getElem?_toArray, List.getElem?_cons_succ, List.getElem?_cons_zero]) <;> with_reducible rfl
          · kernel_rfl
          · kernel_rfl
          · exact fun _ _ _ h => h
          · exact Or.inl ⟨by rfl, by (intro w hSw; (try dsimp only at hSw); obtain ⟨sV, sX⟩ := hSw; obtain ⟨y0, y1, y2, y3, y4⟩ := cells5 sV; obtain ⟨x0, x1, x2, x3, x4⟩ := cells5 sX; go_simp <;> with_reducible rfl)⟩
          simp only [Act.put, List.setIfInBounds_toArray, List.set_cons_zero, List.set_cons_succ]
          refine wpAnyH_take (i := 9) (oi := ?_) (v := undef) ?_ (by kernel_rfl) ?_ ?_ ?_ ?_ hHeld ?_
          rotate_left 1
          · (simp only [List.getElem?_toArray, List.getElem?_cons_succ, List.getElem?_cons_zero]) <;> with_reducible rfl
          · kernel_rfl
          · kernel_rfl
          · exact fun _ _ _ h => h
          · exact Or.inr ⟨by rfl, rfl⟩
          simp only [Act.put, List.setIfInBounds_toArray, List.set_cons_zero, List.set_cons_succ]
          refine wpAnyH_take (i := 10) (oi := ?_) (v := undef) ?_ (by kernel_rfl) ?_ ?_ ?_ ?_ hHeld ?_
          rotate_left 1
          · (simp only [List.getElem?_toArray, List.getElem?_cons_succ, List.getElem?_cons_zero]) <;> with_reducible rfl
          · kernel_rfl
          · kernel_rfl
          · exact fun _ _ _ h => h
          · exact Or.inr ⟨by rfl, rfl⟩
          simp only [Act.put, List.setIfInBounds_toArray, List.set_cons_zero, List.set_cons_succ]
          refine wpAnyH_take (i := 11) (oi := ?_) (v := undef) ?_ (by kernel_rfl) ?_ ?_ ?_ ?_ hHeld ?_
          rotate_left 1
          · (simp only [List.getElem?_toArray, List.getElem?_cons_succ, List.getElem?_cons_zero]) <;> with_reducible rfl
          · kernel_rfl
          · kernel_rfl
          · exact fun _ _ _ h => h
          · exact Or.inr ⟨by rfl, rfl⟩
          simp only [Act.put, List.setIfInBounds_toArray, List.set_cons_zero, List.set_cons_succ]
          refine wpAnyH_take (i := 12) (oi := ?_) (v := undef) ?_ (by kernel_rfl) ?_ ?_ ?_ ?_ hHeld ?_
          rotate_left 1
          · (simp only [List.getElem?_toArray, List.getElem?_cons_succ, List.getElem?_cons_zero]) <;> with_reducible rfl
          · kernel_rfl
          · kernel_rfl
          · exact fun _ _ _ h => h
          · exact Or.inr ⟨by rfl, rfl⟩
          simp only [Act.put, List.setIfInBounds_toArray, List.set_cons_zero, List.set_cons_succ]
          refine wpAnyH_take (i := 13) (oi := ?_) (v := undef) ?_ (by kernel_rfl) ?_ ?_ ?_ ?_ hHeld ?_
          rotate_left 1
          · (simp only [List.getElem?_toArray, List.getElem?_cons_succ, List.getElem?_cons_zero]) <;> with_reducible rfl
          · kernel_rfl
          · kernel_rfl
          · exact fun _ _ _ h => h
          · exact Or.inr ⟨by rfl, rfl⟩
          simp only [Act.put, List.setIfInBounds_toArray, List.set_cons_zero, List.set_cons_succ]
          refine wpAnyH_take (i := 14) (oi := ?_) (v := ?_) ?_ (by kernel_rfl) ?_ ?_ ?_ ?_ hHeld ?_
          rotate_left 2
          · (simp only [List.getElem?_toArray, List.getElem?_cons_succ, List.getElem?_cons_zero]) <;> with_reducible rfl
          · kernel_rfl
          · kernel_rfl
          · exact fun _ _ _ h => h
          · exact Or.inl ⟨by rfl, by (intro w hSw; (try dsimp only at hSw); obtain ⟨sV, sX⟩ := hSw; obtain ⟨y0, y1, y2, y3, y4⟩ := cells5 sV; obtain ⟨x0, x1, x2, x3, x4⟩ := cells5 sX; go_simp <;> with_reducible rfl)⟩
          simp only [Act.put, List.setIfInBounds_toArray, List.set_cons_zero, List.set_cons_succ]
          refine wpAnyH_take (i := 15) (oi := ?_) (v := ?_) ?_ (by kernel_rfl) ?_ ?_ ?_ ?_ hHeld ?_
          rotate_left 2
          · (simp only [List.getElem?_toArray, List.getElem?_cons_succ, List.getElem?_cons_zero]) <;> with_reducible rfl
          · kernel_rfl
          · kernel_rfl
          · exact fun _ _ _ h => h
          · exact Or.inl ⟨by rfl, by (intro w hSw; (try dsimp only at hSw); obtain ⟨sV, sX⟩ := hSw; obtain ⟨y0, y1, y2, y3, y4⟩ := cells5 sV; obtain ⟨x0, x1, x2, x3, x4⟩ := cells5 sX; go_simp <;> with_reducible rfl)⟩
          simp only [Act.put, List.setIfInBounds_toArray, List.set_cons_zero, List.set_cons_succ]
          refine wpAnyH_done (by kernel_rfl) ?_ _
          go_wp2_with fail
          go_ret
          rw [unhide HRa]
          exact ⟨rfl, unhide HF w2 (unhide HBw2)⟩
  · have HRa : Hid (R = false) := by show _ = _; rw [unhide HR]; simp [ha]
    have e3 : (((Ea : Nat) : Int) == 0) = false := by simp; omega
    clear ha HR
    go_wp2_with fail
    obtain ⟨D, hD⟩ : ∃ D, D = W.drew := ⟨_, rfl⟩
    have HBD : Hid (Below W.heap.size W D) := by show Below _ _ _; rw [hD]; exact (Below.refl _ _).drew
    refine wp_region_held_drew (S := fun u => u.heap[V]? = some (.cells #[.int .i64 k, .int .i64 n, .string (str t), .slice a1 n1 c1, .slice a2 n2 c2] 25 (0, 0)) ∧ u.heap[X]? = some (.cells #[.int .i64 k', .int .i64 n', .string (str t'), .slice b1 m1 d1, .slice b2 m2 d2] 25 (0, 0))) (by kernel_rfl) (by rw [← hD]; exact unhide HKK D (unhide HBD)) (fun hHeld => ?_)
    rw [← hD] at hHeld ⊢
    clear hD
    refine wpAnyH_take (i := 0) (oi := ?_) (v := ?_) ?_ (by kernel_rfl) ?_ ?_ ?_ ?_ hHeld ?_
    rotate_left 2
    · (simp only [List.getElem?_toArray, List.getElem?_cons_zero]) <;> with_reducible rfl
    · kernel_rfl
    · kernel_rfl
    · exact fun _ _ _ h => h
    · exact Or.inl ⟨by rfl, by (intro w hSw; (try dsimp only at hSw); obtain ⟨sV, sX⟩ := hSw; obtain ⟨y0, y1, y2, y3, y4⟩ := cells5 sV; obtain ⟨x0, x1, x2, x3, x4⟩ := cells5 sX; go_simp <;> with_reducible rfl)⟩
    simp only [Act.put, List.setIfInBounds_toArray, List.set_cons_zero, List.set_cons_succ]
    refine wpAnyH_ready (rs := [1]) (by kernel_rfl) (by simp) ?rdg
    refine AllReadyH.cons (o := ?og) ?hg (fun K hK => ?bg) AllReadyH.nil
    case hg => (simp only [List.getElem?_toArray, List.getElem?_cons_succ, List.getElem?_cons_zero]) <;> with_reducible rfl
    case bg =>
      go_simp
      refine (unhide HCa D (unhide HBD)).mono ?_
      rintro e w1 ⟨rfl, hb⟩
      have HBw1 : Hid (Below W.heap.size W w1) := (unhide HBD).trans ((unhide hb).mono (unhide HBD).size)
      clear hb
      refine hK.out _ _ (unhide HKK w1 (unhide HBw1)) (fun hHeld => ?_)
      clear hK K
      try simp only [Act.put, List.setIfInBounds_toArray, List.set_cons_zero, List.set_cons_succ]
      refine wpAnyH_take (i := 2) (oi := ?_) (v := ?_) ?_ (by kernel_rfl) ?_ ?_ ?_ ?_ hHeld ?_
      rotate_left 2
      · (simp only [List.getElem?_toArray, List.getElem?_cons_succ, List.getElem?_cons_zero]) <;> with_reducible rfl
      · kernel_rfl
      · kernel_rfl
      · exact fun _ _ _ h => h
      · exact Or.inl ⟨by rfl, by (intro w hSw; (try dsimp only at hSw); obtain ⟨sV, sX⟩ := hSw; obtain ⟨y0, y1, y2, y3, y4⟩ := cells5 sV; obtain ⟨x0, x1, x2, x3, x4⟩ := cells5 sX; go_simp <;> with_reducible rfl)⟩
      simp only [Act.put, List.setIfInBounds_toArray, List.set_cons_zero, List.set_cons_succ]
      refine wpAnyH_take (i := 3) (oi := ?_) (v := ?_) ?_ (by kernel_rfl) ?_ ?_ ?_ ?_ hHeld ?_
      rotate_left 2
      · (simp only [List.getElem?_toArray, List.getElem?_cons_succ, List.getElem?_cons_zero]) <;> with_reducible rfl
      · kernel_rfl
      · kernel_rfl
      · exact fun _ _ _ h => h
      · exact Or.inl ⟨by rfl, by (intro w hSw; (try dsimp only at hSw); obtain ⟨sV, sX⟩ := hSw; obtain ⟨y0, y1, y2, y3, y4⟩ := cells5 sV; obtain ⟨x0, x1, x2, x3, x4⟩ := cells5 sX; go_simp <;> with_reducible rfl)⟩
      simp only [Act.put, List.setIfInBounds_toArray, List.set_cons_zero, List.set_cons_succ]
      refine wpAnyH_take (i := 4) (oi := ?_) (v := undef) ?_ (by kernel_rfl) ?_ ?_ ?_ ?_ hHeld ?_
      rotate_left 1
      · (simp only [List.getElem?_toArray, List.getElem?_cons_succ, List.getElem?_cons_zero]) <;> with_reducible rfl
      · kernel_rfl
      · kernel_rfl
      · exact fun _ _ _ h => h
      · exact Or.inr ⟨by rfl, rfl⟩
      simp only [Act.put, List.setIfInBounds_toArray, List.set_cons_zero, List.set_cons_succ]
      refine wpAnyH_take (i := 5) (oi := ?_) (v := undef) ?_ (by kernel_rfl) ?_ ?_ ?_ ?_ hHeld ?_
      rotate_left 1
      · (simp only [List.getElem?_toArray, List.getElem?_cons_succ, List.getElem?_cons_zero]) <;> with_reducible rfl
      · kernel_rfl
      · kernel_rfl
      · exact fun _ _ _ h => h
      · exact Or.inr ⟨by rfl, rfl⟩
      simp only [Act.put, List.setIfInBounds_toArray, List.set_cons_zero, List.set_cons_succ]
      refine wpAnyH_take (i := 6) (oi := ?_) (v := undef) ?_ (by kernel_rfl) ?_ ?_ ?_ ?_ hHeld ?_
      rotate_left 1
      · (simp only [List.getElem?_toArray, List.getElem?_cons_succ, List.getElem?_cons_zero]) <;> with_reducible rfl
      · kernel_rfl
      · kernel_rfl
      · exact fun _ _ _ h => h
      · exact Or.inr ⟨by rfl, rfl⟩
      simp only [Act.put, List.setIfInBounds_toArray, List.set_cons_zero, List.set_cons_succ]
      refine wpAnyH_take (i := 7) (oi := ?_) (v := ?_) ?_ (by kernel_rfl) ?_ ?_ ?_ ?_ hHeld ?_
      rotate_left 2
      · (simp only [List.getElem?_toArray, List.getElem?_cons_succ, List.getElem?_cons_zero]) <;> with_reducible rfl
      · kernel_rfl
      · kernel_rfl
      · exact fun _ _ _ h => h
      · exact Or.inl ⟨by rfl, by (intro w hSw; (try dsimp only at hSw); obtain ⟨sV, sX⟩ := hSw; obtain ⟨y0, y1, y2, y3, y4⟩ := cells5 sV; obtain ⟨x0, x1, x2, x3, x4⟩ := cells5 sX; go_simp <;> with_reducible rfl)⟩
      simp only [Act.put, List.setIfInBounds_toArray, List.set_cons_zero, List.set_cons_succ]
      refine wpAnyH_take (i := 8) (oi := ?_) (v := ?_) ?_ (by kernel_rfl) ?_ ?_ ?_ ?_ hHeld ?_
      rotate_left 2
      · (simp only [List.getElem?_toArray, List.getElem?_cons_succ, List.getElem?_cons_zero]) <;> with_reducible rfl
      · kernel_rfl
      · kernel_rfl
      · exact fun _ _ _ h => h
      · exact Or.inl ⟨by rfl, by (intro w hSw; (try dsimp only at hSw); obtain ⟨sV, sX⟩ := hSw; obtain ⟨y0, y1, y2, y3, y4⟩ := cells5 sV; obtain ⟨x0, x1, x2, x3, x4⟩ := cells5 sX; go_simp <;> with_reducible rfl)⟩
      simp only [Act.put, List.setIfInBounds_toArray, List.set_cons_zero, List.set_cons_succ]
      refine wpAnyH_take (i := 9) (oi := ?_) (v := undef) ?_ (by kernel_rfl) ?_ ?_ ?_ ?_ hHeld ?_
      rotate_left 1
      · (simp only [List.getElem?_toArray, List.getElem?_cons_succ, List.getElem?_cons_zero]) <;> with_reducible rfl
      · kernel_rfl
      · kernel_rfl
      · exact fun _ _ _ h => h
      · exact Or.inr ⟨by rfl, rfl⟩
      simp only [Act.put, List.setIfInBounds_toArray, List.set_cons_zero, List.set_cons_succ]
      refine wpAnyH_take (i := 10) (oi := ?_) (v := undef) ?_ (by kernel_rfl) ?_ ?_ ?_ ?_ hHeld ?_
      rotate_left 1
      · (simp only [List.getElem?_toArray, List.getElem?_cons_succ, List.getElem?_cons_zero]) <;> with_reducible rfl
      · kernel_rfl
      · kernel_rfl
      · exact fun _ _ _ h => h
      · exact Or.inr ⟨by rfl, rfl⟩
      simp only [Act.put, List.setIfInBounds_toArray, List.set_cons_zero, List.set_cons_succ]
      refine wpAnyH_take (i := 11) (oi := ?_) (v := undef) ?_ (by kernel_rfl) ?_ ?_ ?_ ?_ hHeld ?_
      rotate_left 1
      · (simp only [List.getElem?_toArray, List.getElem?_cons_succ, List.getElem?_cons_zero]) <;> with_reducible rfl
      · kernel_rfl
      · kernel_rfl
      · exact fun _ _ _ h => h
      · exact Or.inr ⟨by rfl, rfl⟩
      simp only [Act.put, List.setIfInBounds_toArray, List.set_cons_zero, List.set_cons_succ]
      refine wpAnyH_take (i := 12) (oi := ?_) (v := undef) ?_ (by kernel_rfl) ?_ ?_ ?_ ?_ hHeld ?_
      rotate_left 1
      · (simp only [List.getElem?_toArray, List.getElem?_cons_succ, List.getElem?_cons_zero]) <;> with_reducible rfl
      · kernel_rfl
      · kernel_rfl
      · exact fun _ _ _ h => h
      · exact Or.inr ⟨by rfl, rfl⟩
      simp only [Act.put, List.setIfInBounds_toArray, List.set_cons_zero, List.set_cons_succ]
      refine wpAnyH_take (i := 13) (oi := ?_) (v := undef) ?_ (by kernel_rfl) ?_ ?_ ?_ ?_ hHeld ?_
      rotate_left 1
      · (simp only [List.getElem?_toArray, List.getElem?_cons_succ, List.getElem?_cons_zero]) <;> with_reducible rfl
      · kernel_rfl
      · kernel_rfl
      · exact fun _ _ _ h => h
      · exact Or.inr ⟨by rfl, rfl⟩
      simp only [Act.put, List.setIfInBounds_toArray, List.set_cons_zero, List.set_cons_succ]
      refine wpAnyH_take (i := 14) (oi := ?_) (v := ?_) ?_ (by kernel_rfl) ?_ ?_ ?_ ?_ hHeld ?_
      rotate_left 2
      · (simp only [List.getElem?_toArray, List.getElem?_cons_succ, List.getElem?_cons_zero]) <;> with_reducible rfl
      · kernel_rfl
      · kernel_rfl
      · exact fun _ _ _ h => h
      · exact Or.inl ⟨by rfl, by (intro w hSw; (try dsimp only at hSw); obtain ⟨sV, sX⟩ := hSw; obtain ⟨y0, y1, y2, y3, y4⟩ := cells5 sV; obtain ⟨x0, x1, x2, x3, x4⟩ := cells5 sX; go_simp <;> with_reducible rfl)⟩
      simp only [Act.put, List.setIfInBounds_toArray, List.set_cons_zero, List.set_cons_succ]
      refine wpAnyH_take (i := 15) (oi := ?_) (v := ?_) ?_ (by kernel_rfl) ?_ ?_ ?_ ?_ hHeld ?_
      rotate_left 2
      · (simp only [List.getElem?_toArray, List.getElem?_cons_succ, List.getElem?_cons_zero]) <;> with_reducible rfl
      · kernel_rfl
      · kernel_rfl
      · exact fun _ _ _ h => h
      · exact Or.inl ⟨by rfl, by (intro w hSw; (try dsimp only at hSw); obtain ⟨sV, sX⟩ := hSw; obtain ⟨y0, y1, y2, y3, y4⟩ := cells5 sV; obtain ⟨x0, x1, x2, x3, x4⟩ := cells5 sX; go_simp <;> with_reducible rfl)⟩
      simp only [Act.put, List.setIfInBounds_toArray, List.set_cons_zero, List.set_cons_succ]
      refine wpAnyH_done (by kernel_rfl) ?_ _
      go_wp2_with fail
      go_ret
      rw [unhide HRa]
      exact ⟨rfl, unhide HF w1 (unhide HBw1)⟩
#print axioms rsame_any
end Go.Proofs.YtbnbngmnoffmkaaGreatDoor
end
section
set_option linter.unusedVariables false
set_option maxRecDepth 1000000
namespace Go.Proofs.YtbnbngmnoffmkaaGreatDoor
open Go.RowKit

def nmW (ns : List (List UInt8)) : Nat := (ns.map fun s => s.length / 16).sum
theorem smN_eq : ∀ (ns : List (List UInt8)) (l l' : Int), smN l ns = some l' → l' = l - (nmW ns : Int)
  | [], l, l', h => by simp only [smN, Option.some.injEq] at h; subst h; simp [nmW]
  | s :: r, l, l', h => by
    simp only [smN] at h
    split at h
    · cases h
    · have := smN_eq r _ l' h
      unfold nmW at this ⊢
      simp only [List.map_cons, List.sum_cons]
      omega
theorem quo_le (s : List UInt8) : (quo s).length ≤ 6 * s.length + 2 := by
  have := qtA_len s
  unfold quo
  simp
  omega
theorem joF_sum : ∀ (L : List (List UInt8)) (f : Bool), (joF f L).length ≤ (L.map fun x => x.length + 1).sum
  | [], f => by simp [joF]
  | x :: r, f => by
    have := joF_sum r false
    unfold joF
    simp only [List.length_append, List.map_cons, List.sum_cons]
    split <;> simp <;> omega
theorem sum_perm {a b : List Nat} (h : a.Perm b) : a.sum = b.sum := by
  induction h with
  | nil => rfl
  | cons x _ ih => simp only [List.sum_cons]; omega
  | swap x y l => simp only [List.sum_cons]; omega
  | trans _ _ i1 i2 => omega
theorem map_getD (is : List Js) : (List.range is.length).map (fun i => is.getD i Js.nul) = is := by
  apply List.ext_getElem
  · simp
  · intro i h1 h2
    simp only [List.getElem_map, List.getElem_range]
    rw [List.getD_eq_getElem?_getD, List.getElem?_eq_getElem h2]
    rfl
theorem sum_add (f g : Nat → Nat) : ∀ l : List Nat, (l.map fun i => f i + g i).sum = (l.map f).sum + (l.map g).sum
  | [] => rfl
  | x :: r => by
    have := sum_add f g r
    simp only [List.map_cons, List.sum_cons]
    omega
theorem names_le : ∀ ns : List (List UInt8), (ns.map fun s => (quo s).length + 1).sum ≤ 96 * nmW ns + 93 * ns.length
  | [] => by simp [nmW]
  | s :: r => by
    have h1 := names_le r
    have h2 := quo_le s
    unfold nmW at h1 ⊢
    simp only [List.map_cons, List.sum_cons, List.length_cons]
    omega
theorem smL_sum (n : Nat) (deep : Int) : ∀ (is : List Js) (l l' : Int), (∀ x ∈ is, ∀ a b, smJ deep a x = some b → ((prN n x).length : Int) + 1 ≤ 128 * (a - b)) → smL deep l is = some l' → (((is.map fun x => (prN n x).length + 1).sum : Nat) : Int) ≤ 128 * (l - l')
  | [], l, l', _, h => by simp only [smL, Option.some.injEq] at h; subst h; simp
  | j :: r, l, l', hr, h => by
    simp only [smL] at h
    cases hj : smJ deep l j with
    | none => rw [hj] at h; cases h
    | some z =>
      rw [hj] at h
      have h1 := hr j List.mem_cons_self l z hj
      have h2 := smL_sum n deep r z l' (fun x hx => hr x (List.mem_cons_of_mem _ hx)) h
      simp only [List.map_cons, List.sum_cons]
      omega
theorem itoa_le (n : Int) (h0 : -9223372036854775808 ≤ n) (h1 : n ≤ 9223372036854775807) : (Lib.itoa n).length ≤ 21 := Lib.itoa_length_le n h0 h1
/-- A text's length off what smJ takes. -/
theorem text_bound : ∀ (n : Nat) (j : Js) (deep l l' : Int), ck n j = 0 → Sz j → smJ deep l j = some l' → ((prN n j).length : Int) + 1 ≤ 128 * (l - l')
  | n, .mk k i t ns is, deep, l, l', hck, hz, h => by
    obtain ⟨hw, hnd, h45⟩ := ck_zero n k i t ns is hck
    simp only [Sz] at hz
    obtain ⟨hz1, _, _, _, _, hz6⟩ := hz
    simp only [smJ] at h
    split at h
    · cases h
    · rename_i hc
      cases hn : smN (l - (1 + (ns.length : Int))) ns with
      | none => rw [hn] at h; cases h
      | some l2 =>
        rw [hn] at h
        have e2 := smN_eq ns _ l2 hn
        simp only at h
        cases hl : smL (deep + 1) (l2 - ((t.length / 16 : Nat) : Int)) is with
        | none => rw [hl] at h; cases h
        | some l4 =>
          rw [hl] at h
          simp only at h
          split at h
          · simp only [Option.some.injEq] at h
            subst h
            by_cases hk4 : k < 4
            · obtain ⟨rfl, rfl, hkk⟩ := wf_flat hw hk4
              simp only [smL, Option.some.injEq] at hl
              obtain ⟨P, hP⟩ := prN_F n (.mk k i t [] [])
              rw [hP]
              simp only [nmW, List.map_nil, List.sum_nil, List.length_nil] at e2
              rcases hkk with ⟨rfl, rfl, rfl⟩ | ⟨rfl, hi, rfl⟩ | ⟨rfl, rfl⟩ | ⟨rfl, rfl, _⟩
              · have e : prF P (.mk 0 0 [] [] []) = [110, 117, 108, 108] := rfl
                rw [e]; simp at hl ⊢; omega
              · rcases hi with rfl | rfl
                · have e : prF P (.mk 1 0 [] [] []) = [102, 97, 108, 115, 101] := rfl
                  rw [e]; simp at hl ⊢; omega
                · have e : prF P (.mk 1 1 [] [] []) = [116, 114, 117, 101] := rfl
                  rw [e]; simp at hl ⊢; omega
              · have e : prF P (.mk 2 i [] [] []) = Lib.itoa i := rfl
                have := itoa_le i hz1.1 hz1.2
                rw [e]; simp at hl; omega
              · have e : prF P (.mk 3 0 t [] []) = quo t := rfl
                have := quo_le t
                rw [e]; omega
            · obtain ⟨hkk, _⟩ := wf_kind hw
              have hk : k = 4 ∨ k = 5 := by omega
              obtain ⟨m, e, hit⟩ := h45 hk
              subst e
              have hS := smL_sum m (deep + 1) is _ l4 (fun x hx a b hab => text_bound m x (deep + 1) a b (hit x hx) ((szs_iff is).1 hz6 x hx) hab) hl
              rcases hk with rfl | rfl
              · obtain ⟨rfl, rfl, rfl⟩ := wf4 hw rfl
                have e : prN (m + 1) (.mk 4 0 [] [] is) = [91] ++ joF true (is.map (prN m)) ++ [93] := pr4 (prN m) 0 [] [] is
                have hj := joF_sum (is.map (prN m)) true
                rw [List.map_map] at hj
                have hj2 : (joF true (is.map (prN m))).length ≤ (is.map fun x => (prN m x).length + 1).sum := hj
                rw [e]
                simp [nmW] at e2 hS ⊢
                omega
              · obtain ⟨rfl, rfl, hnl, _⟩ := wf5 hw rfl
                have e : prN (m + 1) (.mk 5 0 [] ns is) = [123] ++ joF true ((ordS ns).map (memP (prN m) ns is)) ++ [125] := pr5 (prN m) 0 [] ns is
                have hj := joF_sum ((ordS ns).map (memP (prN m) ns is)) true
                have hp := sum_perm (((ordS_ris ns).1.map (memP (prN m) ns is)).map fun x => x.length + 1)
                rw [hp, List.map_map] at hj
                have hf : ∀ q, (memP (prN m) ns is q).length + 1 = ((quo (nmA ns q)).length + 1) + ((prN m (is.getD q Js.nul)).length + 1) := fun q => by
                  unfold memP
                  simp only [List.length_append, List.length_cons, List.length_nil]
                  omega
                have hj2 : (joF true ((ordS ns).map (memP (prN m) ns is))).length ≤ ((List.range ns.length).map fun q => ((quo (nmA ns q)).length + 1) + ((prN m (is.getD q Js.nul)).length + 1)).sum := by
                  refine Nat.le_trans hj (Nat.le_of_eq (congrArg List.sum (List.map_congr_left (fun q _ => hf q))))
                rw [sum_add] at hj2
                have q1 : ((List.range ns.length).map fun q => (quo (nmA ns q)).length + 1) = ns.map fun s => (quo s).length + 1 := by
                  have := congrArg (List.map fun s => (quo s).length + 1) (map_nmA ns)
                  rw [List.map_map] at this
                  exact this
                have q2 : ((List.range ns.length).map fun q => (prN m (is.getD q Js.nul)).length + 1) = is.map fun x => (prN m x).length + 1 := by
                  have := congrArg (List.map fun x => (prN m x).length + 1) (map_getD is)
                  rw [List.map_map] at this
                  rw [hnl]
                  exact this
                rw [q1, q2] at hj2
                have hn2 := names_le ns
                rw [e]
                simp only [List.length_nil] at e2 hS
                simp only [List.length_append, List.length_cons, List.length_nil]
                simp at hS
                omega
          · cases h
theorem can_bound (j : Js) (hi : Ib j) (hc : canM j = true) (hck : ck 16 j = 0) : (prN 16 j).length ≤ 1000000 := by
  have hz := canM_sz j hi hc
  unfold canM at hc
  obtain ⟨l', hl⟩ := Option.isSome_iff_exists.1 hc
  have h1 := text_bound 16 j 0 5000 l' hck hz hl
  have h2 := smJ_good _ j 0 5000 l' (Nat.lt_succ_self _) hi (by omega) hl
  omega
#print axioms can_bound
end Go.Proofs.YtbnbngmnoffmkaaGreatDoor
end
section
set_option linter.unusedVariables false
set_option maxRecDepth 1000000
namespace Go.Proofs.YtbnbngmnoffmkaaGreatDoor
open Go.RowKit

set_option maxHeartbeats 16000000 in
theorem jgets_any (name : List UInt8) (j j' : Js) (v v' : Value) (w : World) (hJ : JV w (Al w) v j) (hJ' : JV w (Al w) v' j') (hi : Ib j) (hi' : Ib j') (hE : Env4 w) :
    Calls Tryz.prog 5 #[v, v', .string (str name)] w fun e w' => e = .returned (.bool true) ∧ Hid (Below w.heap.size w w') := by
  obtain ⟨vk, vn, vt, va1, vn1, vc1, va2, vn2, vc2, rfl⟩ := hJ.form
  obtain ⟨zk, zn, zt, za1, zn1, zc1, za2, zn2, zc2, rfl⟩ := hJ'.form
  have HEn : Hid (∀ u, Below w.heap.size w u → Env4 u) := fun u hb => hE.below hb
  have HAW : Hid (∀ u, Below w.heap.size w u → Calls Tryz.prog 9 #[] u fun e w' => e = .returned (.bool true) ∧ Hid (Below u.heap.size u w')) := fun u hb => awake4 u (hE.below hb)
  obtain ⟨V, hV⟩ : ∃ V, V = w.heap.size := ⟨_, rfl⟩
  obtain ⟨X, hX⟩ : ∃ X, X = w.heap.size + 1 := ⟨_, rfl⟩
  obtain ⟨W1, hW1⟩ : ∃ W1, W1 = w.alloc (.cells #[.int .i64 vk, .int .i64 vn, .string (str vt), .slice va1 vn1 vc1, .slice va2 vn2 vc2] 25) := ⟨_, rfl⟩
  obtain ⟨W, hW⟩ : ∃ W, W = W1.alloc (.cells #[.int .i64 zk, .int .i64 zn, .string (str zt), .slice za1 zn1 zc1, .slice za2 zn2 zc2] 25) := ⟨_, rfl⟩
  obtain ⟨hb1, bW1⟩ := Bj.made hJ (fun k hk => hk) W1 hW1
  obtain ⟨hb2, bW2⟩ := Bj.made (JV.al hJ' (fun k hk => hk) bW1) (fun k hk => hk) W hW
  have sW1 : W1.heap.size = X := by rw [hW1, hX]; simp
  rw [sW1] at hb2
  rw [← hV] at hb1
  have hb1 := hb1.below bW2
  have HWW : Hid (Below w.heap.size w W) := bW1.trans (bW2.mono bW1.size)
  have HV := hide hb1
  have HX := hide hb2
  have HCN := hide (can_any j (Al W) _ W hb1.jv (fun k hk => hk) hi)
  have HCX : Hid (∀ u, Below W.heap.size W u → Calls Tryz.prog 10 #[(.agg #[.int .i64 zk, .int .i64 zn, .string (str zt), .slice za1 zn1 zc1, .slice za2 zn2 zc2])] u fun e w' => e = .returned (.bool (canM j')) ∧ Hid (Below u.heap.size u w')) := fun u hb => can_any j' (Al u) _ u (hb2.below hb).jv (fun k hk => hk) hi'
  have hszc := canM_sz j hi
  have hbnd := can_bound j hi
  have hszc' := canM_sz j' hi'
  have hbnd' := can_bound j' hi'
  generalize canM j = C at HCN hszc hbnd
  generalize canM j' = C' at HCX hszc' hbnd'
  have HSZ := hide hszc
  have HBND := hide hbnd
  have HSZ' := hide hszc'
  have HBND' := hide hbnd'
  obtain ⟨p0, p1, p2, p3, p4⟩ := cells5 hb1.row
  rw [hW1] at hW
  clear hJ hJ' hi hi' hE hb1 hb2 bW1 bW2 sW1 hszc hbnd hszc' hbnd' hW1
  go_enter Tryz.func5, Tryz.ntmps5
  go_upto_region 1 with fail
  rw [← hW, ← hX, ← hV]
  clear hW hV hX
  cases C with
  | false =>
    go_wp2_with fail
    refine (unhide HCN).mono ?_
    rintro e w1 ⟨rfl, h1⟩
    have HW1 : Hid (Below w.heap.size w w1) := (unhide HWW).trans ((unhide h1).mono (unhide HWW).size)
    have HA1 := hide (unhide HAW w1 (unhide HW1))
    clear HCN HCX h1 p0 p1 p2 p3 p4 HBND HSZ HBND' HSZ'
    go_wp2_with fail
    refine (unhide HA1).mono ?_
    rintro e w2 ⟨rfl, h2⟩
    have HF : Hid (Below w.heap.size w w2) := (unhide HW1).trans ((unhide h2).mono (unhide HW1).size)
    go_wp2_with fail
    go_ret
    exact ⟨rfl, HF⟩
  | true =>
    have hz := unhide HSZ rfl
    have HZ := hide hz
    have HBN := hide (unhide HBND rfl)
    clear HSZ HBND hz
    go_wp2_with fail
    refine (unhide HCN).mono ?_
    rintro e w1 ⟨rfl, h1⟩
    have HW1 : Hid (Below w.heap.size w w1) := (unhide HWW).trans ((unhide h1).mono (unhide HWW).size)
    have HV1 := hide ((unhide HV).below (unhide h1))
    have HX1 := hide ((unhide HX).below (unhide h1))
    have HC2 := hide (unhide HCX w1 (unhide h1))
    clear HCN HCX h1 p0 p1 p2 p3 p4 HV HX HWW
    obtain ⟨q0, q1, q2, q3, q4⟩ := cells5 (unhide HX1).row
    cases C' with
    | false =>
      go_wp2_with fail
      refine (unhide HC2).mono ?_
      rintro e w2 ⟨rfl, h2⟩
      have HW2 : Hid (Below w.heap.size w w2) := (unhide HW1).trans ((unhide h2).mono (unhide HW1).size)
      have HA1 := hide (unhide HAW w2 (unhide HW2))
      clear HC2 h2 q0 q1 q2 q3 q4 HBND' HSZ'
      go_wp2_with fail
      refine (unhide HA1).mono ?_
      rintro e w3 ⟨rfl, h3⟩
      have HF : Hid (Below w.heap.size w w3) := (unhide HW2).trans ((unhide h3).mono (unhide HW2).size)
      go_wp2_with fail
      go_ret
      exact ⟨rfl, HF⟩
    | true =>
      have hz' := unhide HSZ' rfl
      have HZ' := hide hz'
      have HBN' := hide (unhide HBND' rfl)
      clear HSZ' HBND' hz'
      have HGT : Hid (∀ (u : World) (x : Value), JV u (Al u) x j → Calls Tryz.prog 16 #[x, .string (str name)] u fun e w' => GtP u (gtM name j) e w') := fun u x hx => get_any name j (Al u) x u hx (fun k hk => hk) (unhide HZ)
      have HRT : Hid (∀ (u : World) (x : Value), JV u (Al u) x j → Calls Tryz.prog 17 #[x, .string (str name)] u fun e w' => RgP u (gtM name j) e w') := fun u x hx => rget_any name j (Al u) x u hx (fun k hk => hk) (unhide HZ)
      have HSA : Hid (∀ (u : World) (x y : Value), Tb4 u → JV u (Al u) x j → JV u (Al u) y j' → Calls Tryz.prog 18 #[x, y] u fun e w' => e = .returned (.bool (saM j j')) ∧ Hid (Below u.heap.size u w')) := fun u x y ht hx hy => same_any j j' (Al u) x y u ht hx hy (fun k hk => hk) (unhide HZ) (unhide HZ')
      have HSR : Hid (∀ (u : World) (x y : Value), JV u (Al u) x j → JV u (Al u) y j' → Calls Tryz.prog 19 #[x, y] u fun e w' => e = .returned (.bool (saM j j')) ∧ Hid (Below u.heap.size u w')) := fun u x y hx hy => by rw [saM_rs j j' (unhide HZ) (unhide HZ')]; exact rsame_any j j' (Al u) x y u hx hy (fun k hk => hk) (unhide HZ) (unhide HZ') (unhide HBN) (unhide HBN')
      generalize gtM name j = O at HGT HRT
      generalize saM j j' = B at HSA HSR
      go_wp2_with fail
      refine (unhide HC2).mono ?_
      rintro e w2 ⟨rfl, h2⟩
      have HW2 : Hid (Below w.heap.size w w2) := (unhide HW1).trans ((unhide h2).mono (unhide HW1).size)
      have HV2 := hide ((unhide HV1).below (unhide h2))
      have HX2 := hide ((unhide HX1).below (unhide h2))
      have HO := hide (own_jv j (Al w2) _ w2 (unhide HV2).jv (fun k hk => hk) (unhide HZ))
      clear HC2 h2 q0 q1 q2 q3 q4 HV1 HX1 HW1 HBN HBN'
      obtain ⟨p0, p1, p2, p3, p4⟩ := cells5 (unhide HV2).row
      go_wp2_with fail
      refine (unhide HO).mono ?_
      rintro e w3 ⟨gk, gn, gt, ga1, gn1, gc1, ga2, gn2, gc2, rfl, hj3, h3⟩
      obtain ⟨Y7, hY7⟩ : ∃ Y7, Y7 = w3.heap.size := ⟨_, rfl⟩
      obtain ⟨U7, hU7⟩ : ∃ U7, U7 = w3.alloc (.cells #[.int .i64 gk, .int .i64 gn, .string (str gt), .slice ga1 gn1 gc1, .slice ga2 gn2 gc2] 25) := ⟨_, rfl⟩
      obtain ⟨hb, bU⟩ := Bj.made (unhide hj3) (fun k hk => hk) U7 hU7
      rw [← hY7] at hb
      have h3U := (unhide h3).trans (bU.mono (unhide h3).size)
      have HKK : Hid (∀ u, Below U7.heap.size U7 u → Bj u V vk vn vt va1 vn1 vc1 va2 vn2 vc2 j ∧ Bj u X zk zn zt za1 zn1 zc1 za2 zn2 zc2 j' ∧ Bj u Y7 gk gn gt ga1 gn1 gc1 ga2 gn2 gc2 j ∧ Env4 u ∧ Below w.heap.size w u) := fun u hu =>
        have hwu := (unhide HW2).trans ((h3U.trans (hu.mono h3U.size)).mono (unhide HW2).size)
        ⟨((unhide HV2).below h3U).below hu, ((unhide HX2).below h3U).below hu, hb.below hu, unhide HEn u hwu, hwu⟩
      have HGE := hide (unhide HGT U7 _ hb.jv)
      obtain ⟨q0, q1, q2, q3, q4⟩ := cells5 hb.row
      clear HO h3 hj3 p0 p1 p2 p3 p4 HV2 HX2 HW2 bU h3U hb HGT
      go_upto_region 4 with fail
      rw [← hU7, ← hY7]
      clear hU7 hY7
      go_wp2_with fail
      refine (unhide HGE).mono ?_
      rintro e w4 ⟨xv, lo, rfl, hlo, hcp, h4⟩
      obtain ⟨⟨Jk, Jn, Jt, Jns, Jis⟩, hJJ⟩ : ∃ J, J = O.getD Js.nul := ⟨_, rfl⟩
      obtain ⟨ob, hob⟩ : ∃ ob, ob = O.isSome := ⟨_, rfl⟩
      rw [← hJJ] at hcp
      rw [← hob]
      have hxj := hcp.jv (S := Al w4) (fun k _ hk => hk)
      obtain ⟨xa1, xc1, xa2, xc2, xs, rfl, xT, xJ, xE, xD⟩ := hcp
      obtain ⟨m, hm⟩ : ∃ m, m = Jis.length := ⟨_, rfl⟩
      rw [← hm] at xJ hxj ⊢
      have hm9 : m ≤ 9223372036854775807 := by have := (owns_cap xJ).1; have := (owns_cap xJ).2.1; unfold maxLen at this; omega
      have HJJ := hide hJJ
      have HOB := hide hob
      have HLO := hide hlo
      have HXJ := hide xJ
      have HMM := hide hm
      obtain ⟨Y8, hY8⟩ : ∃ Y8, Y8 = w4.heap.size := ⟨_, rfl⟩
      obtain ⟨U8, hU8⟩ : ∃ U8, U8 = w4.alloc (.cells #[.int .i64 Jk, .int .i64 Jn, .string (str Jt), .slice xa1 Jns.length xc1, .slice xa2 m xc2] 25) := ⟨_, rfl⟩
      obtain ⟨hb8, b8⟩ := Bj.made hxj (fun k hk => hk) U8 hU8
      rw [← hY8] at hb8
      have HB8 := hide hb8
      have HY8 := hide hY8
      have H48 := hide b8
      have H78 : Hid (Below U7.heap.size U7 U8) := h4.trans (b8.mono h4.size)
      have HRG := hide (unhide HRT U8 _ (unhide HKK U8 (unhide H78)).1.jv)
      obtain ⟨p0, p1, p2, p3, p4⟩ := cells5 (unhide HKK U8 (unhide H78)).1.row
      clear HGE q0 q1 q2 q3 q4 hxj xT xJ xE xD hJJ hob hlo hm hb8 b8 h4 HRT
      go_upto_region 5 with fail
      rw [← hU8, ← hY8]
      clear hU8 hY8
      go_wp2_with fail
      refine (unhide HRG).mono ?_
      rintro e w5 ⟨yv, rfl, hyj, h5⟩
      rw [← unhide HJJ] at hyj
      rw [← unhide HOB]
      obtain ⟨yk, yn, yt, ya1, yn1, yc1, ya2, yn2, yc2, rfl⟩ := hyj.form
      obtain ⟨Y10, hY10⟩ : ∃ Y10, Y10 = w5.heap.size := ⟨_, rfl⟩
      obtain ⟨U10, hU10⟩ : ∃ U10, U10 = w5.alloc (.cells #[.int .i64 yk, .int .i64 yn, .string (str yt), .slice ya1 yn1 yc1, .slice ya2 yn2 yc2] 25) := ⟨_, rfl⟩
      obtain ⟨hb10, b10⟩ := Bj.made hyj (fun k hk => hk) U10 hU10
      rw [← hY10] at hb10
      have h8 := h5.trans (b10.mono h5.size)
      have H810 := hide h8
      have HB8b := hide ((unhide HB8).below h8)
      have HQ := hide (equal_same _ (Al U10) _ _ U10 (unhide HB8b).jv hb10.jv (fun k hk => hk))
      obtain ⟨q0, q1, q2, q3, q4⟩ := cells5 hb10.row
      obtain ⟨x0, x1, x2, x3, x4⟩ := cells5 (unhide HB8b).row
      have e0 : (ob != ob) = false := by simp
      clear HRG p0 p1 p2 p3 p4 hyj hb10 b10 h5 h8 HJJ HOB
      go_upto_region 6 with fail
      rw [← hU10, ← hY10]
      clear hU10 hY10
      go_wp2_with fail
      refine (unhide HQ).mono ?_
      rintro e w6 ⟨rfl, h6⟩
      have HB6 := hide ((unhide HB8b).below (unhide h6))
      have H86 : Hid (Below U8.heap.size U8 w6) := (unhide H810).trans ((unhide h6).mono (unhide H810).size)
      have H46 : Hid (Below w4.heap.size w4 w6) := (unhide H48).trans ((unhide H86).mono (unhide H48).size)
      have H76 : Hid (Below U7.heap.size U7 w6) := (unhide H78).trans ((unhide H86).mono (unhide H78).size)
      have HOJ : Hid (OwnJ w6 lo xa2 xc2 m xs) := owns_same (unhide HXJ) (fun k hk => (unhide H46).block k (owns_lt (unhide HXJ) k hk).2)
      obtain ⟨G2, hG2⟩ : ∃ G2, (blk xa2 = some G2 ∧ G2 < Y8 ∧ lo ≤ G2) ∨ (blk xa2 = none ∧ G2 = w6.heap.size) := by
        cases hx : blk xa2 with
        | none => exact ⟨_, .inr ⟨rfl, rfl⟩⟩
        | some g => exact ⟨g, .inl ⟨rfl, by rw [unhide HY8]; exact (owns_lt (unhide HXJ) g hx).2, (owns_lt (unhide HXJ) g hx).1⟩⟩
      have hr6 := (unhide HB6).row
      have hlt6 := (Array.getElem?_eq_some_iff.1 hr6).1
      have HG8 : Hid (Y8 ≠ G2 ∧ U7.heap.size ≤ G2) := by
        have h1 := unhide HLO
        have h2 := (unhide H76).size
        constructor
        · rcases hG2 with h | h <;> omega
        · rcases hG2 with h | h <;> omega
      have HG2 := hide hG2
      have HRX : Hid (∀ u, Mv w6 u G2 → u.heap[Y8]? = some (.cells #[.int .i64 Jk, .int .i64 Jn, .string (str Jt), .slice xa1 Jns.length xc1, .slice xa2 m xc2] 25 (0, 0))) := fun u hu => (hu.block Y8 hlt6 (fun e => (unhide HG8).1 (Option.some.inj e))).trans hr6
      have HMV0 : Hid (Mv w6 w6 G2) := Mv.refl _ _
      clear HQ h6 q0 q1 q2 q3 q4 x0 x1 x2 x3 x4 hG2 hlt6 hr6 HB8 HB8b HB6 e0 HXJ HLO
      obtain ⟨x0, x1, x2, x3, x4⟩ := cells5 (unhide HRX w6 (unhide HMV0))
      go_wp2_with fail
      clear x0 x1 x2 x3 x4
      go_loopw [48] (fun v wr => ∃ (q : Nat) (ys : List Value), q ≤ m ∧ v = .int .i64 (q : Int) ∧ Hid (OwnJ wr lo xa2 xc2 m ys) ∧ Hid (Mv w6 wr G2)) (fun v _ => m - (intOf v).toNat)
      case atStart => exact ⟨0, xs, Nat.zero_le _, rfl, HOJ, HMV0⟩
      case round =>
        clear HOJ HMV0
        obtain ⟨q, ys, hq, rfl, HOJ, HMq⟩ := hrel
        obtain ⟨x0, x1, x2, x3, x4⟩ := cells5 (unhide HRX wr (unhide HMq))
        by_cases hlt : q < m
        · have hlt' : (q : Int) < (m : Int) := by omega
          obtain ⟨gg, rfl⟩ : ∃ gg, xa2 = some ⟨gg, 0, none⟩ := by
            rcases owns_cases (unhide HOJ) with ⟨_, _, h3, _⟩ | ⟨gg, _, h, _⟩
            · omega
            · exact ⟨gg, h⟩
          obtain rfl : gg = G2 := by rcases unhide HG2 with h | h <;> simp [blk] at h; exact h.1
          have hyl : ys.length = m * 5 := (unhide HOJ).1
          obtain ⟨u0, hu0⟩ : ∃ u, ys[q * 5]? = some u := ⟨_, List.getElem?_eq_getElem (by omega)⟩
          obtain ⟨e0, f0⟩ := owns_cell (unhide HOJ) (q * 5) _ hu0
          obtain ⟨u1, hu1⟩ : ∃ u, ys[q * 5 + 1]? = some u := ⟨_, List.getElem?_eq_getElem (by omega)⟩
          obtain ⟨e1, f1⟩ := owns_cell (unhide HOJ) (q * 5 + 1) _ hu1
          obtain ⟨u2, hu2⟩ : ∃ u, ys[q * 5 + 2]? = some u := ⟨_, List.getElem?_eq_getElem (by omega)⟩
          obtain ⟨e2, f2⟩ := owns_cell (unhide HOJ) (q * 5 + 2) _ hu2
          obtain ⟨u3, hu3⟩ : ∃ u, ys[q * 5 + 3]? = some u := ⟨_, List.getElem?_eq_getElem (by omega)⟩
          obtain ⟨e3, f3⟩ := owns_cell (unhide HOJ) (q * 5 + 3) _ hu3
          obtain ⟨u4, hu4⟩ : ∃ u, ys[q * 5 + 4]? = some u := ⟨_, List.getElem?_eq_getElem (by omega)⟩
          obtain ⟨e4, f4⟩ := owns_cell (unhide HOJ) (q * 5 + 4) _ hu4
          obtain ⟨w9, hw9⟩ : ∃ w9, w9 = (((((wr.setCell ⟨gg, q * 5, none⟩ (.int .i64 77)).setCell ⟨gg, q * 5 + 1, none⟩ (.int .i64 0)).setCell ⟨gg, q * 5 + 2, none⟩ (.string ⟨#[]⟩)).setCell ⟨gg, q * 5 + 3, none⟩ (.slice none 0 0)).setCell ⟨gg, q * 5 + 4, none⟩ (.slice none 0 0)) := ⟨_, rfl⟩
          have HO9 : Hid (OwnJ w9 lo (some ⟨gg, 0, none⟩) xc2 m (st5 ys q (.int .i64 77) (.int .i64 0) (.string ⟨#[]⟩) (.slice none 0 0) (.slice none 0 0))) := by
            show OwnJ _ _ _ _ _ _
            rw [hw9]
            exact owns_set (owns_set (owns_set (owns_set (owns_set (unhide HOJ) _ _ (by omega)) _ _ (by rw [List.length_set]; omega)) _ _ (by rw [List.length_set, List.length_set]; omega)) _ _ (by rw [List.length_set, List.length_set, List.length_set]; omega)) _ _ (by rw [List.length_set, List.length_set, List.length_set, List.length_set]; omega)
          have HM9 : Hid (Mv w6 w9 gg) := by
            show Mv _ _ _
            have m7 := unhide HMq
            obtain ⟨o1, o2, o3⟩ := oth5 wr gg (q * 5) (q * 5 + 1) (q * 5 + 2) (q * 5 + 3) (q * 5 + 4) (.int .i64 77) (.int .i64 0) (.string ⟨#[]⟩) (.slice none 0 0) (.slice none 0 0)
            have z9 : w9.heap.size = wr.heap.size := by rw [hw9, siz5]
            rw [← hw9] at o1 o2 o3
            exact ⟨o1.trans m7.os, o2.trans m7.tape, o3.trans m7.output, by rw [z9]; exact m7.size, fun y hy hne => (by rw [hw9]; exact far5 _ _ _ _ _ _ _ _ _ _ _ _ _ (fun e => hne (by rw [e])) : w9.heap[y]? = wr.heap[y]?).trans (m7.block y hy hne)⟩
          clear hyl hu0 hu1 hu2 hu3 hu4
          go_wp2_with fail
          rw [← hw9]
          clear hw9 e0 e1 e2 e3 e4 f0 f1 f2 f3 f4 x0 x1 x2 x3 x4
          go_roundw
          case rel => exact ⟨q + 1, _, by omega, by go_num, HO9, HM9⟩
          case measure => simp [intOf]; omega
        · have hlt' : ¬ (q : Int) < (m : Int) := by omega
          have HEB : Hid (Below U7.heap.size U7 wr) := by
            have h1 := unhide H76
            have h2 := unhide HMq
            have h3 := unhide HG8
            exact ⟨h2.os.trans h1.os, h2.tape.trans h1.tape, h2.output.trans h1.output, Nat.le_trans h1.size h2.size, fun k hk => (h2.block k (Nat.lt_of_lt_of_le hk h1.size) (fun e => by have := Option.some.inj e; omega)).trans (h1.block k hk)⟩
          clear hlt HMq HOJ HG2 HG8 H76 H46 H86 HRX H78 H810 H48 HY8
          have e3 : (B == B) = true := by simp
          go_wp2_with fail
          obtain ⟨D, hD⟩ : ∃ D, D = wr.drew := ⟨_, rfl⟩
          have HBD : Hid (Below U7.heap.size U7 D) := by show Below _ _ _; rw [hD]; exact (unhide HEB).drew
          have HSP : Hid (∀ u, Below U7.heap.size U7 u → u.heap[V]? = some (.cells #[.int .i64 vk, .int .i64 vn, .string (str vt), .slice va1 vn1 vc1, .slice va2 vn2 vc2] 25 (0, 0)) ∧ u.heap[X]? = some (.cells #[.int .i64 zk, .int .i64 zn, .string (str zt), .slice za1 zn1 zc1, .slice za2 zn2 zc2] 25 (0, 0)) ∧ u.heap[Y7]? = some (.cells #[.int .i64 gk, .int .i64 gn, .string (str gt), .slice ga1 gn1 gc1, .slice ga2 gn2 gc2] 25 (0, 0))) := fun u hu => ⟨(unhide HKK u hu).1.row, (unhide HKK u hu).2.1.row, (unhide HKK u hu).2.2.1.row⟩
          refine wp_region_held_drew (S := fun u => u.heap[V]? = some (.cells #[.int .i64 vk, .int .i64 vn, .string (str vt), .slice va1 vn1 vc1, .slice va2 vn2 vc2] 25 (0, 0)) ∧ u.heap[X]? = some (.cells #[.int .i64 zk, .int .i64 zn, .string (str zt), .slice za1 zn1 zc1, .slice za2 zn2 zc2] 25 (0, 0)) ∧ u.heap[Y7]? = some (.cells #[.int .i64 gk, .int .i64 gn, .string (str gt), .slice ga1 gn1 gc1, .slice ga2 gn2 gc2] 25 (0, 0))) (by kernel_rfl) (by rw [← hD]; exact unhide HSP D (unhide HBD)) (fun hHeld => ?_)
          rw [← hD] at hHeld ⊢
          clear hD HEB
          refine wpAnyH_take (i := 0) (oi := ?_) (v := ?_) ?_ (by kernel_rfl) ?_ ?_ ?_ ?_ hHeld ?_
          rotate_left 2
          · (simp only [List.getElem?_toArray, List.getElem?_cons_zero]) <;> with_reducible rfl
          · kernel_rfl
          · kernel_rfl
          · exact fun _ _ _ h => h
          · exact Or.inl ⟨by rfl, by (intro w hSw; (try dsimp only at hSw); obtain ⟨sV, sX, sG⟩ := hSw; obtain ⟨y0, y1, y2, y3, y4⟩ := cells5 sV; obtain ⟨x0, x1, x2, x3, x4⟩ := cells5 sX; obtain ⟨g0, g1, g2, g3, g4⟩ := cells5 sG; go_simp <;> with_reducible rfl)⟩
          simp only [Act.put, List.setIfInBounds_toArray, List.set_cons_zero, List.set_cons_succ]
          refine wpAnyH_take (i := 1) (oi := ?_) (v := ?_) ?_ (by kernel_rfl) ?_ ?_ ?_ ?_ hHeld ?_
          rotate_left 2
          · (simp only [List.getElem?_toArray, List.getElem?_cons_succ, List.getElem?_cons_zero]) <;> with_reducible rfl
          · kernel_rfl
          · kernel_rfl
          · exact fun _ _ _ h => h
          · exact Or.inl ⟨by rfl, by (intro w hSw; (try dsimp only at hSw); obtain ⟨sV, sX, sG⟩ := hSw; obtain ⟨y0, y1, y2, y3, y4⟩ := cells5 sV; obtain ⟨x0, x1, x2, x3, x4⟩ := cells5 sX; obtain ⟨g0, g1, g2, g3, g4⟩ := cells5 sG; go_simp <;> with_reducible rfl)⟩
          simp only [Act.put, List.setIfInBounds_toArray, List.set_cons_zero, List.set_cons_succ]
          refine wpAnyH_ready (rs := [2]) (by kernel_rfl) (by simp) ?rda
          refine AllReadyH.cons (o := ?oa) ?ha (fun K hK => ?ba) AllReadyH.nil
          case ha => (simp only [List.getElem?_toArray, List.getElem?_cons_succ, List.getElem?_cons_zero]) <;> with_reducible rfl
          case ba =>
            go_simp
            refine (equal_same j (Al D) _ _ D (unhide HKK D (unhide HBD)).2.2.1.jv (unhide HKK D (unhide HBD)).1.jv (fun k hk => hk)).mono ?_
            rintro e w21 ⟨rfl, hb⟩
            have HBw21 : Hid (Below U7.heap.size U7 w21) := (unhide HBD).trans ((unhide hb).mono (unhide HBD).size)
            clear hb
            refine hK.out _ _ (unhide HSP w21 (unhide HBw21)) (fun hHeld => ?_)
            clear hK K
            try simp only [Act.put, List.setIfInBounds_toArray, List.set_cons_zero, List.set_cons_succ]
            refine wpAnyH_take (i := 3) (oi := ?_) (v := ?_) ?_ (by kernel_rfl) ?_ ?_ ?_ ?_ hHeld ?_
            rotate_left 2
            · (simp only [List.getElem?_toArray, List.getElem?_cons_succ, List.getElem?_cons_zero]) <;> with_reducible rfl
            · kernel_rfl
            · kernel_rfl
            · exact fun _ _ _ h => h
            · exact Or.inl ⟨by rfl, by (intro w hSw; (try dsimp only at hSw); obtain ⟨sV, sX, sG⟩ := hSw; obtain ⟨y0, y1, y2, y3, y4⟩ := cells5 sV; obtain ⟨x0, x1, x2, x3, x4⟩ := cells5 sX; obtain ⟨g0, g1, g2, g3, g4⟩ := cells5 sG; go_simp <;> with_reducible rfl)⟩
            simp only [Act.put, List.setIfInBounds_toArray, List.set_cons_zero, List.set_cons_succ]
            refine wpAnyH_take (i := 4) (oi := ?_) (v := ?_) ?_ (by kernel_rfl) ?_ ?_ ?_ ?_ hHeld ?_
            rotate_left 2
            · (simp only [List.getElem?_toArray, List.getElem?_cons_succ, List.getElem?_cons_zero]) <;> with_reducible rfl
            · kernel_rfl
            · kernel_rfl
            · exact fun _ _ _ h => h
            · exact Or.inl ⟨by rfl, by (intro w hSw; (try dsimp only at hSw); obtain ⟨sV, sX, sG⟩ := hSw; obtain ⟨y0, y1, y2, y3, y4⟩ := cells5 sV; obtain ⟨x0, x1, x2, x3, x4⟩ := cells5 sX; obtain ⟨g0, g1, g2, g3, g4⟩ := cells5 sG; go_simp <;> with_reducible rfl)⟩
            simp only [Act.put, List.setIfInBounds_toArray, List.set_cons_zero, List.set_cons_succ]
            refine wpAnyH_take (i := 5) (oi := ?_) (v := ?_) ?_ (by kernel_rfl) ?_ ?_ ?_ ?_ hHeld ?_
            rotate_left 2
            · (simp only [List.getElem?_toArray, List.getElem?_cons_succ, List.getElem?_cons_zero]) <;> with_reducible rfl
            · kernel_rfl
            · kernel_rfl
            · exact fun _ _ _ h => h
            · exact Or.inl ⟨by rfl, by (intro w hSw; (try dsimp only at hSw); obtain ⟨sV, sX, sG⟩ := hSw; obtain ⟨y0, y1, y2, y3, y4⟩ := cells5 sV; obtain ⟨x0, x1, x2, x3, x4⟩ := cells5 sX; obtain ⟨g0, g1, g2, g3, g4⟩ := cells5 sG; go_simp <;> with_reducible rfl)⟩
            simp only [Act.put, List.setIfInBounds_toArray, List.set_cons_zero, List.set_cons_succ]
            refine wpAnyH_take (i := 7) (oi := ?_) (v := ?_) ?_ (by kernel_rfl) ?_ ?_ ?_ ?_ hHeld ?_
            rotate_left 2
            · (simp only [List.getElem?_toArray, List.getElem?_cons_succ, List.getElem?_cons_zero]) <;> with_reducible rfl
            · kernel_rfl
            · kernel_rfl
            · exact fun _ _ _ h => h
            · exact Or.inl ⟨by rfl, by (intro w hSw; (try dsimp only at hSw); obtain ⟨sV, sX, sG⟩ := hSw; obtain ⟨y0, y1, y2, y3, y4⟩ := cells5 sV; obtain ⟨x0, x1, x2, x3, x4⟩ := cells5 sX; obtain ⟨g0, g1, g2, g3, g4⟩ := cells5 sG; go_simp <;> with_reducible rfl)⟩
            simp only [Act.put, List.setIfInBounds_toArray, List.set_cons_zero, List.set_cons_succ]
            refine wpAnyH_take (i := 8) (oi := ?_) (v := ?_) ?_ (by kernel_rfl) ?_ ?_ ?_ ?_ hHeld ?_
            rotate_left 2
            · (simp only [List.getElem?_toArray, List.getElem?_cons_succ, List.getElem?_cons_zero]) <;> with_reducible rfl
            · kernel_rfl
            · kernel_rfl
            · exact fun _ _ _ h => h
            · exact Or.inl ⟨by rfl, by (intro w hSw; (try dsimp only at hSw); obtain ⟨sV, sX, sG⟩ := hSw; obtain ⟨y0, y1, y2, y3, y4⟩ := cells5 sV; obtain ⟨x0, x1, x2, x3, x4⟩ := cells5 sX; obtain ⟨g0, g1, g2, g3, g4⟩ := cells5 sG; go_simp <;> with_reducible rfl)⟩
            simp only [Act.put, List.setIfInBounds_toArray, List.set_cons_zero, List.set_cons_succ]
            refine wpAnyH_ready (rs := [6]) (by kernel_rfl) (by simp) ?rdb
            refine AllReadyH.cons (o := ?ob) ?hb (fun K hK => ?bb) AllReadyH.nil
            case hb => (simp only [List.getElem?_toArray, List.getElem?_cons_succ, List.getElem?_cons_zero]) <;> with_reducible rfl
            case bb =>
              go_simp
              refine (unhide HSA w21 _ _ (unhide HKK w21 (unhide HBw21)).2.2.2.1.tb (unhide HKK w21 (unhide HBw21)).1.jv (unhide HKK w21 (unhide HBw21)).2.1.jv).mono ?_
              rintro e w22 ⟨rfl, hb⟩
              have HBw22 : Hid (Below U7.heap.size U7 w22) := (unhide HBw21).trans ((unhide hb).mono (unhide HBw21).size)
              clear hb
              refine hK.out _ _ (unhide HSP w22 (unhide HBw22)) (fun hHeld => ?_)
              clear hK K
              try simp only [Act.put, List.setIfInBounds_toArray, List.set_cons_zero, List.set_cons_succ]
              refine wpAnyH_ready (rs := [9]) (by kernel_rfl) (by simp) ?rdc
              refine AllReadyH.cons (o := ?oc) ?hc (fun K hK => ?bc) AllReadyH.nil
              case hc => (simp only [List.getElem?_toArray, List.getElem?_cons_succ, List.getElem?_cons_zero]) <;> with_reducible rfl
              case bc =>
                go_simp
                refine (unhide HSR w22 _ _ (unhide HKK w22 (unhide HBw22)).1.jv (unhide HKK w22 (unhide HBw22)).2.1.jv).mono ?_
                rintro e w23 ⟨rfl, hb⟩
                have HBw23 : Hid (Below U7.heap.size U7 w23) := (unhide HBw22).trans ((unhide hb).mono (unhide HBw22).size)
                clear hb
                refine hK.out _ _ (unhide HSP w23 (unhide HBw23)) (fun hHeld => ?_)
                clear hK K
                try simp only [Act.put, List.setIfInBounds_toArray, List.set_cons_zero, List.set_cons_succ]
                refine wpAnyH_take (i := 10) (oi := ?_) (v := ?_) ?_ (by kernel_rfl) ?_ ?_ ?_ ?_ hHeld ?_
                rotate_left 2
                · (simp only [List.getElem?_toArray, List.getElem?_cons_succ, List.getElem?_cons_zero]) <;> with_reducible rfl
                · kernel_rfl
                · kernel_rfl
                · exact fun _ _ _ h => h
                · exact Or.inl ⟨by rfl, by (intro w hSw; (try dsimp only at hSw); obtain ⟨sV, sX, sG⟩ := hSw; obtain ⟨y0, y1, y2, y3, y4⟩ := cells5 sV; obtain ⟨x0, x1, x2, x3, x4⟩ := cells5 sX; obtain ⟨g0, g1, g2, g3, g4⟩ := cells5 sG; go_simp <;> with_reducible rfl)⟩
                simp only [Act.put, List.setIfInBounds_toArray, List.set_cons_zero, List.set_cons_succ]
                refine wpAnyH_take (i := 11) (oi := ?_) (v := ?_) ?_ (by kernel_rfl) ?_ ?_ ?_ ?_ hHeld ?_
                rotate_left 2
                · (simp only [List.getElem?_toArray, List.getElem?_cons_succ, List.getElem?_cons_zero]) <;> with_reducible rfl
                · kernel_rfl
                · kernel_rfl
                · exact fun _ _ _ h => h
                · exact Or.inl ⟨by rfl, by (intro w hSw; (try dsimp only at hSw); obtain ⟨sV, sX, sG⟩ := hSw; obtain ⟨y0, y1, y2, y3, y4⟩ := cells5 sV; obtain ⟨x0, x1, x2, x3, x4⟩ := cells5 sX; obtain ⟨g0, g1, g2, g3, g4⟩ := cells5 sG; go_simp <;> with_reducible rfl)⟩
                simp only [Act.put, List.setIfInBounds_toArray, List.set_cons_zero, List.set_cons_succ]
                refine wpAnyH_take (i := 12) (oi := ?_) (v := ?_) ?_ (by kernel_rfl) ?_ ?_ ?_ ?_ hHeld ?_
                rotate_left 2
                · (simp only [List.getElem?_toArray, List.getElem?_cons_succ, List.getElem?_cons_zero]) <;> with_reducible rfl
                · kernel_rfl
                · kernel_rfl
                · exact fun _ _ _ h => h
                · exact Or.inl ⟨by rfl, by (intro w hSw; (try dsimp only at hSw); obtain ⟨sV, sX, sG⟩ := hSw; obtain ⟨y0, y1, y2, y3, y4⟩ := cells5 sV; obtain ⟨x0, x1, x2, x3, x4⟩ := cells5 sX; obtain ⟨g0, g1, g2, g3, g4⟩ := cells5 sG; go_simp <;> with_reducible rfl)⟩
                simp only [Act.put, List.setIfInBounds_toArray, List.set_cons_zero, List.set_cons_succ]
                refine wpAnyH_ready (rs := [13]) (by kernel_rfl) (by simp) ?rdd
                refine AllReadyH.cons (o := ?od) ?hd (fun K hK => ?bd) AllReadyH.nil
                case hd => (simp only [List.getElem?_toArray, List.getElem?_cons_succ, List.getElem?_cons_zero]) <;> with_reducible rfl
                case bd =>
                  go_simp
                  refine (unhide HAW w23 (unhide HKK w23 (unhide HBw23)).2.2.2.2).mono ?_
                  rintro e w24 ⟨rfl, hb⟩
                  have HBw24 : Hid (Below U7.heap.size U7 w24) := (unhide HBw23).trans ((unhide hb).mono (unhide HBw23).size)
                  clear hb
                  refine hK.out _ _ (unhide HSP w24 (unhide HBw24)) (fun hHeld => ?_)
                  clear hK K
                  try simp only [Act.put, List.setIfInBounds_toArray, List.set_cons_zero, List.set_cons_succ]
                  refine wpAnyH_take (i := 14) (oi := ?_) (v := ?_) ?_ (by kernel_rfl) ?_ ?_ ?_ ?_ hHeld ?_
                  rotate_left 2
                  · (simp only [List.getElem?_toArray, List.getElem?_cons_succ, List.getElem?_cons_zero]) <;> with_reducible rfl
                  · kernel_rfl
                  · kernel_rfl
                  · exact fun _ _ _ h => h
                  · exact Or.inl ⟨by rfl, by (intro w hSw; (try dsimp only at hSw); obtain ⟨sV, sX, sG⟩ := hSw; obtain ⟨y0, y1, y2, y3, y4⟩ := cells5 sV; obtain ⟨x0, x1, x2, x3, x4⟩ := cells5 sX; obtain ⟨g0, g1, g2, g3, g4⟩ := cells5 sG; go_simp <;> with_reducible rfl)⟩
                  simp only [Act.put, List.setIfInBounds_toArray, List.set_cons_zero, List.set_cons_succ]
                  refine wpAnyH_take (i := 15) (oi := ?_) (v := ?_) ?_ (by kernel_rfl) ?_ ?_ ?_ ?_ hHeld ?_
                  rotate_left 2
                  · (simp only [List.getElem?_toArray, List.getElem?_cons_succ, List.getElem?_cons_zero]) <;> with_reducible rfl
                  · kernel_rfl
                  · kernel_rfl
                  · exact fun _ _ _ h => h
                  · exact Or.inl ⟨by rfl, by (intro w hSw; (try dsimp only at hSw); obtain ⟨sV, sX, sG⟩ := hSw; obtain ⟨y0, y1, y2, y3, y4⟩ := cells5 sV; obtain ⟨x0, x1, x2, x3, x4⟩ := cells5 sX; obtain ⟨g0, g1, g2, g3, g4⟩ := cells5 sG; go_simp <;> with_reducible rfl)⟩
                  simp only [Act.put, List.setIfInBounds_toArray, List.set_cons_zero, List.set_cons_succ]
                  refine wpAnyH_done (by kernel_rfl) ?_ _
                  have HF : Hid (Below w.heap.size w w24) := (unhide HKK w24 (unhide HBw24)).2.2.2.2
                  go_wp2_with fail
                  go_ret
                  exact ⟨rfl, HF⟩
#print axioms jgets_any
theorem jsonxGets_walk (v : Value) (j : Js) (v' : Value) (j' : Js) (s : List UInt8) (w : World) (hJ : JV w (Al w) v j) (hi : Ib j) (hJ' : JV w (Al w) v' j') (hi' : Ib j') (hs : s.length ≤ maxLen) (hE : Env4 w) :
    Calls Tryz.prog 5 #[v, v', .string (str s)] w fun e w' => e = .returned (.bool true) ∧ Below w.heap.size w w' :=
  (jgets_any s j j' v v' w hJ hJ' hi hi' hE).mono fun e w' h => ⟨h.1, unhide h.2⟩
end Go.Proofs.YtbnbngmnoffmkaaGreatDoor
end
