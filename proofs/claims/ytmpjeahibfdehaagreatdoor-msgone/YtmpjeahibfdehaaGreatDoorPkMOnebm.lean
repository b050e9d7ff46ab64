/-
  msg: the mathematics of MsgOne.; msg: MsgOne.
-/
import Derived.Test.YtmpjeahibfdehaaGreatDoorPkMOnebl
section
set_option linter.unusedVariables false
set_option maxRecDepth 1000000
namespace Go.Proofs.YtmpjeahibfdehaaGreatDoor
open Go.RowKit

theorem push_len {m : Mg} (h : isPushB m = true) : m.l.length ≤ 8 ∧ m.c.length ≤ 24 ∧ ∀ x ∈ m.l, mayLg x = true := by
 unfold isPushB at h
 simp only [Bool.and_eq_true, decide_eq_true_eq] at h
 obtain ⟨⟨h1, h8⟩, ha⟩ := h
 have hall : ∀ i x, m.l[i]? = some x → pushX m i x = true := fun i x hx => by
  unfold pAll at ha
  have := (List.all_eq_true.1 ha) i (List.mem_range.2 (List.getElem?_eq_some_iff.1 hx).1)
  rw [hx] at this
  simpa using this
 have hx : ∀ i x, m.l[i]? = some x → mayLg x = true ∧ x.c = m.c := fun i x hx => by
  have := hall i x hx
  unfold pushX at this
  simp only [Bool.and_eq_true, decide_eq_true_eq] at this
  exact this.1
 refine ⟨h8, ?_, fun x hm => ?_⟩
 ·obtain ⟨x, h0⟩ : ∃ x, m.l[0]? = some x := ⟨_, List.getElem?_eq_getElem (by omega)⟩
  rw [← (hx 0 x h0).2]
  exact (may_len (hx 0 x h0).1).1
 ·obtain ⟨i, hi⟩ := List.mem_iff_getElem?.1 hm
  exact (hx i x hi).1
theorem patch_len {m : Mg} (h : isPatchB m = true) : m.l.length ≤ 8 ∧ ∀ x ∈ m.l, mayLg x = true := by
 unfold isPatchB at h
 simp only [Bool.and_eq_true, decide_eq_true_eq] at h
 exact ⟨h.1.1.1.1.1.1.1, h.1.1.1.1.1.1.2⟩
theorem tyM_le (k : Int) : (tyM k).length ≤ 6 := by
 unfold tyM
 repeat' split
 all_goals simp
/-- A message that may be has a short text. -/
theorem vl_le (m : Mg) (hz : MgZ m) (h : mayBeM m = true) : (prN 16 (vlJ m)).length ≤ 32768 := by
 have et := pr_tx 15 (tyM m.k)
 have ec := pr_tx 15 m.c
 have e1 := pr_nm 15 m.fr hz.2.1
 have e2 := pr_nm 15 m.co hz.2.2.1
 have e3 := pr_nm 15 m.la hz.2.2.2.1
 have e4 := pr_nm 15 m.top hz.2.2.2.2.1
 have tl := tyM_le m.k
 have q1 := q6_le [116, 121, 112, 101]
 have q2 := q6_le [99, 108, 105, 101, 110, 116]
 have q3 := q6_le [108, 105, 115, 116]
 have q4 := q6_le [108, 97, 115, 116]
 have q5 := q6_le [116, 111, 112]
 have q6 := q6_le [99, 111, 111, 107, 105, 101]
 have q7 := q6_le [102, 114, 111, 109]
 simp only [List.length_cons, List.length_nil] at q1 q2 q3 q4 q5 q6 q7
 unfold mayBeM at h
 unfold vlJ
 by_cases h1 : m.k = 1
 ·rw [if_pos h1] at h ⊢
  simp only [Bool.and_eq_true] at h
  obtain ⟨l1, l2, l3⟩ := push_len h.2
  have el := pr4_le (prN 14) (m.l.map nuJ) 4000 (fun j hj => by obtain ⟨x, hx, rfl⟩ := List.mem_map.1 hj; exact nu_le 12 x (hz.2.2.2.2.2.2.2 x hx) (l3 x hx))
  rw [List.length_map] at el
  have hh := pr5_le (prN 15) [[116, 121, 112, 101], [99, 108, 105, 101, 110, 116], [108, 105, 115, 116]] [.mk 3 0 (tyM m.k) [] [], .mk 3 0 m.c [] [], .mk 4 0 [] [] (m.l.map nuJ)]
  simp only [List.length_cons, List.length_nil, List.range_succ, List.range_zero, List.nil_append, List.cons_append, List.map_cons, List.map_nil, List.sum_cons, List.sum_nil, nmA, List.getD_cons_zero, List.getD_cons_succ] at hh
  have el2 : (prN 15 (.mk 4 0 [] [] (m.l.map nuJ))).length ≤ 2 + m.l.length * (4000 + 1) := el
  show (prF (prN 15) _).length ≤ _
  omega
 rw [if_neg h1] at h ⊢
 by_cases h2 : m.k = 2
 ·rw [if_pos h2]
  have hh := pr5_le (prN 15) [[116, 121, 112, 101], [108, 97, 115, 116], [116, 111, 112]] [.mk 3 0 (tyM m.k) [] [], .mk 2 m.la [] [] [], .mk 2 m.top [] [] []]
  simp only [List.length_cons, List.length_nil, List.range_succ, List.range_zero, List.nil_append, List.cons_append, List.map_cons, List.map_nil, List.sum_cons, List.sum_nil, nmA, List.getD_cons_zero, List.getD_cons_succ] at hh
  show (prF (prN 15) _).length ≤ _
  omega
 rw [if_neg h2] at h ⊢
 by_cases h3 : m.k = 3
 ·rw [if_pos h3] at h ⊢
  simp only [Bool.and_eq_true] at h
  have cl := (nm_len h.1.2).1
  have hh := pr5_le (prN 15) [[116, 121, 112, 101], [99, 108, 105, 101, 110, 116], [99, 111, 111, 107, 105, 101]] [.mk 3 0 (tyM m.k) [] [], .mk 3 0 m.c [] [], .mk 2 m.co [] [] []]
  simp only [List.length_cons, List.length_nil, List.range_succ, List.range_zero, List.nil_append, List.cons_append, List.map_cons, List.map_nil, List.sum_cons, List.sum_nil, nmA, List.getD_cons_zero, List.getD_cons_succ] at hh
  show (prF (prN 15) _).length ≤ _
  omega
 rw [if_neg h3] at h ⊢
 by_cases h4 : m.k = 4
 ·rw [if_pos h4] at h ⊢
  simp only [Bool.and_eq_true] at h
  obtain ⟨l1, l3⟩ := patch_len h.2
  have el := pr4_le (prN 14) (m.l.map lgJ) 4000 (fun j hj => by obtain ⟨x, hx, rfl⟩ := List.mem_map.1 hj; exact lg_le 12 x (hz.2.2.2.2.2.2.2 x hx) (l3 x hx))
  rw [List.length_map] at el
  have hh := pr5_le (prN 15) [[116, 121, 112, 101], [102, 114, 111, 109], [99, 111, 111, 107, 105, 101], [108, 97, 115, 116], [116, 111, 112], [108, 105, 115, 116]] [.mk 3 0 (tyM m.k) [] [], .mk 2 m.fr [] [] [], .mk 2 m.co [] [] [], .mk 2 m.la [] [] [], .mk 2 m.top [] [] [], .mk 4 0 [] [] (m.l.map lgJ)]
  simp only [List.length_cons, List.length_nil, List.range_succ, List.range_zero, List.nil_append, List.cons_append, List.map_cons, List.map_nil, List.sum_cons, List.sum_nil, nmA, List.getD_cons_zero, List.getD_cons_succ] at hh
  have el2 : (prN 15 (.mk 4 0 [] [] (m.l.map lgJ))).length ≤ 2 + m.l.length * (4000 + 1) := el
  show (prF (prN 15) _).length ≤ _
  omega
 rw [if_neg h4]
 have hh := pr5_le (prN 15) [[116, 121, 112, 101], [116, 111, 112]] [.mk 3 0 (tyM m.k) [] [], .mk 2 m.top [] [] []]
 simp only [List.length_cons, List.length_nil, List.range_succ, List.range_zero, List.nil_append, List.cons_append, List.map_cons, List.map_nil, List.sum_cons, List.sum_nil, nmA, List.getD_cons_zero, List.getD_cons_succ] at hh
 show (prF (prN 15) _).length ≤ _
 omega
/-- The names of a value. -/
def nmJ : Js → List (List UInt8) | .mk _ _ _ ns _ => ns
theorem nm_sr (n : Nat) (ns : List (List UInt8)) (is : List Js) (s : List UInt8) : s ∈ nmJ (srN (n + 1) (.mk 5 0 [] ns is)) ↔ s ∈ ns := by
 have h : nmJ (srN (n + 1) (.mk 5 0 [] ns is)) = (ordS ns).map (nmA ns) := by
  show nmJ (srF (srN n) _) = _
  rw [srF_eq, if_pos rfl]
  rfl
 rw [h]
 exact (ris_names (ordS_ris ns)).mem_iff
theorem vl_type (m : Mg) : ∃ ns is, vlJ m = .mk 5 0 [] ns is ∧ ([116, 121, 112, 101] : List UInt8) ∈ ns := by
 unfold vlJ
 repeat' split
 all_goals exact ⟨_, _, rfl, by simp⟩
/-- Nothing is both a message and a logged mutation. -/
theorem not_both (m : Mg) (x : Lg) (j : Js) (gj : Gd 16 j) (zm : Sz (vlJ m)) (zx : Sz (lgJ x)) (h1 : saM (vlJ m) j = true) (h2 : saM (lgJ x) j = true) : False := by
 have c1 : ck 16 (vlJ m) = 0 := by unfold saM at h1; simp only [Bool.and_eq_true, decide_eq_true_eq] at h1; exact h1.1
 have c2 : ck 16 (lgJ x) = 0 := by unfold saM at h2; simp only [Bool.and_eq_true, decide_eq_true_eq] at h2; exact h2.1
 rw [saM_iff _ _ ⟨c1, zm⟩ gj] at h1
 rw [saM_iff _ _ ⟨c2, zx⟩ gj] at h2
 have e : prN 16 (vlJ m) = prN 16 (lgJ x) := (of_decide_eq_true h1).trans (of_decide_eq_true h2).symm
 have e2 := sr_of_pr 16 _ _ c1 c2 zm zx e
 obtain ⟨ns, is, hv, ht⟩ := vl_type m
 have h3 : ([116, 121, 112, 101] : List UInt8) ∈ nmJ (srN 16 (vlJ m)) := by rw [hv]; exact (nm_sr 15 ns is _).2 ht
 rw [e2] at h3
 have h4 := (nm_sr 15 _ _ _).1 (show ([116, 121, 112, 101] : List UInt8) ∈ nmJ (srN 16 (.mk 5 0 [] [[99, 108, 105, 101, 110, 116], [105, 100], [109]] [.mk 3 0 x.c [] [], .mk 2 x.id [] [] [], muJ x.m])) from h3)
 simp at h4
theorem nul_read : mayBeM (msgIn Js.nul) = false ∧ mayLg (lgIn Js.nul) = false := ⟨by kernel_rfl, by kernel_rfl⟩
theorem ps_no {s : List UInt8} (h : (psM s).2.2 ≠ 0) : (psM s).1 = Js.nul := by
 unfold psM at h ⊢
 split
 ·rfl
 ·rename_i hl
  rw [if_neg hl] at h
  cases hv : vaM 16 (skB s) with
  | no r y => rfl
  | ok v r =>
   rw [hv] at h
   simp only at h ⊢
   cases hs : skB r with
   | nil => rw [hs] at h; exact absurd rfl h
   | cons c r2 => rfl
/-- MsgOne's facts. -/
theorem msgOne_math (s : List UInt8) :
  ((psM s).2.2 ≠ 0 → rdOk s = false ∧ glOk s = false) ∧
  (rdOk s = true → ∃ t j', wrM (rdG s) = (t, 0) ∧ psM t = (j', 0, 0) ∧ Gd 16 j' ∧ saM (psM s).1 j' = true ∧ mayBeM (rdG s) = true ∧ glOk s = false) ∧
  (glOk s = true → ∃ t j', ptM (glM s) = (t, 0) ∧ psM t = (j', 0, 0) ∧ Gd 16 j' ∧ saM (psM s).1 j' = true) := by
 have gj := psM_good s
 refine ⟨fun h => ?_, fun h => ?_, fun h => ?_⟩
 ·unfold rdOk glOk
  rw [ps_no h, nul_read.1, nul_read.2]
  exact ⟨rfl, rfl⟩
 ·have hr : rdG s = msgIn (psM s).1 := by unfold rdG; rw [if_pos h]
  have h' := h
  unfold rdOk at h'
  simp only [Bool.and_eq_true] at h'
  have mz := mz_in _ gj.2
  obtain ⟨b1, b2, b3⟩ := back_same _ _ (sz_vl _ mz) gj (Nat.le_trans (vl_le _ mz h'.1) (by omega)) h'.2
  refine ⟨_, _, ?_, b2, ?_, b3, by rw [hr]; exact h'.1, ?_⟩
  ·rw [hr]; unfold wrM; rw [if_pos h'.1]; exact b1
  ·have := psM_good (prN 16 (vlJ (msgIn (psM s).1))); rw [b2] at this; exact this
  ·cases hg : glOk s with
   | false => rfl
   | true =>
    unfold glOk at hg
    simp only [Bool.and_eq_true] at hg
    exact (not_both _ _ _ gj (sz_vl _ mz) (sz_lg _ (lz_in _ gj.2)) h'.2 hg.2).elim
 ·have hr : glM s = lgIn (psM s).1 := by unfold glM; rw [if_pos h]
  unfold glOk at h
  simp only [Bool.and_eq_true] at h
  have lz := lz_in _ gj.2
  obtain ⟨b1, b2, b3⟩ := back_same _ _ (sz_lg _ lz) gj (Nat.le_trans (lg_le 14 _ lz h.1) (by omega)) h.2
  refine ⟨_, _, ?_, b2, ?_, b3⟩
  ·rw [hr]; unfold ptM; rw [if_pos h.1]; exact b1
  ·have := psM_good (prN 16 (lgJ (lgIn (psM s).1))); rw [b2] at this; exact this
end Go.Proofs.YtmpjeahibfdehaaGreatDoor
end
section
set_option linter.unusedVariables false
set_option maxRecDepth 1000000
namespace Go.Proofs.YtmpjeahibfdehaaGreatDoor
open Go.RowKit

set_option maxHeartbeats 32000000 in
theorem one13 (s : List UInt8) (w : World) (hE : Env4 w) :
  Calls Tryz.prog 4 #[.string (str s)] w fun e w' => e = .returned (.bool true) ∧ Hid (Below w.heap.size w w') := by
 have hsz : (str s).size = s.length := str_size s
 have HAW : Hid (∀ u, Below w.heap.size w u → Calls Tryz.prog 10 #[] u fun e w' => e = .returned (.bool true) ∧ Hid (Below u.heap.size u w')) := fun u hb => awake13 u (hE.below hb)
 by_cases hbig : 65536 < s.length
 ·have hbig' : (65536 : Int) < (s.length : Int) := by omega
  clear hE
  go_enter Tryz.func4, Tryz.ntmps4
  go_wp2_with fail
  refine (uh HAW _ (Below.refl _ _)).mono ?_
  rintro e w1 ⟨rfl, h1⟩
  go_wp2_with fail
  go_ret
  exact ⟨rfl, h1⟩
 have hbig' : ¬ (65536 : Int) < (s.length : Int) := by omega
 have HPS := hide (parse_any s w hE.tb hE.et)
 have HPA : Hid (∀ (t : List UInt8) u, Below w.heap.size w u → Calls Tryz.prog 16 #[.string (str t)] u fun e w' => PsP u t e w') := fun t u hb => parse_any t u (hE.below hb).tb (hE.below hb).et
 have HRD : Hid (∀ u, Below w.heap.size w u → Calls Tryz.prog 12 #[.string (str s)] u fun e w' => ∃ a n c, e = .returned (.tuple #[mgV (rdG s) a n c, .int .i64 (erN (rdOk s))]) ∧ Hid (LRow w' a n (rdG s).l) ∧ Hid (Below u.heap.size u w')) := fun u hb => read_any2 s u (hE.below hb)
 have HGL : Hid (∀ u, Below w.heap.size w u → Calls Tryz.prog 15 #[.string (str s)] u fun e w' => e = .returned (.tuple #[lgV (glM s), .int .i64 (erN (glOk s))]) ∧ Hid (Below u.heap.size u w')) := fun u hb => getL_any s u (hE.below hb)
 have HEU : Hid (∀ u, Below w.heap.size w u → Env4 u) := fun u hb => hE.below hb
 obtain ⟨M1, M2, M3⟩ := msgOne_math s
 have HGJ := hide (psM_good s)
 have HMZ : Hid (rdOk s = true → MgZ (rdG s)) := fun h => by
  have := mz_in _ (psM_good s).2
  unfold rdG
  rw [if_pos h]
  exact this
 have HLZ : Hid (glOk s = true → LgZ (glM s)) := fun h => by
  have := lz_in _ (psM_good s).2
  unfold glM
  rw [if_pos h]
  exact this
 unfold PsP at HPS
 generalize (psM s).1 = j at HPS HGJ M2 M3
 generalize (psM s).2.1 = x1 at HPS
 generalize (psM s).2.2 = E at HPS M1
 unfold mgV at HRD
 unfold lgV at HGL
 generalize rdG s = m at HRD M2 HMZ
 generalize glM s = x at HGL M3 HLZ
 generalize rdOk s = bR at HRD M1 M2 HMZ
 generalize glOk s = bG at HGL M1 M2 M3 HLZ
 clear hE hbig
 by_cases hE0 : E = 0
 rotate_left 1
 ·obtain ⟨rfl, rfl⟩ := M1 hE0
  have qe : ((E : Int) != 0) = true := by simp [hE0]
  have qe2 : ((E : Int) == 0) = false := by simpa using hE0
  have qe3 : ¬ (E : Int) = 0 := by omega
  unfold erN at HRD HGL
  simp only [Bool.false_eq_true, if_false] at HRD HGL
  clear M1 M2 M3 HMZ HLZ HPA HEU HGJ hE0
  go_enter Tryz.func4, Tryz.ntmps4
  go_wp2_with fail
  refine (uh HPS).mono ?_
  rintro e u1 ⟨hb1, ht1, vj, rfl, hJ1⟩
  obtain ⟨jk, jn, jt, ja1, jn1, jc1, ja2, jn2, jc2, rfl⟩ := hJ1.form
  obtain ⟨V, hV⟩ : ∃ V, V = u1.heap.size := ⟨_, rfl⟩
  obtain ⟨W1, hW1⟩ : ∃ W1, W1 = u1.alloc (.cells #[.int .i64 jk, .int .i64 jn, .string (str jt), .slice ja1 jn1 jc1, .slice ja2 jn2 jc2] 44) := ⟨_, rfl⟩
  have b1 : Below u1.heap.size u1 W1 := by rw [hW1]; exact bA _
  have bW1 : Below w.heap.size w W1 := hb1.trans (b1.mono hb1.size)
  have HRV := hide (show W1.heap[V]? = some (.cells #[.int .i64 jk, .int .i64 jn, .string (str jt), .slice ja1 jn1 jc1, .slice ja2 jn2 jc2] 44 (0, 0)) by rw [hW1, hV]; exact heap_alloc_new _ _)
  have HJ1 : Hid (JV W1 (Al W1) _ j) := JV.al hJ1 (fun k hk => hk.2) b1
  have HR1 := hide (uh HRD W1 bW1)
  have HB1 := hide bW1
  clear HPS HRD hb1 ht1 hJ1 b1 bW1

  go_upto_region 4 with fail
  rw [← hW1, ← hV]
  clear hW1 hV
  go_wp2_with fail
  refine (uh HR1).mono ?_
  rintro e u2 ⟨a, n, c, rfl, hl2, h2⟩
  obtain ⟨M, hM⟩ : ∃ M, M = u2.heap.size := ⟨_, rfl⟩
  obtain ⟨W2, hW2⟩ : ∃ W2, W2 = u2.alloc (.cells #[.int .i64 m.k, .string (str m.c), .int .i64 m.fr, .int .i64 m.co, .int .i64 m.la, .int .i64 m.top, .slice a n c] 24) := ⟨_, rfl⟩
  have b2 : Below u2.heap.size u2 W2 := by rw [hW2]; exact bA _
  have b12 : Below W1.heap.size W1 W2 := (uh h2).trans (b2.mono (uh h2).size)
  have bW2 : Below w.heap.size w W2 := (uh HB1).trans (b12.mono (uh HB1).size)
  have HRM := hide (show W2.heap[M]? = some (.cells #[.int .i64 m.k, .string (str m.c), .int .i64 m.fr, .int .i64 m.co, .int .i64 m.la, .int .i64 m.top, .slice a n c] 24 (0, 0)) by rw [hW2, hM]; exact heap_alloc_new _ _)
  have HRV2 := hide ((b12.block V (aI (uh HRV)).1).trans (uh HRV))
  have HJ2 : Hid (JV W2 (Al W2) _ j) := (uh HJ1).al (fun k hk => hk) b12
  have HL2 := hide ((uh hl2).below b2)
  have HG2 := hide (uh HGL W2 bW2)
  have HB2 := hide bW2
  clear HR1 HGL hl2 h2 b2 b12 bW2 HRV HJ1 HB1
  go_upto_region 5 with fail
  rw [← hW2, ← hM]
  clear hW2 hM
  go_wp2_with fail
  refine (uh HG2).mono ?_
  rintro e u3 ⟨rfl, h3⟩
  obtain ⟨G, hG⟩ : ∃ G, G = u3.heap.size := ⟨_, rfl⟩
  obtain ⟨W3, hW3⟩ : ∃ W3, W3 = u3.alloc (.cells #[.string (str x.c), .int .i64 x.id, .int .i64 x.m.k, .string (str x.m.i), .string (str x.m.n), .string (str x.m.t)] 28) := ⟨_, rfl⟩
  have b3 : Below u3.heap.size u3 W3 := by rw [hW3]; exact bA _
  have b23 : Below W2.heap.size W2 W3 := (uh h3).trans (b3.mono (uh h3).size)
  have HB3 : Hid (Below w.heap.size w W3) := (uh HB2).trans (b23.mono (uh HB2).size)
  have HRG := hide (show W3.heap[G]? = some (.cells #[.string (str x.c), .int .i64 x.id, .int .i64 x.m.k, .string (str x.m.i), .string (str x.m.n), .string (str x.m.t)] 28 (0, 0)) by rw [hW3, hG]; exact heap_alloc_new _ _)
  have HRM3 := hide ((b23.block M (aI (uh HRM)).1).trans (uh HRM))
  have HRV3 := hide ((b23.block V (aI (uh HRV2)).1).trans (uh HRV2))
  have HJ3 : Hid (JV W3 (Al W3) _ j) := (uh HJ2).al (fun k hk => hk) b23
  have HL3 := hide ((uh HL2).below b23)
  clear HG2 h3 b3 b23 HRM HRV2 HJ2 HL2 HB2
  go_upto_region 6 with fail
  rw [← hW3, ← hG]
  clear hW3 hG
  have HA := hide (uh HAW W3 (uh HB3))
  have HBB := hide ((uh HB3))
  clear HAW
  go_wp2_with fail
  refine (uh HA).mono ?_
  rintro e u9 ⟨rfl, h9⟩
  clear HA
  go_wp2_with fail
  go_ret
  exact ⟨rfl, (uh HBB).trans ((uh h9).mono (uh HBB).size)⟩
 subst hE0
 cases bR with
 | true =>
  obtain ⟨t, j', hw, hp, gj', hs, hmb, rfl⟩ := M2 rfl
  unfold erN at HRD HGL
  simp only [Bool.false_eq_true, if_false, if_true] at HRD HGL
  have HMZ1 := hide (uh HMZ rfl)
  clear M1 M2 M3 HMZ HLZ
  go_enter Tryz.func4, Tryz.ntmps4
  go_wp2_with fail
  refine (uh HPS).mono ?_
  rintro e u1 ⟨hb1, ht1, vj, rfl, hJ1⟩
  obtain ⟨jk, jn, jt, ja1, jn1, jc1, ja2, jn2, jc2, rfl⟩ := hJ1.form
  obtain ⟨V, hV⟩ : ∃ V, V = u1.heap.size := ⟨_, rfl⟩
  obtain ⟨W1, hW1⟩ : ∃ W1, W1 = u1.alloc (.cells #[.int .i64 jk, .int .i64 jn, .string (str jt), .slice ja1 jn1 jc1, .slice ja2 jn2 jc2] 44) := ⟨_, rfl⟩
  have b1 : Below u1.heap.size u1 W1 := by rw [hW1]; exact bA _
  have bW1 : Below w.heap.size w W1 := hb1.trans (b1.mono hb1.size)
  have HRV := hide (show W1.heap[V]? = some (.cells #[.int .i64 jk, .int .i64 jn, .string (str jt), .slice ja1 jn1 jc1, .slice ja2 jn2 jc2] 44 (0, 0)) by rw [hW1, hV]; exact heap_alloc_new _ _)
  have HJ1 : Hid (JV W1 (Al W1) _ j) := JV.al hJ1 (fun k hk => hk.2) b1
  have HR1 := hide (uh HRD W1 bW1)
  have HB1 := hide bW1
  clear HPS HRD hb1 ht1 hJ1 b1 bW1
  simp only [show ((0 : Nat) : Int) = 0 from rfl]
  go_upto_region 4 with fail
  rw [← hW1, ← hV]
  clear hW1 hV
  go_wp2_with fail
  refine (uh HR1).mono ?_
  rintro e u2 ⟨a, n, c, rfl, hl2, h2⟩
  obtain ⟨M, hM⟩ : ∃ M, M = u2.heap.size := ⟨_, rfl⟩
  obtain ⟨W2, hW2⟩ : ∃ W2, W2 = u2.alloc (.cells #[.int .i64 m.k, .string (str m.c), .int .i64 m.fr, .int .i64 m.co, .int .i64 m.la, .int .i64 m.top, .slice a n c] 24) := ⟨_, rfl⟩
  have b2 : Below u2.heap.size u2 W2 := by rw [hW2]; exact bA _
  have b12 : Below W1.heap.size W1 W2 := (uh h2).trans (b2.mono (uh h2).size)
  have bW2 : Below w.heap.size w W2 := (uh HB1).trans (b12.mono (uh HB1).size)
  have HRM := hide (show W2.heap[M]? = some (.cells #[.int .i64 m.k, .string (str m.c), .int .i64 m.fr, .int .i64 m.co, .int .i64 m.la, .int .i64 m.top, .slice a n c] 24 (0, 0)) by rw [hW2, hM]; exact heap_alloc_new _ _)
  have HRV2 := hide ((b12.block V (aI (uh HRV)).1).trans (uh HRV))
  have HJ2 : Hid (JV W2 (Al W2) _ j) := (uh HJ1).al (fun k hk => hk) b12
  have HL2 := hide ((uh hl2).below b2)
  have HG2 := hide (uh HGL W2 bW2)
  have HB2 := hide bW2
  clear HR1 HGL hl2 h2 b2 b12 bW2 HRV HJ1 HB1
  go_upto_region 5 with fail
  rw [← hW2, ← hM]
  clear hW2 hM
  go_wp2_with fail
  refine (uh HG2).mono ?_
  rintro e u3 ⟨rfl, h3⟩
  obtain ⟨G, hG⟩ : ∃ G, G = u3.heap.size := ⟨_, rfl⟩
  obtain ⟨W3, hW3⟩ : ∃ W3, W3 = u3.alloc (.cells #[.string (str x.c), .int .i64 x.id, .int .i64 x.m.k, .string (str x.m.i), .string (str x.m.n), .string (str x.m.t)] 28) := ⟨_, rfl⟩
  have b3 : Below u3.heap.size u3 W3 := by rw [hW3]; exact bA _
  have b23 : Below W2.heap.size W2 W3 := (uh h3).trans (b3.mono (uh h3).size)
  have HB3 : Hid (Below w.heap.size w W3) := (uh HB2).trans (b23.mono (uh HB2).size)
  have HRG := hide (show W3.heap[G]? = some (.cells #[.string (str x.c), .int .i64 x.id, .int .i64 x.m.k, .string (str x.m.i), .string (str x.m.n), .string (str x.m.t)] 28 (0, 0)) by rw [hW3, hG]; exact heap_alloc_new _ _)
  have HRM3 := hide ((b23.block M (aI (uh HRM)).1).trans (uh HRM))
  have HRV3 := hide ((b23.block V (aI (uh HRV2)).1).trans (uh HRV2))
  have HJ3 : Hid (JV W3 (Al W3) _ j) := (uh HJ2).al (fun k hk => hk) b23
  have HL3 := hide ((uh HL2).below b23)
  clear HG2 h3 b3 b23 HRM HRV2 HJ2 HL2 HB2
  go_upto_region 6 with fail
  rw [← hW3, ← hG]
  clear hW3 hG
  have HWR : Hid (Calls Tryz.prog 11 #[.agg #[.int .i64 m.k, .string (str m.c), .int .i64 m.fr, .int .i64 m.co, .int .i64 m.la, .int .i64 m.top, .slice a n c]] W3 fun e w' => e = .returned (.tuple #[.string (str t), .int .i64 0]) ∧ Hid (Below W3.heap.size W3 w')) := by
   have h := write_any m a n c W3 (uh HEU W3 (uh HB3)) (uh HL3) (uh HMZ1)
   rw [hw] at h
   exact h
  obtain ⟨m0, m1, m2, m3, m4, m5, m6⟩ := cells7 (uh HRM3)
  go_wp2_with fail
  refine (uh HWR).mono ?_
  rintro e u4 ⟨rfl, h4⟩
  have bw4 : Below w.heap.size w u4 := (uh HB3).trans ((uh h4).mono (uh HB3).size)
  have HP4 := hide (uh HPA t u4 bw4)
  unfold PsP at HP4
  rw [hp] at HP4
  have HB4 := hide bw4
  clear bw4 m0 m1 m2 m3 m4 m5 m6 HWR hw hp
  go_wp2_with fail
  refine (uh HP4).mono ?_
  rintro e u5 ⟨hb5, ht5, vk, rfl, hJ5⟩
  obtain ⟨kk, kn, kt, ka1, kn1, kc1, ka2, kn2, kc2, rfl⟩ := hJ5.form
  obtain ⟨K, hK⟩ : ∃ K, K = u5.heap.size := ⟨_, rfl⟩
  obtain ⟨W5, hW5⟩ : ∃ W5, W5 = u5.alloc (.cells #[.int .i64 kk, .int .i64 kn, .string (str kt), .slice ka1 kn1 kc1, .slice ka2 kn2 kc2] 44) := ⟨_, rfl⟩
  have b5 : Below u5.heap.size u5 W5 := by rw [hW5]; exact bA _
  have b35 : Below W3.heap.size W3 W5 := ((uh h4).trans (hb5.mono (uh h4).size)).trans (b5.mono (Nat.le_trans (uh h4).size hb5.size))
  have bw5 : Below w.heap.size w W5 := (uh HB3).trans (b35.mono (uh HB3).size)
  have HSM := hide (same_any j j' (Al W5) _ _ W5 (uh HEU W5 bw5).tb ((uh HJ3).al (fun k hk => hk) b35) (JV.al hJ5 (fun k hk => hk.2) b5) (fun k hk => hk) (uh HGJ).2 gj'.2)
  rw [hs] at HSM
  have HCH : Hid (∀ u, Below W5.heap.size W5 u → Calls Tryz.prog 18 #[.agg #[.int .i64 m.k, .string (str m.c), .int .i64 m.fr, .int .i64 m.co, .int .i64 m.la, .int .i64 m.top, .slice a n c]] u fun e w' => e = .returned (.int .i64 0) ∧ Hid (Below u.heap.size u w')) := fun u hb => by
   have h := check_any2 m a n c u (uh HEU u (bw5.trans (hb.mono bw5.size))) (((uh HL3).below b35).below hb)
   rw [hmb] at h
   exact h
  have HMM : Hid (∀ u, Below W5.heap.size W5 u → u.heap[M]? = some (.cells #[.int .i64 m.k, .string (str m.c), .int .i64 m.fr, .int .i64 m.co, .int .i64 m.la, .int .i64 m.top, .slice a n c] 24 (0, 0))) := fun u hb => (hb.block M (aI ((b35.block M (aI (uh HRM3)).1).trans (uh HRM3))).1).trans ((b35.block M (aI (uh HRM3)).1).trans (uh HRM3))
  obtain ⟨p0, p1, p2, p3, p4⟩ := cells5 ((b35.block V (aI (uh HRV3)).1).trans (uh HRV3))
  obtain ⟨k0, k1, k2, k3, k4⟩ := cells5 (show W5.heap[K]? = some (.cells #[.int .i64 kk, .int .i64 kn, .string (str kt), .slice ka1 kn1 kc1, .slice ka2 kn2 kc2] 44 (0, 0)) by rw [hW5, hK]; exact heap_alloc_new _ _)
  have HB5 := hide bw5
  clear hb5 ht5 hJ5 b5 b35 bw5 HP4 h4 HB4 hs hmb
  simp only [show ((0 : Nat) : Int) = 0 from rfl]
  go_upto_region 11 with fail
  rw [← hW5, ← hK]
  clear hW5 hK
  go_wp2_with fail
  refine (uh HSM).mono ?_
  rintro e u6 ⟨rfl, h6⟩
  obtain ⟨m0, m1, m2, m3, m4, m5, m6⟩ := cells7 (uh HMM u6 (uh h6))
  have HC6 := hide (uh HCH u6 (uh h6))
  clear HSM HCH HMM p0 p1 p2 p3 p4 k0 k1 k2 k3 k4
  go_wp2_with fail
  refine (uh HC6).mono ?_
  rintro e u7 ⟨rfl, h7⟩
  have HB7 : Hid (Below w.heap.size w u7) := ((uh HB5).trans ((uh h6).mono (uh HB5).size)).trans ((uh h7).mono (Nat.le_trans (uh HB5).size (uh h6).size))
  clear HC6 h6 h7 m0 m1 m2 m3 m4 m5 m6
  have HA := hide (uh HAW u7 (uh HB7))
  have HBB := hide ((uh HB7))
  clear HAW
  go_wp2_with fail
  refine (uh HA).mono ?_
  rintro e u9 ⟨rfl, h9⟩
  clear HA
  go_wp2_with fail
  go_ret
  exact ⟨rfl, (uh HBB).trans ((uh h9).mono (uh HBB).size)⟩
 | false =>
  cases bG with
  | true =>
   obtain ⟨t, j', hw, hp, gj', hs⟩ := M3 rfl
   unfold erN at HRD HGL
   simp only [Bool.false_eq_true, if_false, if_true] at HRD HGL
   have HLZ1 := hide (uh HLZ rfl)
   clear M1 M2 M3 HMZ HLZ
   go_enter Tryz.func4, Tryz.ntmps4
   go_wp2_with fail
   refine (uh HPS).mono ?_
   rintro e u1 ⟨hb1, ht1, vj, rfl, hJ1⟩
   obtain ⟨jk, jn, jt, ja1, jn1, jc1, ja2, jn2, jc2, rfl⟩ := hJ1.form
   obtain ⟨V, hV⟩ : ∃ V, V = u1.heap.size := ⟨_, rfl⟩
   obtain ⟨W1, hW1⟩ : ∃ W1, W1 = u1.alloc (.cells #[.int .i64 jk, .int .i64 jn, .string (str jt), .slice ja1 jn1 jc1, .slice ja2 jn2 jc2] 44) := ⟨_, rfl⟩
   have b1 : Below u1.heap.size u1 W1 := by rw [hW1]; exact bA _
   have bW1 : Below w.heap.size w W1 := hb1.trans (b1.mono hb1.size)
   have HRV := hide (show W1.heap[V]? = some (.cells #[.int .i64 jk, .int .i64 jn, .string (str jt), .slice ja1 jn1 jc1, .slice ja2 jn2 jc2] 44 (0, 0)) by rw [hW1, hV]; exact heap_alloc_new _ _)
   have HJ1 : Hid (JV W1 (Al W1) _ j) := JV.al hJ1 (fun k hk => hk.2) b1
   have HR1 := hide (uh HRD W1 bW1)
   have HB1 := hide bW1
   clear HPS HRD hb1 ht1 hJ1 b1 bW1
   simp only [show ((0 : Nat) : Int) = 0 from rfl]
   go_upto_region 4 with fail
   rw [← hW1, ← hV]
   clear hW1 hV
   go_wp2_with fail
   refine (uh HR1).mono ?_
   rintro e u2 ⟨a, n, c, rfl, hl2, h2⟩
   obtain ⟨M, hM⟩ : ∃ M, M = u2.heap.size := ⟨_, rfl⟩
   obtain ⟨W2, hW2⟩ : ∃ W2, W2 = u2.alloc (.cells #[.int .i64 m.k, .string (str m.c), .int .i64 m.fr, .int .i64 m.co, .int .i64 m.la, .int .i64 m.top, .slice a n c] 24) := ⟨_, rfl⟩
   have b2 : Below u2.heap.size u2 W2 := by rw [hW2]; exact bA _
   have b12 : Below W1.heap.size W1 W2 := (uh h2).trans (b2.mono (uh h2).size)
   have bW2 : Below w.heap.size w W2 := (uh HB1).trans (b12.mono (uh HB1).size)
   have HRM := hide (show W2.heap[M]? = some (.cells #[.int .i64 m.k, .string (str m.c), .int .i64 m.fr, .int .i64 m.co, .int .i64 m.la, .int .i64 m.top, .slice a n c] 24 (0, 0)) by rw [hW2, hM]; exact heap_alloc_new _ _)
   have HRV2 := hide ((b12.block V (aI (uh HRV)).1).trans (uh HRV))
   have HJ2 : Hid (JV W2 (Al W2) _ j) := (uh HJ1).al (fun k hk => hk) b12
   have HL2 := hide ((uh hl2).below b2)
   have HG2 := hide (uh HGL W2 bW2)
   have HB2 := hide bW2
   clear HR1 HGL hl2 h2 b2 b12 bW2 HRV HJ1 HB1
   go_upto_region 5 with fail
   rw [← hW2, ← hM]
   clear hW2 hM
   go_wp2_with fail
   refine (uh HG2).mono ?_
   rintro e u3 ⟨rfl, h3⟩
   obtain ⟨G, hG⟩ : ∃ G, G = u3.heap.size := ⟨_, rfl⟩
   obtain ⟨W3, hW3⟩ : ∃ W3, W3 = u3.alloc (.cells #[.string (str x.c), .int .i64 x.id, .int .i64 x.m.k, .string (str x.m.i), .string (str x.m.n), .string (str x.m.t)] 28) := ⟨_, rfl⟩
   have b3 : Below u3.heap.size u3 W3 := by rw [hW3]; exact bA _
   have b23 : Below W2.heap.size W2 W3 := (uh h3).trans (b3.mono (uh h3).size)
   have HB3 : Hid (Below w.heap.size w W3) := (uh HB2).trans (b23.mono (uh HB2).size)
   have HRG := hide (show W3.heap[G]? = some (.cells #[.string (str x.c), .int .i64 x.id, .int .i64 x.m.k, .string (str x.m.i), .string (str x.m.n), .string (str x.m.t)] 28 (0, 0)) by rw [hW3, hG]; exact heap_alloc_new _ _)
   have HRM3 := hide ((b23.block M (aI (uh HRM)).1).trans (uh HRM))
   have HRV3 := hide ((b23.block V (aI (uh HRV2)).1).trans (uh HRV2))
   have HJ3 : Hid (JV W3 (Al W3) _ j) := (uh HJ2).al (fun k hk => hk) b23
   have HL3 := hide ((uh HL2).below b23)
   clear HG2 h3 b3 b23 HRM HRV2 HJ2 HL2 HB2
   go_upto_region 6 with fail
   rw [← hW3, ← hG]
   clear hW3 hG
   have HWR : Hid (Calls Tryz.prog 14 #[.agg #[.string (str x.c), .int .i64 x.id, .int .i64 x.m.k, .string (str x.m.i), .string (str x.m.n), .string (str x.m.t)]] W3 fun e w' => e = .returned (.tuple #[.string (str t), .int .i64 0]) ∧ Hid (Below W3.heap.size W3 w')) := by
    have h := put_any2 x W3 (uh HEU W3 (uh HB3)) (uh HLZ1)
    rw [hw] at h
    exact h
   obtain ⟨m0, m1, m2, m3, m4, m5⟩ := cells6 (uh HRG)
   go_wp2_with fail
   refine (uh HWR).mono ?_
   rintro e u4 ⟨rfl, h4⟩
   have bw4 : Below w.heap.size w u4 := (uh HB3).trans ((uh h4).mono (uh HB3).size)
   have HP4 := hide (uh HPA t u4 bw4)
   unfold PsP at HP4
   rw [hp] at HP4
   have HB4 := hide bw4
   clear bw4 m0 m1 m2 m3 m4 m5 HWR hw hp
   go_wp2_with fail
   refine (uh HP4).mono ?_
   rintro e u5 ⟨hb5, ht5, vk, rfl, hJ5⟩
   obtain ⟨kk, kn, kt, ka1, kn1, kc1, ka2, kn2, kc2, rfl⟩ := hJ5.form
   obtain ⟨K, hK⟩ : ∃ K, K = u5.heap.size := ⟨_, rfl⟩
   obtain ⟨W5, hW5⟩ : ∃ W5, W5 = u5.alloc (.cells #[.int .i64 kk, .int .i64 kn, .string (str kt), .slice ka1 kn1 kc1, .slice ka2 kn2 kc2] 44) := ⟨_, rfl⟩
   have b5 : Below u5.heap.size u5 W5 := by rw [hW5]; exact bA _
   have b35 : Below W3.heap.size W3 W5 := ((uh h4).trans (hb5.mono (uh h4).size)).trans (b5.mono (Nat.le_trans (uh h4).size hb5.size))
   have bw5 : Below w.heap.size w W5 := (uh HB3).trans (b35.mono (uh HB3).size)
   have HSM := hide (same_any j j' (Al W5) _ _ W5 (uh HEU W5 bw5).tb ((uh HJ3).al (fun k hk => hk) b35) (JV.al hJ5 (fun k hk => hk.2) b5) (fun k hk => hk) (uh HGJ).2 gj'.2)
   rw [hs] at HSM
   obtain ⟨p0, p1, p2, p3, p4⟩ := cells5 ((b35.block V (aI (uh HRV3)).1).trans (uh HRV3))
   obtain ⟨k0, k1, k2, k3, k4⟩ := cells5 (show W5.heap[K]? = some (.cells #[.int .i64 kk, .int .i64 kn, .string (str kt), .slice ka1 kn1 kc1, .slice ka2 kn2 kc2] 44 (0, 0)) by rw [hW5, hK]; exact heap_alloc_new _ _)
   have HB5 := hide bw5
   clear hb5 ht5 hJ5 b5 b35 bw5 HP4 h4 HB4 hs
   simp only [show ((0 : Nat) : Int) = 0 from rfl]
   go_upto_region 16 with fail
   rw [← hW5, ← hK]
   clear hW5 hK
   go_wp2_with fail
   refine (uh HSM).mono ?_
   rintro e u6 ⟨rfl, h6⟩
   have HB7 : Hid (Below w.heap.size w u6) := (uh HB5).trans ((uh h6).mono (uh HB5).size)
   clear HSM p0 p1 p2 p3 p4 k0 k1 k2 k3 k4 h6
   have HA := hide (uh HAW u6 (uh HB7))
   have HBB := hide ((uh HB7))
   clear HAW
   go_wp2_with fail
   refine (uh HA).mono ?_
   rintro e u9 ⟨rfl, h9⟩
   clear HA
   go_wp2_with fail
   go_ret
   exact ⟨rfl, (uh HBB).trans ((uh h9).mono (uh HBB).size)⟩
  | false =>
   unfold erN at HRD HGL
   simp only [Bool.false_eq_true, if_false] at HRD HGL
   clear M1 M2 M3 HMZ HLZ HPA HEU HGJ
   go_enter Tryz.func4, Tryz.ntmps4
   go_wp2_with fail
   refine (uh HPS).mono ?_
   rintro e u1 ⟨hb1, ht1, vj, rfl, hJ1⟩
   obtain ⟨jk, jn, jt, ja1, jn1, jc1, ja2, jn2, jc2, rfl⟩ := hJ1.form
   obtain ⟨V, hV⟩ : ∃ V, V = u1.heap.size := ⟨_, rfl⟩
   obtain ⟨W1, hW1⟩ : ∃ W1, W1 = u1.alloc (.cells #[.int .i64 jk, .int .i64 jn, .string (str jt), .slice ja1 jn1 jc1, .slice ja2 jn2 jc2] 44) := ⟨_, rfl⟩
   have b1 : Below u1.heap.size u1 W1 := by rw [hW1]; exact bA _
   have bW1 : Below w.heap.size w W1 := hb1.trans (b1.mono hb1.size)
   have HRV := hide (show W1.heap[V]? = some (.cells #[.int .i64 jk, .int .i64 jn, .string (str jt), .slice ja1 jn1 jc1, .slice ja2 jn2 jc2] 44 (0, 0)) by rw [hW1, hV]; exact heap_alloc_new _ _)
   have HJ1 : Hid (JV W1 (Al W1) _ j) := JV.al hJ1 (fun k hk => hk.2) b1
   have HR1 := hide (uh HRD W1 bW1)
   have HB1 := hide bW1
   clear HPS HRD hb1 ht1 hJ1 b1 bW1
   simp only [show ((0 : Nat) : Int) = 0 from rfl]
   go_upto_region 4 with fail
   rw [← hW1, ← hV]
   clear hW1 hV
   go_wp2_with fail
   refine (uh HR1).mono ?_
   rintro e u2 ⟨a, n, c, rfl, hl2, h2⟩
   obtain ⟨M, hM⟩ : ∃ M, M = u2.heap.size := ⟨_, rfl⟩
   obtain ⟨W2, hW2⟩ : ∃ W2, W2 = u2.alloc (.cells #[.int .i64 m.k, .string (str m.c), .int .i64 m.fr, .int .i64 m.co, .int .i64 m.la, .int .i64 m.top, .slice a n c] 24) := ⟨_, rfl⟩
   have b2 : Below u2.heap.size u2 W2 := by rw [hW2]; exact bA _
   have b12 : Below W1.heap.size W1 W2 := (uh h2).trans (b2.mono (uh h2).size)
   have bW2 : Below w.heap.size w W2 := (uh HB1).trans (b12.mono (uh HB1).size)
   have HRM := hide (show W2.heap[M]? = some (.cells #[.int .i64 m.k, .string (str m.c), .int .i64 m.fr, .int .i64 m.co, .int .i64 m.la, .int .i64 m.top, .slice a n c] 24 (0, 0)) by rw [hW2, hM]; exact heap_alloc_new _ _)
   have HRV2 := hide ((b12.block V (aI (uh HRV)).1).trans (uh HRV))
   have HJ2 : Hid (JV W2 (Al W2) _ j) := (uh HJ1).al (fun k hk => hk) b12
   have HL2 := hide ((uh hl2).below b2)
   have HG2 := hide (uh HGL W2 bW2)
   have HB2 := hide bW2
   clear HR1 HGL hl2 h2 b2 b12 bW2 HRV HJ1 HB1
   go_upto_region 5 with fail
   rw [← hW2, ← hM]
   clear hW2 hM
   go_wp2_with fail
   refine (uh HG2).mono ?_
   rintro e u3 ⟨rfl, h3⟩
   obtain ⟨G, hG⟩ : ∃ G, G = u3.heap.size := ⟨_, rfl⟩
   obtain ⟨W3, hW3⟩ : ∃ W3, W3 = u3.alloc (.cells #[.string (str x.c), .int .i64 x.id, .int .i64 x.m.k, .string (str x.m.i), .string (str x.m.n), .string (str x.m.t)] 28) := ⟨_, rfl⟩
   have b3 : Below u3.heap.size u3 W3 := by rw [hW3]; exact bA _
   have b23 : Below W2.heap.size W2 W3 := (uh h3).trans (b3.mono (uh h3).size)
   have HB3 : Hid (Below w.heap.size w W3) := (uh HB2).trans (b23.mono (uh HB2).size)
   have HRG := hide (show W3.heap[G]? = some (.cells #[.string (str x.c), .int .i64 x.id, .int .i64 x.m.k, .string (str x.m.i), .string (str x.m.n), .string (str x.m.t)] 28 (0, 0)) by rw [hW3, hG]; exact heap_alloc_new _ _)
   have HRM3 := hide ((b23.block M (aI (uh HRM)).1).trans (uh HRM))
   have HRV3 := hide ((b23.block V (aI (uh HRV2)).1).trans (uh HRV2))
   have HJ3 : Hid (JV W3 (Al W3) _ j) := (uh HJ2).al (fun k hk => hk) b23
   have HL3 := hide ((uh HL2).below b23)
   clear HG2 h3 b3 b23 HRM HRV2 HJ2 HL2 HB2
   go_upto_region 6 with fail
   rw [← hW3, ← hG]
   clear hW3 hG
   have HA := hide (uh HAW W3 (uh HB3))
   have HBB := hide ((uh HB3))
   clear HAW
   go_wp2_with fail
   refine (uh HA).mono ?_
   rintro e u9 ⟨rfl, h9⟩
   clear HA
   go_wp2_with fail
   go_ret
   exact ⟨rfl, (uh HBB).trans ((uh h9).mono (uh HBB).size)⟩
theorem msgOne_walk (s : List UInt8) (w : World) (hl : s.length ≤ maxLen) (hE : Env4 w) :
  Calls Tryz.prog 4 #[.string (str s)] w fun e w' => e = .returned (.bool true) ∧ Below w.heap.size w w' :=
 (one13 s w hE).mono fun e w' h => ⟨h.1, uh h.2⟩
end Go.Proofs.YtmpjeahibfdehaaGreatDoor
end
