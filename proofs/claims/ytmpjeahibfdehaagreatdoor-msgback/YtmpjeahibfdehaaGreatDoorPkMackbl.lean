/-
  msg: the mathematics of MsgOne.; msg: the mathematics of MsgBack and MsgFits.; msg: MsgBack.
-/
import Derived.Test.YtmpjeahibfdehaaGreatDoorPkMackbk
import Derived.Test.YtmpjeahibfdehaaGreatDoorPkMackbi
section
set_option linter.unusedVariables false
set_option maxRecDepth 1000000
namespace Go.Proofs.YtmpjeahibfdehaaGreatDoor
open Go.RowKit

theorem push_len {m : Mg} (h : isPushB m = true) : m.l.length ≤ 8 ∧ m.c.length ≤ 24 ∧ ∀ x ∈ m.l, mayLg x = true := by
 unfold isPushB at h
 simp only [Bool.and_eq_true, decide_eq_true_eq] at h
 obtain ⟨⟨h1, h8⟩, ha⟩ := h
 have hall : ∀ i x, m.l[i]? = some x → pushX m i x = true := fun i x hx => by
  unfold pAll at ha
  have := (List.all_eq_true.1 ha) i (List.mem_range.2 (List.getElem?_eq_some_iff.1 hx).1)
  rw [hx] at this
  simpa using this
 have hx : ∀ i x, m.l[i]? = some x → mayLg x = true ∧ x.c = m.c := fun i x hx => by
  have := hall i x hx
  unfold pushX at this
  simp only [Bool.and_eq_true, decide_eq_true_eq] at this
  exact this.1
 refine ⟨h8, ?_, fun x hm => ?_⟩
 ·obtain ⟨x, h0⟩ : ∃ x, m.l[0]? = some x := ⟨_, List.getElem?_eq_getElem (by omega)⟩
  rw [← (hx 0 x h0).2]
  exact (may_len (hx 0 x h0).1).1
 ·obtain ⟨i, hi⟩ := List.mem_iff_getElem?.1 hm
  exact (hx i x hi).1
theorem patch_len {m : Mg} (h : isPatchB m = true) : m.l.length ≤ 8 ∧ ∀ x ∈ m.l, mayLg x = true := by
 unfold isPatchB at h
 simp only [Bool.and_eq_true, decide_eq_true_eq] at h
 exact ⟨h.1.1.1.1.1.1.1, h.1.1.1.1.1.1.2⟩
theorem tyM_le (k : Int) : (tyM k).length ≤ 6 := by
 unfold tyM
 repeat' split
 all_goals simp
/-- A message that may be has a short text. -/
theorem vl_le (m : Mg) (hz : MgZ m) (h : mayBeM m = true) : (prN 16 (vlJ m)).length ≤ 32768 := by
 have et := pr_tx 15 (tyM m.k)
 have ec := pr_tx 15 m.c
 have e1 := pr_nm 15 m.fr hz.2.1
 have e2 := pr_nm 15 m.co hz.2.2.1
 have e3 := pr_nm 15 m.la hz.2.2.2.1
 have e4 := pr_nm 15 m.top hz.2.2.2.2.1
 have tl := tyM_le m.k
 have q1 := q6_le [116, 121, 112, 101]
 have q2 := q6_le [99, 108, 105, 101, 110, 116]
 have q3 := q6_le [108, 105, 115, 116]
 have q4 := q6_le [108, 97, 115, 116]
 have q5 := q6_le [116, 111, 112]
 have q6 := q6_le [99, 111, 111, 107, 105, 101]
 have q7 := q6_le [102, 114, 111, 109]
 simp only [List.length_cons, List.length_nil] at q1 q2 q3 q4 q5 q6 q7
 unfold mayBeM at h
 unfold vlJ
 by_cases h1 : m.k = 1
 ·rw [if_pos h1] at h ⊢
  simp only [Bool.and_eq_true] at h
  obtain ⟨l1, l2, l3⟩ := push_len h.2
  have el := pr4_le (prN 14) (m.l.map nuJ) 4000 (fun j hj => by obtain ⟨x, hx, rfl⟩ := List.mem_map.1 hj; exact nu_le 12 x (hz.2.2.2.2.2.2.2 x hx) (l3 x hx))
  rw [List.length_map] at el
  have hh := pr5_le (prN 15) [[116, 121, 112, 101], [99, 108, 105, 101, 110, 116], [108, 105, 115, 116]] [.mk 3 0 (tyM m.k) [] [], .mk 3 0 m.c [] [], .mk 4 0 [] [] (m.l.map nuJ)]
  simp only [List.length_cons, List.length_nil, List.range_succ, List.range_zero, List.nil_append, List.cons_append, List.map_cons, List.map_nil, List.sum_cons, List.sum_nil, nmA, List.getD_cons_zero, List.getD_cons_succ] at hh
  have el2 : (prN 15 (.mk 4 0 [] [] (m.l.map nuJ))).length ≤ 2 + m.l.length * (4000 + 1) := el
  show (prF (prN 15) _).length ≤ _
  omega
 rw [if_neg h1] at h ⊢
 by_cases h2 : m.k = 2
 ·rw [if_pos h2]
  have hh := pr5_le (prN 15) [[116, 121, 112, 101], [108, 97, 115, 116], [116, 111, 112]] [.mk 3 0 (tyM m.k) [] [], .mk 2 m.la [] [] [], .mk 2 m.top [] [] []]
  simp only [List.length_cons, List.length_nil, List.range_succ, List.range_zero, List.nil_append, List.cons_append, List.map_cons, List.map_nil, List.sum_cons, List.sum_nil, nmA, List.getD_cons_zero, List.getD_cons_succ] at hh
  show (prF (prN 15) _).length ≤ _
  omega
 rw [if_neg h2] at h ⊢
 by_cases h3 : m.k = 3
 ·rw [if_pos h3] at h ⊢
  simp only [Bool.and_eq_true] at h
  have cl := (nm_len h.1.2).1
  have hh := pr5_le (prN 15) [[116, 121, 112, 101], [99, 108, 105, 101, 110, 116], [99, 111, 111, 107, 105, 101]] [.mk 3 0 (tyM m.k) [] [], .mk 3 0 m.c [] [], .mk 2 m.co [] [] []]
  simp only [List.length_cons, List.length_nil, List.range_succ, List.range_zero, List.nil_append, List.cons_append, List.map_cons, List.map_nil, List.sum_cons, List.sum_nil, nmA, List.getD_cons_zero, List.getD_cons_succ] at hh
  show (prF (prN 15) _).length ≤ _
  omega
 rw [if_neg h3] at h ⊢
 by_cases h4 : m.k = 4
 ·rw [if_pos h4] at h ⊢
  simp only [Bool.and_eq_true] at h
  obtain ⟨l1, l3⟩ := patch_len h.2
  have el := pr4_le (prN 14) (m.l.map lgJ) 4000 (fun j hj => by obtain ⟨x, hx, rfl⟩ := List.mem_map.1 hj; exact lg_le 12 x (hz.2.2.2.2.2.2.2 x hx) (l3 x hx))
  rw [List.length_map] at el
  have hh := pr5_le (prN 15) [[116, 121, 112, 101], [102, 114, 111, 109], [99, 111, 111, 107, 105, 101], [108, 97, 115, 116], [116, 111, 112], [108, 105, 115, 116]] [.mk 3 0 (tyM m.k) [] [], .mk 2 m.fr [] [] [], .mk 2 m.co [] [] [], .mk 2 m.la [] [] [], .mk 2 m.top [] [] [], .mk 4 0 [] [] (m.l.map lgJ)]
  simp only [List.length_cons, List.length_nil, List.range_succ, List.range_zero, List.nil_append, List.cons_append, List.map_cons, List.map_nil, List.sum_cons, List.sum_nil, nmA, List.getD_cons_zero, List.getD_cons_succ] at hh
  have el2 : (prN 15 (.mk 4 0 [] [] (m.l.map lgJ))).length ≤ 2 + m.l.length * (4000 + 1) := el
  show (prF (prN 15) _).length ≤ _
  omega
 rw [if_neg h4]
 have hh := pr5_le (prN 15) [[116, 121, 112, 101], [116, 111, 112]] [.mk 3 0 (tyM m.k) [] [], .mk 2 m.top [] [] []]
 simp only [List.length_cons, List.length_nil, List.range_succ, List.range_zero, List.nil_append, List.cons_append, List.map_cons, List.map_nil, List.sum_cons, List.sum_nil, nmA, List.getD_cons_zero, List.getD_cons_succ] at hh
 show (prF (prN 15) _).length ≤ _
 omega
/-- The names of a value. -/
def nmJ : Js → List (List UInt8) | .mk _ _ _ ns _ => ns
theorem nm_sr (n : Nat) (ns : List (List UInt8)) (is : List Js) (s : List UInt8) : s ∈ nmJ (srN (n + 1) (.mk 5 0 [] ns is)) ↔ s ∈ ns := by
 have h : nmJ (srN (n + 1) (.mk 5 0 [] ns is)) = (ordS ns).map (nmA ns) := by
  show nmJ (srF (srN n) _) = _
  rw [srF_eq, if_pos rfl]
  rfl
 rw [h]
 exact (ris_names (ordS_ris ns)).mem_iff
theorem vl_type (m : Mg) : ∃ ns is, vlJ m = .mk 5 0 [] ns is ∧ ([116, 121, 112, 101] : List UInt8) ∈ ns := by
 unfold vlJ
 repeat' split
 all_goals exact ⟨_, _, rfl, by simp⟩
/-- Nothing is both a message and a logged mutation. -/
theorem not_both (m : Mg) (x : Lg) (j : Js) (gj : Gd 16 j) (zm : Sz (vlJ m)) (zx : Sz (lgJ x)) (h1 : saM (vlJ m) j = true) (h2 : saM (lgJ x) j = true) : False := by
 have c1 : ck 16 (vlJ m) = 0 := by unfold saM at h1; simp only [Bool.and_eq_true, decide_eq_true_eq] at h1; exact h1.1
 have c2 : ck 16 (lgJ x) = 0 := by unfold saM at h2; simp only [Bool.and_eq_true, decide_eq_true_eq] at h2; exact h2.1
 rw [saM_iff _ _ ⟨c1, zm⟩ gj] at h1
 rw [saM_iff _ _ ⟨c2, zx⟩ gj] at h2
 have e : prN 16 (vlJ m) = prN 16 (lgJ x) := (of_decide_eq_true h1).trans (of_decide_eq_true h2).symm
 have e2 := sr_of_pr 16 _ _ c1 c2 zm zx e
 obtain ⟨ns, is, hv, ht⟩ := vl_type m
 have h3 : ([116, 121, 112, 101] : List UInt8) ∈ nmJ (srN 16 (vlJ m)) := by rw [hv]; exact (nm_sr 15 ns is _).2 ht
 rw [e2] at h3
 have h4 := (nm_sr 15 _ _ _).1 (show ([116, 121, 112, 101] : List UInt8) ∈ nmJ (srN 16 (.mk 5 0 [] [[99, 108, 105, 101, 110, 116], [105, 100], [109]] [.mk 3 0 x.c [] [], .mk 2 x.id [] [] [], muJ x.m])) from h3)
 simp at h4
theorem nul_read : mayBeM (msgIn Js.nul) = false ∧ mayLg (lgIn Js.nul) = false := ⟨by kernel_rfl, by kernel_rfl⟩
theorem ps_no {s : List UInt8} (h : (psM s).2.2 ≠ 0) : (psM s).1 = Js.nul := by
 unfold psM at h ⊢
 split
 ·rfl
 ·rename_i hl
  rw [if_neg hl] at h
  cases hv : vaM 16 (skB s) with
  | no r y => rfl
  | ok v r =>
   rw [hv] at h
   simp only at h ⊢
   cases hs : skB r with
   | nil => rw [hs] at h; exact absurd rfl h
   | cons c r2 => rfl
/-- MsgOne's facts. -/
theorem msgOne_math (s : List UInt8) :
  ((psM s).2.2 ≠ 0 → rdOk s = false ∧ glOk s = false) ∧
  (rdOk s = true → ∃ t j', wrM (rdG s) = (t, 0) ∧ psM t = (j', 0, 0) ∧ Gd 16 j' ∧ saM (psM s).1 j' = true ∧ mayBeM (rdG s) = true ∧ glOk s = false) ∧
  (glOk s = true → ∃ t j', ptM (glM s) = (t, 0) ∧ psM t = (j', 0, 0) ∧ Gd 16 j' ∧ saM (psM s).1 j' = true) := by
 have gj := psM_good s
 refine ⟨fun h => ?_, fun h => ?_, fun h => ?_⟩
 ·unfold rdOk glOk
  rw [ps_no h, nul_read.1, nul_read.2]
  exact ⟨rfl, rfl⟩
 ·have hr : rdG s = msgIn (psM s).1 := by unfold rdG; rw [if_pos h]
  have h' := h
  unfold rdOk at h'
  simp only [Bool.and_eq_true] at h'
  have mz := mz_in _ gj.2
  obtain ⟨b1, b2, b3⟩ := back_same _ _ (sz_vl _ mz) gj (Nat.le_trans (vl_le _ mz h'.1) (by omega)) h'.2
  refine ⟨_, _, ?_, b2, ?_, b3, by rw [hr]; exact h'.1, ?_⟩
  ·rw [hr]; unfold wrM; rw [if_pos h'.1]; exact b1
  ·have := psM_good (prN 16 (vlJ (msgIn (psM s).1))); rw [b2] at this; exact this
  ·cases hg : glOk s with
   | false => rfl
   | true =>
    unfold glOk at hg
    simp only [Bool.and_eq_true] at hg
    exact (not_both _ _ _ gj (sz_vl _ mz) (sz_lg _ (lz_in _ gj.2)) h'.2 hg.2).elim
 ·have hr : glM s = lgIn (psM s).1 := by unfold glM; rw [if_pos h]
  unfold glOk at h
  simp only [Bool.and_eq_true] at h
  have lz := lz_in _ gj.2
  obtain ⟨b1, b2, b3⟩ := back_same _ _ (sz_lg _ lz) gj (Nat.le_trans (lg_le 14 _ lz h.1) (by omega)) h.2
  refine ⟨_, _, ?_, b2, ?_, b3⟩
  ·rw [hr]; unfold ptM; rw [if_pos h.1]; exact b1
  ·have := psM_good (prN 16 (lgJ (lgIn (psM s).1))); rw [b2] at this; exact this
end Go.Proofs.YtmpjeahibfdehaaGreatDoor
end
section
set_option linter.unusedVariables false
set_option maxRecDepth 1000000
namespace Go.Proofs.YtmpjeahibfdehaaGreatDoor
open Go.RowKit

theorem chr_low1 {c : UInt8} (h : c.toNat < 128) : chr [c] = none := by
 have e := chr_en c.toNat ⟨by omega, by omega⟩
 unfold enB at e
 rw [if_pos h] at e
 simpa using e
theorem chr_lows : ∀ (l : List UInt8), (∀ c ∈ l, c.toNat < 128) → chr l = none
 | [], _ => chr_nil
 | c :: r, h => chr_app (a := [c]) (chr_low1 (h c (by simp))) (chr_lows r fun x hx => h x (by simp [hx]))
theorem nmB_low {c : UInt8} (h : nmB c = true) : c.toNat < 128 := by
 unfold nmB at h
 simp only [Bool.or_eq_true, Bool.and_eq_true, decide_eq_true_eq, beq_iff_eq, UInt8.le_iff_toNat_le] at h
 rcases h with ((((h | h) | h) | h) | h) | h
 ·have := h.2; simp at this; omega
 ·have := h.2; simp at this; omega
 ·have := h.2; simp at this; omega
 ·rw [h]; decide
 ·rw [h]; decide
 ·rw [h]; decide
theorem nm_chr {s : List UInt8} (h : nmOk s = true) : chr s = none := by
 unfold nmOk at h
 simp only [Bool.and_eq_true] at h
 exact chr_lows s fun c hc => nmB_low ((List.all_eq_true.1 h.2) c hc)
/-- What may be told has texts without a place where no character begins. -/
theorem may_chr {x : Lg} (h : mayLg x = true) : chr x.c = none ∧ chr x.m.i = none ∧ chr x.m.n = none ∧ chr x.m.t = none := by
 unfold mayLg at h
 simp only [Bool.and_eq_true, decide_eq_true_eq] at h
 obtain ⟨⟨h1, _⟩, h2⟩ := h
 unfold mayMu at h2
 split at h2
 ·omega
 split at h2
 ·omega
 rename_i hi
 split at h2
 ·omega
 rename_i hn
 split at h2
 ·omega
 rename_i ht
 refine ⟨nm_chr h1, nm_chr (by simpa using hi), ?_, ?_⟩
 ·have hn' : nmMay x.m = true := by simpa using hn
  unfold nmMay at hn'
  split at hn'
  ·rename_i h; rw [h.2]; exact chr_nil
  split at hn'
  ·exact nm_chr hn'
  ·have : x.m.n = [] := by simpa using hn'
   rw [this]; exact chr_nil
 ·have ht' : txMay x.m = true := by simpa using ht
  unfold txMay at ht'
  split at ht'
  ·unfold isSt at ht'
   simp only [Bool.or_eq_true, decide_eq_true_eq] at ht'
   rcases ht' with e | e <;> rw [e] <;> exact chr_lows _ (by decide)
  split at ht'
  ·unfold wordB at ht'
   simp only [Bool.and_eq_true, decide_eq_true_eq] at ht'
   exact ht'.2
  ·have : x.m.t = [] := by simpa using ht'
   rw [this]; exact chr_nil
theorem ck_tx (n : Nat) {t : List UInt8} (h : chr t = none) : ck n (.mk 3 0 t [] []) = 0 := ck_flat n 3 0 t (by omega) (by unfold wfB; simp [h])
theorem ck_nm (n : Nat) (z : Int) : ck n (.mk 2 z [] [] []) = 0 := ck_flat n 2 z [] (by omega) (by unfold wfB; simp)
theorem ck_obj (n : Nat) (ns : List (List UInt8)) (is : List Js) (h1 : ns.length = is.length) (h2 : ∀ s ∈ ns, ∀ c ∈ s, c.toNat < 128) (h3 : ns.Nodup) (h4 : ∀ j ∈ is, ck n j = 0) : ck (n + 1) (.mk 5 0 [] ns is) = 0 := by
 show ckF (some (ck n)) (.mk 5 0 [] ns is) = 0
 have hw : wfB (.mk 5 0 [] ns is) = true := by
  unfold wfB
  simp only [h1, show ¬ ((5 : Int) = 0) by decide, show ¬ ((5 : Int) = 1) by decide, show ¬ ((5 : Int) = 2) by decide, show ¬ ((5 : Int) = 3) by decide, show ¬ ((5 : Int) = 4) by decide, if_true, if_false]
  simp
  exact fun s hs => chr_lows s (h2 s hs)
 rw [ckF_eq, if_neg (by simp), if_neg (by rw [hw]; simp), if_neg (by simpa using h3)]
 exact fsE_zero.2 h4
theorem ck_row (n : Nat) (is : List Js) (h : ∀ j ∈ is, ck n j = 0) : ck (n + 1) (.mk 4 0 [] [] is) = 0 := by
 show ckF (some (ck n)) (.mk 4 0 [] [] is) = 0
 rw [ckF_eq, if_neg (by simp), if_neg (by unfold wfB; simp), if_neg (by simp)]
 exact fsE_zero.2 h
theorem ck_mu (n : Nat) (x : Mu) (h1 : chr x.i = none) (h2 : chr x.n = none) (h3 : chr x.t = none) : ck (n + 1) (muJ x) = 0 :=
 ck_obj n _ _ rfl (by decide) (by decide) (by
  intro j hj
  simp only [List.mem_cons, List.not_mem_nil, or_false] at hj
  rcases hj with rfl | rfl | rfl | rfl
  ·exact ck_nm n _
  ·exact ck_tx n h1
  ·exact ck_tx n h2
  ·exact ck_tx n h3)
theorem ck_lg (n : Nat) (x : Lg) (h : mayLg x = true) : ck (n + 2) (lgJ x) = 0 := by
 obtain ⟨h0, h1, h2, h3⟩ := may_chr h
 exact ck_obj (n + 1) _ _ rfl (by decide) (by decide) (by
  intro j hj
  simp only [List.mem_cons, List.not_mem_nil, or_false] at hj
  rcases hj with rfl | rfl | rfl
  ·exact ck_tx _ h0
  ·exact ck_nm _ _
  ·exact ck_mu n _ h1 h2 h3)
theorem ck_nu (n : Nat) (x : Lg) (h : mayLg x = true) : ck (n + 2) (nuJ x) = 0 := by
 obtain ⟨h0, h1, h2, h3⟩ := may_chr h
 exact ck_obj (n + 1) _ _ rfl (by decide) (by decide) (by
  intro j hj
  simp only [List.mem_cons, List.not_mem_nil, or_false] at hj
  rcases hj with rfl | rfl
  ·exact ck_nm _ _
  ·exact ck_mu n _ h1 h2 h3)
theorem ty_chr (k : Int) : chr (tyM k) = none := by
 unfold tyM
 repeat' split
 all_goals exact chr_lows _ (by decide)
theorem push_c {m : Mg} (h : isPushB m = true) : nmOk m.c = true ∧ ∀ x ∈ m.l, x.c = m.c := by
 unfold isPushB at h
 simp only [Bool.and_eq_true, decide_eq_true_eq] at h
 obtain ⟨⟨h1, h8⟩, ha⟩ := h
 have hx : ∀ i x, m.l[i]? = some x → mayLg x = true ∧ x.c = m.c := fun i x hx => by
  have hall : pushX m i x = true := by
   unfold pAll at ha
   have := (List.all_eq_true.1 ha) i (List.mem_range.2 (List.getElem?_eq_some_iff.1 hx).1)
   rw [hx] at this
   simpa using this
  unfold pushX at hall
  simp only [Bool.and_eq_true, decide_eq_true_eq] at hall
  exact hall.1
 refine ⟨?_, fun x hm => ?_⟩
 ·obtain ⟨x, h0⟩ : ∃ x, m.l[0]? = some x := ⟨_, List.getElem?_eq_getElem (by omega)⟩
  have h := hx 0 x h0
  rw [← h.2]
  have h2 := h.1
  unfold mayLg at h2
  simp only [Bool.and_eq_true] at h2
  exact h2.1.1
 ·obtain ⟨i, hi⟩ := List.mem_iff_getElem?.1 hm
  exact (hx i x hi).2
/-- A message that may be is a value that may be, and is read as it was. -/
theorem vl_back (m : Mg) (h : mayBeM m = true) : ck 16 (vlJ m) = 0 ∧ msgIn (srN 16 (vlJ m)) = m := by
 unfold mayBeM at h
 obtain ⟨k, c, fr, co, la, top, l⟩ := m
 unfold vlJ
 simp only at h ⊢
 by_cases h1 : k = 1
 ·subst h1
  rw [if_pos rfl] at h ⊢
  simp only [Bool.and_eq_true, decide_eq_true_eq] at h
  obtain ⟨⟨⟨⟨rfl, rfl⟩, rfl⟩, rfl⟩, hp⟩ := h
  obtain ⟨l1, l2, l3⟩ := push_len hp
  obtain ⟨c1, c2⟩ := push_c hp
  refine ⟨ck_obj 15 _ _ rfl (by decide) (by decide) (by
   intro j hj
   simp only [List.mem_cons, List.not_mem_nil, or_false] at hj
   rcases hj with rfl | rfl | rfl
   ·exact ck_tx _ (ty_chr _)
   ·exact ck_tx _ (nm_chr c1)
   ·exact ck_row 14 _ (fun j hj => by obtain ⟨x, hx, rfl⟩ := List.mem_map.1 hj; exact ck_nu 12 x (l3 x hx))), ?_⟩
  have e : (((l.map nuJ).map (srN 14)).map fun i => (⟨c, (lgIn i).id, (lgIn i).m⟩ : Lg)) = l := by
   rw [List.map_map, List.map_map]
   refine (List.map_congr_left (fun x hx => ?_)).trans (List.map_id l)
   have hc : x.c = c := c2 x hx
   show (⟨c, (lgIn (srN 14 (nuJ x))).id, (lgIn (srN 14 (nuJ x))).m⟩ : Lg) = x
   rw [← hc]
   kernel_rfl
  refine Eq.trans (b := ⟨1, c, 0, 0, 0, 0, ((l.map nuJ).map (srN 14)).map fun i => (⟨c, (lgIn i).id, (lgIn i).m⟩ : Lg)⟩) ?_ (by rw [e])
  kernel_rfl
 rw [if_neg h1] at h ⊢
 by_cases h2 : k = 2
 ·subst h2
  rw [if_pos rfl] at h ⊢
  simp only [Bool.and_eq_true, decide_eq_true_eq, List.length_eq_zero_iff] at h
  obtain ⟨⟨⟨⟨⟨rfl, rfl⟩, rfl⟩, rfl⟩, _⟩, _⟩ := h
  refine ⟨ck_obj 15 _ _ rfl (by decide) (by decide) (by
   intro j hj
   simp only [List.mem_cons, List.not_mem_nil, or_false] at hj
   rcases hj with rfl | rfl | rfl
   ·exact ck_tx _ (ty_chr _)
   ·exact ck_nm _ _
   ·exact ck_nm _ _), by kernel_rfl⟩
 rw [if_neg h2] at h ⊢
 by_cases h3 : k = 3
 ·subst h3
  rw [if_pos rfl] at h ⊢
  simp only [Bool.and_eq_true, decide_eq_true_eq, List.length_eq_zero_iff] at h
  obtain ⟨⟨⟨⟨⟨rfl, rfl⟩, rfl⟩, rfl⟩, hc⟩, _⟩ := h
  refine ⟨ck_obj 15 _ _ rfl (by decide) (by decide) (by
   intro j hj
   simp only [List.mem_cons, List.not_mem_nil, or_false] at hj
   rcases hj with rfl | rfl | rfl
   ·exact ck_tx _ (ty_chr _)
   ·exact ck_tx _ (nm_chr hc)
   ·exact ck_nm _ _), by kernel_rfl⟩
 rw [if_neg h3] at h ⊢
 by_cases h4 : k = 4
 ·subst h4
  rw [if_pos rfl] at h ⊢
  simp only [Bool.and_eq_true, decide_eq_true_eq] at h
  obtain ⟨rfl, hp⟩ := h
  obtain ⟨l1, l3⟩ := patch_len hp
  refine ⟨ck_obj 15 _ _ rfl (by decide) (by decide) (by
   intro j hj
   simp only [List.mem_cons, List.not_mem_nil, or_false] at hj
   rcases hj with rfl | rfl | rfl | rfl | rfl | rfl
   ·exact ck_tx _ (ty_chr _)
   ·exact ck_nm _ _
   ·exact ck_nm _ _
   ·exact ck_nm _ _
   ·exact ck_nm _ _
   ·exact ck_row 14 _ (fun j hj => by obtain ⟨x, hx, rfl⟩ := List.mem_map.1 hj; exact ck_lg 12 x (l3 x hx))), ?_⟩
  have e : (((l.map lgJ).map (srN 14)).map fun i => lgIn i) = l := by
   rw [List.map_map, List.map_map]
   refine (List.map_congr_left (fun x hx => ?_)).trans (List.map_id l)
   show lgIn (srN 14 (lgJ x)) = x
   kernel_rfl
  refine Eq.trans (b := ⟨4, [], fr, co, la, top, ((l.map lgJ).map (srN 14)).map fun i => lgIn i⟩) ?_ (by rw [e])
  kernel_rfl
 rw [if_neg h4] at h ⊢
 split at h
 rotate_left 1
 ·cases h
 rename_i h5
 subst h5
 simp only [Bool.and_eq_true, decide_eq_true_eq, List.length_eq_zero_iff] at h
 obtain ⟨⟨⟨⟨⟨rfl, rfl⟩, rfl⟩, rfl⟩, rfl⟩, _⟩ := h
 exact ⟨ck_obj 15 _ _ rfl (by decide) (by decide) (by
  intro j hj
  simp only [List.mem_cons, List.not_mem_nil, or_false] at hj
  rcases hj with rfl | rfl
  ·exact ck_tx _ (ty_chr _)
  ·exact ck_nm _ _), by kernel_rfl⟩
/-- Numbers are such as memory has. -/
def LiZ (x : Lg) : Prop := (-9223372036854775808 ≤ x.id ∧ x.id ≤ 9223372036854775807) ∧ (-9223372036854775808 ≤ x.m.k ∧ x.m.k ≤ 9223372036854775807)
def MiZ (m : Mg) : Prop := (-9223372036854775808 ≤ m.k ∧ m.k ≤ 9223372036854775807) ∧ (-9223372036854775808 ≤ m.fr ∧ m.fr ≤ 9223372036854775807) ∧ (-9223372036854775808 ≤ m.co ∧ m.co ≤ 9223372036854775807) ∧ (-9223372036854775808 ≤ m.la ∧ m.la ≤ 9223372036854775807) ∧ (-9223372036854775808 ≤ m.top ∧ m.top ≤ 9223372036854775807) ∧ ∀ x ∈ m.l, LiZ x
theorem lz_of {x : Lg} (hi : LiZ x) (h : mayLg x = true) : LgZ x := by
 obtain ⟨h1, h2, h3, h4⟩ := may_len h
 exact ⟨hi.1, hi.2, by omega, by omega, by omega, by omega⟩
theorem mz_of {m : Mg} (hi : MiZ m) (h : mayBeM m = true) : MgZ m := by
 have key : m.c.length ≤ 24 ∧ m.l.length ≤ 8 ∧ ∀ x ∈ m.l, mayLg x = true := by
  unfold mayBeM at h
  have nil : m.l.length = 0 → ∀ x ∈ m.l, mayLg x = true := fun e x hx => by rw [List.length_eq_zero_iff.1 e] at hx; cases hx
  split at h
  ·simp only [Bool.and_eq_true] at h
   obtain ⟨h1, h2, h3⟩ := push_len h.2
   exact ⟨h2, h1, h3⟩
  split at h
  ·simp only [Bool.and_eq_true, decide_eq_true_eq] at h
   exact ⟨by rw [h.1.1.1.1.1]; simp, by omega, nil h.1.1.2⟩
  split at h
  ·simp only [Bool.and_eq_true, decide_eq_true_eq] at h
   exact ⟨(nm_len h.1.2).1, by omega, nil h.1.1.2⟩
  split at h
  ·simp only [Bool.and_eq_true, decide_eq_true_eq] at h
   obtain ⟨h1, h3⟩ := patch_len h.2
   exact ⟨by rw [h.1]; simp, h1, h3⟩
  split at h
  ·simp only [Bool.and_eq_true, decide_eq_true_eq] at h
   exact ⟨by rw [h.1.1.1.1.1]; simp, by omega, nil h.1.2⟩
  ·cases h
 exact ⟨hi.1, hi.2.1, hi.2.2.1, hi.2.2.2.1, hi.2.2.2.2.1, by omega, by omega, fun x hx => lz_of (hi.2.2.2.2.2 x hx) (key.2.2 x hx)⟩
theorem lg_back (x : Lg) : lgIn (srN 16 (lgJ x)) = x := by kernel_rfl
theorem sa_sr (a : Js) (hck : ck 16 a = 0) (za : Sz a) : saM a (srN 16 a) = true := by
 rw [saM_iff a _ ⟨hck, za⟩ (ck_sr 16 a hck za), pr_sr 16 a hck]
 exact decide_eq_true rfl
theorem pr_ne (n : Nat) (ns : List (List UInt8)) (is : List Js) : prN (n + 1) (.mk 5 0 [] ns is) ≠ [] := by
 show prF (prN n) _ ≠ []
 rw [pr5]
 simp
/-- What is put is short, and it is got as it was. -/
theorem put_back (x : Lg) (hi : LiZ x) : (mayLg x = true ∧ ∃ t, ptM x = (t, 0) ∧ t ≠ [] ∧ t.length ≤ 4096 ∧ glOk t = true ∧ glM t = x) ∨ (mayLg x = false ∧ ptM x = ([], 130)) := by
 cases h : mayLg x with
 | false => right; exact ⟨rfl, by unfold ptM; rw [h]; rfl⟩
 | true =>
  left
  have hz := lz_of hi h
  have hck := ck_lg 14 x h
  have hl : (prN 16 (lgJ x)).length ≤ 4000 := lg_le 14 x hz h
  have hzs := sz_lg x hz
  have hps := ps_print (lgJ x) hck hzs (by omega)
  have hg : glOk (prN 16 (lgJ x)) = true := by
   unfold glOk
   rw [hps]
   simp only
   rw [lg_back, h, sa_sr _ hck hzs]
   rfl
  refine ⟨rfl, prN 16 (lgJ x), ?_, pr_ne 15 _ _, by omega, hg, ?_⟩
  ·unfold ptM prM
   rw [if_pos h, if_neg (by rw [hck]; simp), if_neg (by omega)]
  ·unfold glM
   rw [if_pos hg, hps]
   exact lg_back x
theorem wr_back (m : Mg) (hi : MiZ m) : (mayBeM m = true ∧ ∃ t, wrM m = (t, 0) ∧ t ≠ [] ∧ t.length ≤ 32768 ∧ rdOk t = true ∧ rdG t = m) ∨ (mayBeM m = false ∧ wrM m = ([], 130)) := by
 cases h : mayBeM m with
 | false => right; exact ⟨rfl, by unfold wrM; rw [h]; rfl⟩
 | true =>
  left
  have hz := mz_of hi h
  obtain ⟨hck, hb⟩ := vl_back m h
  have hl := vl_le m hz h
  have hzs := sz_vl m hz
  have hps := ps_print (vlJ m) hck hzs (by omega)
  have hg : rdOk (prN 16 (vlJ m)) = true := by
   unfold rdOk
   rw [hps]
   simp only
   rw [hb, h, sa_sr _ hck hzs]
   rfl
  refine ⟨rfl, prN 16 (vlJ m), ?_, ?_, hl, hg, ?_⟩
  ·unfold wrM prM
   rw [if_pos h, if_neg (by rw [hck]; simp), if_neg (by omega)]
  ·obtain ⟨ns, is, hv, _⟩ := vl_type m
   rw [hv]
   exact pr_ne 15 ns is
  ·unfold rdG
   rw [if_pos hg, hps]
   exact hb
end Go.Proofs.YtmpjeahibfdehaaGreatDoor
end
section
set_option linter.unusedVariables false
set_option maxRecDepth 1000000
namespace Go.Proofs.YtmpjeahibfdehaaGreatDoor
open Go.RowKit

theorem lrow1 {u : World} {G : Nat} {x : Lg} (h : u.heap[G]? = some (.cells #[.string (str x.c), .int .i64 x.id, .int .i64 x.m.k, .string (str x.m.i), .string (str x.m.n), .string (str x.m.t)] 28 (0, 0))) : LRow u (some ⟨G, 0, none⟩) 1 [x] := by
 refine ⟨rfl, fun _ => ⟨G, 0, rfl, (aI h).1, fun i y hy r v hv => ?_⟩⟩
 match i, hy with
 | 0, hy =>
  obtain rfl : x = y := by simpa using hy
  obtain ⟨h0, h1, h2, h3, h4, h5⟩ := cells6 h
  match r, hv with
  | 0, hv => rw [← Option.some.inj hv]; exact h0
  | 1, hv => rw [← Option.some.inj hv]; exact h1
  | 2, hv => rw [← Option.some.inj hv]; exact h2
  | 3, hv => rw [← Option.some.inj hv]; exact h3
  | 4, hv => rw [← Option.some.inj hv]; exact h4
  | 5, hv => rw [← Option.some.inj hv]; exact h5
  | r + 6, hv => simp [lgC] at hv
 | i + 1, hy => simp at hy
set_option maxHeartbeats 32000000 in
theorem back13 (m : Mg) (a : Option Addr) (n c : Nat) (x : Lg) (w : World) (hE : Env4 w) (hl : LRow w a n m.l) (hi : MiZ m) (hx : LiZ x) :
  Calls Tryz.prog 3 #[mgV m a n c, lgV x] w fun e w' => e = .returned (.bool true) ∧ Hid (Below w.heap.size w w') := by
 unfold mgV lgV
 have k1 : (str m.c).size = m.c.length := str_size _
 obtain ⟨X, hX⟩ : ∃ X, X = w.heap.size := ⟨_, rfl⟩
 obtain ⟨Y, hY⟩ : ∃ Y, Y = w.heap.size + 1 := ⟨_, rfl⟩
 obtain ⟨W, hW⟩ : ∃ W, W = (w.alloc (.cells #[.int .i64 m.k, .string (str m.c), .int .i64 m.fr, .int .i64 m.co, .int .i64 m.la, .int .i64 m.top, .slice a n c] 24)).alloc (.cells #[.string (str x.c), .int .i64 x.id, .int .i64 x.m.k, .string (str x.m.i), .string (str x.m.n), .string (str x.m.t)] 28) := ⟨_, rfl⟩
 have bW : Below w.heap.size w W := by rw [hW]; exact below2 w _ _
 have rX : W.heap[X]? = some (.cells #[.int .i64 m.k, .string (str m.c), .int .i64 m.fr, .int .i64 m.co, .int .i64 m.la, .int .i64 m.top, .slice a n c] 24 (0, 0)) := by
  rw [hW, hX, heap_alloc_old _ _ (by simp)]
  exact heap_alloc_new _ _
 have rY : W.heap[Y]? = some (.cells #[.string (str x.c), .int .i64 x.id, .int .i64 x.m.k, .string (str x.m.i), .string (str x.m.n), .string (str x.m.t)] 28 (0, 0)) := by
  rw [hW, hY]
  exact heap_alloc2_new _ _ _
 have HBW := hide bW
 have HX : Hid (∀ u, Below W.heap.size W u → u.heap[X]? = some (.cells #[.int .i64 m.k, .string (str m.c), .int .i64 m.fr, .int .i64 m.co, .int .i64 m.la, .int .i64 m.top, .slice a n c] 24 (0, 0))) := fun u hb => (hb.block X (aI rX).1).trans rX
 have HY : Hid (∀ u, Below W.heap.size W u → u.heap[Y]? = some (.cells #[.string (str x.c), .int .i64 x.id, .int .i64 x.m.k, .string (str x.m.i), .string (str x.m.n), .string (str x.m.t)] 28 (0, 0))) := fun u hb => (hb.block Y (aI rY).1).trans rY
 have HL : Hid (∀ u, Below W.heap.size W u → LRow u a n m.l) := fun u hb => (hl.below bW).below hb
 have HFN := hide (fine_any a n c m.l W (hl.below bW))
 have HAW : Hid (∀ u, Below W.heap.size W u → Calls Tryz.prog 10 #[] u fun e w' => e = .returned (.bool true) ∧ Hid (Below u.heap.size u w')) := fun u hb => awake13 u ((hE.below bW).below hb)
 have HWR : Hid (∀ u, Below W.heap.size W u → Calls Tryz.prog 11 #[mgV m a n c] u fun e w' => e = .returned (.tuple #[.string (str (wrM m).1), .int .i64 (((wrM m).2 : Nat) : Int)]) ∧ Hid (Below u.heap.size u w')) := fun u hb => write_any m a n c u ((hE.below bW).below hb) ((hl.below bW).below hb) (mz_of hi)
 have HPT : Hid (∀ u, Below W.heap.size W u → Calls Tryz.prog 14 #[lgV x] u fun e w' => e = .returned (.tuple #[.string (str (ptM x).1), .int .i64 (((ptM x).2 : Nat) : Int)]) ∧ Hid (Below u.heap.size u w')) := fun u hb => put_any2 x u ((hE.below bW).below hb) (lz_of hx)
 have HRD : Hid (∀ s u, Below W.heap.size W u → Calls Tryz.prog 12 #[.string (str s)] u fun e w' => ∃ a n c, e = .returned (.tuple #[mgV (rdG s) a n c, .int .i64 (erN (rdOk s))]) ∧ Hid (LRow w' a n (rdG s).l) ∧ Hid (Below u.heap.size u w')) := fun s u hb => read_any2 s u ((hE.below bW).below hb)
 have HGL : Hid (∀ s u, Below W.heap.size W u → Calls Tryz.prog 15 #[.string (str s)] u fun e w' => e = .returned (.tuple #[lgV (glM s), .int .i64 (erN (glOk s))]) ∧ Hid (Below u.heap.size u w')) := fun s u hb => getL_any s u ((hE.below bW).below hb)
 have HWB := hide (wr_back m hi)
 have HPB := hide (put_back x hx)
 unfold mgV at HWR
 unfold lgV at HPT
 obtain ⟨p0, p1, p2, p3, p4, p5, p6⟩ := cells7 (rX)
 clear hE hl hi hx bW rX rY
 go_enter Tryz.func3, Tryz.ntmps3
 go_upto_region 1 with fail
 rw [← hW, ← hY, ← hX]
 clear hW hX hY
 go_wp2_with fail
 refine (uh HFN).mono ?_
 rintro e u1 ⟨rfl, h1⟩
 have HB1 := h1
 clear HFN h1
 have hn50 : Hid (fnM m.l = true → n ≤ 50) := fun h => by have := fn_50 h; have := (uh HL W (Below.refl _ _)).1; omega
 generalize fnM m.l = bf at hn50 ⊢
 cases bf with
 | false =>
  have HA := hide (uh HAW u1 (uh HB1))
  have HBB : Hid (Below w.heap.size w u1) := (uh HBW).trans (((uh HB1)).mono (uh HBW).size)
  clear HAW HX HY HL HWR HPT HRD HGL HWB HPB
  go_wp2_with fail
  refine (uh HA).mono ?_
  rintro e u9 ⟨rfl, h9⟩
  clear HA
  go_wp2_with fail
  go_ret
  exact ⟨rfl, (uh HBB).trans ((uh h9).mono (uh HBB).size)⟩
 | true =>
 have hn9 := uh hn50 rfl
 clear hn50
 clear p0 p1 p2 p3 p4 p5 p6
 obtain ⟨r0, r1, r2, r3, r4, r5⟩ := cells6 (uh HY u1 (uh HB1))
 obtain ⟨G, hG⟩ : ∃ G, G = u1.heap.size := ⟨_, rfl⟩
 obtain ⟨U, hU⟩ : ∃ U, U = u1.alloc (.cells #[.string (str x.c), .int .i64 x.id, .int .i64 x.m.k, .string (str x.m.i), .string (str x.m.n), .string (str x.m.t)] 28) := ⟨_, rfl⟩
 have bU : Below u1.heap.size u1 U := by rw [hU]; exact bA _
 have HBU : Hid (Below W.heap.size W U) := (uh HB1).trans (bU.mono (uh HB1).size)
 have HF2 := hide (fine_any (some ⟨G, 0, none⟩) 1 1 [x] U (lrow1 (by rw [hU, hG]; exact heap_alloc_new _ _)))
 clear bU
 go_wp2_with fail
 rw [← hU, ← hG]
 clear hU hG
 refine (uh HF2).mono ?_
 rintro e u2 ⟨rfl, h2⟩
 have HB2 : Hid (Below W.heap.size W u2) := (uh HBU).trans ((uh h2).mono (uh HBU).size)
 clear HF2 h2 HBU HB1 r0 r1 r2 r3 r4 r5
 generalize fnM [x] = bg
 cases bg with
 | false =>
  have HA := hide (uh HAW u2 (uh HB2))
  have HBB : Hid (Below w.heap.size w u2) := (uh HBW).trans (((uh HB2)).mono (uh HBW).size)
  clear HAW HX HY HL HWR HPT HRD HGL HWB HPB
  go_wp2_with fail
  refine (uh HA).mono ?_
  rintro e u9 ⟨rfl, h9⟩
  clear HA
  go_wp2_with fail
  go_ret
  exact ⟨rfl, (uh HBB).trans ((uh h9).mono (uh HBB).size)⟩
 | true =>
 obtain ⟨p0, p1, p2, p3, p4, p5, p6⟩ := cells7 (uh HX u2 (uh HB2))
 by_cases hbig : 65536 < m.c.length
 ·have hbig' : (65536 : Int) < (m.c.length : Int) := by omega
  have HA := hide (uh HAW u2 (uh HB2))
  have HBB : Hid (Below w.heap.size w u2) := (uh HBW).trans (((uh HB2)).mono (uh HBW).size)
  clear HAW HX HY HL HWR HPT HRD HGL HWB HPB
  go_wp2_with fail
  refine (uh HA).mono ?_
  rintro e u9 ⟨rfl, h9⟩
  clear HA
  go_wp2_with fail
  go_ret
  exact ⟨rfl, (uh HBB).trans ((uh h9).mono (uh HBB).size)⟩
 have hbig' : ¬ (65536 : Int) < (m.c.length : Int) := by omega
 have HW2 := hide (uh HWR u2 (uh HB2))
 clear HWR hbig
 rcases uh HWB with ⟨-, t, ht, -, -, hok, hrd⟩ | ⟨-, ht⟩
 ·rw [ht] at HW2
  have HRT := hide (uh HRD t)
  unfold mgV at HRT
  rw [hok, hrd] at HRT
  clear HWB ht hok hrd HRD
  go_wp2_with fail
  refine (uh HW2).mono ?_
  rintro e u3 ⟨rfl, h3⟩
  have HB3 : Hid (Below W.heap.size W u3) := (uh HB2).trans ((uh h3).mono (uh HB2).size)
  have HR3 := hide (uh HRT u3 (uh HB3))
  unfold erN at HR3
  simp only [if_true] at HR3
  clear p0 p1 p2 p3 p4 p5 p6 HW2 h3 HRT HB2
  go_wp2_with fail
  refine (uh HR3).mono ?_
  rintro e u4 ⟨a2, n2, c2, rfl, hl4, h4⟩
  obtain ⟨Z, hZ⟩ : ∃ Z, Z = u4.heap.size := ⟨_, rfl⟩
  obtain ⟨V, hV⟩ : ∃ V, V = u4.alloc (.cells #[.int .i64 m.k, .string (str m.c), .int .i64 m.fr, .int .i64 m.co, .int .i64 m.la, .int .i64 m.top, .slice a2 n2 c2] 24) := ⟨_, rfl⟩
  have bV : Below u4.heap.size u4 V := by rw [hV]; exact bA _
  have HB4 : Hid (Below W.heap.size W V) := ((uh HB3).trans ((uh h4).mono (uh HB3).size)).trans (bV.mono (Nat.le_trans (uh HB3).size (uh h4).size))
  obtain ⟨z0, z1, z2, z3, z4, z5, z6⟩ := cells7 (show V.heap[Z]? = some (.cells #[.int .i64 m.k, .string (str m.c), .int .i64 m.fr, .int .i64 m.co, .int .i64 m.la, .int .i64 m.top, .slice a2 n2 c2] 24 (0, 0)) by rw [hV, hZ]; exact heap_alloc_new _ _)
  obtain ⟨p0, p1, p2, p3, p4, p5, p6⟩ := cells7 (uh HX V (uh HB4))
  have HSM := hide (same13 m a2 n2 c2 a n c V ((uh hl4).below bV) (uh HL V (uh HB4)) (by have e1 := (uh hl4).1; have e2 := (uh HL V (uh HB4)).1; omega))
  unfold mgV at HSM
  clear HR3 bV hl4 h4 HB3
  go_upto_region 6 with fail
  rw [← hV, ← hZ]
  clear hV hZ
  go_wp2_with fail
  refine (uh HSM).mono ?_
  rintro e u5 ⟨rfl, h5⟩
  have HB5 : Hid (Below W.heap.size W u5) := (uh HB4).trans ((uh h5).mono (uh HB4).size)
  clear HSM h5 HB4 p0 p1 p2 p3 p4 p5 p6 z0 z1 z2 z3 z4 z5 z6 HX HL
  have HP5 := hide (uh HPT u5 (uh HB5))
  obtain ⟨r0, r1, r2, r3, r4, r5⟩ := cells6 (uh HY u5 (uh HB5))
  clear HPT
  rcases uh HPB with ⟨-, s, hs, hne, -, hok, hgl⟩ | ⟨-, hs⟩
  ·rw [hs] at HP5
   have HGT := hide (uh HGL s)
   unfold lgV at HGT
   rw [hok, hgl] at HGT
   clear HPB hs hok hgl HGL
   go_wp2_with fail
   refine (uh HP5).mono ?_
   rintro e u6 ⟨rfl, h6⟩
   have HB6 : Hid (Below W.heap.size W u6) := (uh HB5).trans ((uh h6).mono (uh HB5).size)
   have HG6 := hide (uh HGT u6 (uh HB6))
   unfold erN at HG6
   simp only [if_true] at HG6
   clear r0 r1 r2 r3 r4 r5 HP5 h6 HGT HB5
   go_wp2_with fail
   refine (uh HG6).mono ?_
   rintro e u7 ⟨rfl, h7⟩
   obtain ⟨Q, hQ⟩ : ∃ Q, Q = u7.heap.size := ⟨_, rfl⟩
   obtain ⟨D, hD⟩ : ∃ D, D = u7.alloc (.cells #[.string (str x.c), .int .i64 x.id, .int .i64 x.m.k, .string (str x.m.i), .string (str x.m.n), .string (str x.m.t)] 28) := ⟨_, rfl⟩
   have bD : Below u7.heap.size u7 D := by rw [hD]; exact bA _
   have HB7 : Hid (Below W.heap.size W D) := ((uh HB6).trans ((uh h7).mono (uh HB6).size)).trans (bD.mono (Nat.le_trans (uh HB6).size (uh h7).size))
   obtain ⟨q0, q1, q2, q3, q4, q5⟩ := cells6 (show D.heap[Q]? = some (.cells #[.string (str x.c), .int .i64 x.id, .int .i64 x.m.k, .string (str x.m.i), .string (str x.m.n), .string (str x.m.t)] 28 (0, 0)) by rw [hD, hQ]; exact heap_alloc_new _ _)
   obtain ⟨r0, r1, r2, r3, r4, r5⟩ := cells6 (uh HY D (uh HB7))
   clear HG6 bD h7 HB6
   go_upto_region 12 with fail
   rw [← hD, ← hQ]
   clear hD hQ
   have HA := hide (uh HAW D (uh HB7))
   have HBB : Hid (Below w.heap.size w D) := (uh HBW).trans (((uh HB7)).mono (uh HBW).size)
   clear HAW HY
   go_wp2_with fail
   refine (uh HA).mono ?_
   rintro e u9 ⟨rfl, h9⟩
   clear HA
   go_wp2_with fail
   go_ret
   exact ⟨rfl, (uh HBB).trans ((uh h9).mono (uh HBB).size)⟩
  ·rw [hs] at HP5
   have ke : (str ([] : List UInt8)).toList.isEmpty = true := (str_empty []).trans (decide_eq_true rfl)
   clear HPB hs HGL
   go_wp2_with fail
   refine (uh HP5).mono ?_
   rintro e u6 ⟨rfl, h6⟩
   have HB6 : Hid (Below W.heap.size W u6) := (uh HB5).trans ((uh h6).mono (uh HB5).size)
   clear r0 r1 r2 r3 r4 r5 HP5 h6 HB5
   have HA := hide (uh HAW u6 (uh HB6))
   have HBB : Hid (Below w.heap.size w u6) := (uh HBW).trans (((uh HB6)).mono (uh HBW).size)
   clear HAW HY
   go_wp2_with fail
   refine (uh HA).mono ?_
   rintro e u9 ⟨rfl, h9⟩
   clear HA
   go_wp2_with fail
   go_ret
   exact ⟨rfl, (uh HBB).trans ((uh h9).mono (uh HBB).size)⟩
 ·rw [ht] at HW2
  clear HWB ht HRD
  go_wp2_with fail
  refine (uh HW2).mono ?_
  rintro e u5 ⟨rfl, h5⟩
  have HB5 : Hid (Below W.heap.size W u5) := (uh HB2).trans ((uh h5).mono (uh HB2).size)
  clear HW2 h5 HB2 p0 p1 p2 p3 p4 p5 p6 HX HL
  have HP5 := hide (uh HPT u5 (uh HB5))
  obtain ⟨r0, r1, r2, r3, r4, r5⟩ := cells6 (uh HY u5 (uh HB5))
  clear HPT
  rcases uh HPB with ⟨-, s, hs, hne, -, hok, hgl⟩ | ⟨-, hs⟩
  ·rw [hs] at HP5
   have HGT := hide (uh HGL s)
   unfold lgV at HGT
   rw [hok, hgl] at HGT
   clear HPB hs hok hgl HGL
   go_wp2_with fail
   refine (uh HP5).mono ?_
   rintro e u6 ⟨rfl, h6⟩
   have HB6 : Hid (Below W.heap.size W u6) := (uh HB5).trans ((uh h6).mono (uh HB5).size)
   have HG6 := hide (uh HGT u6 (uh HB6))
   unfold erN at HG6
   simp only [if_true] at HG6
   clear r0 r1 r2 r3 r4 r5 HP5 h6 HGT HB5
   go_wp2_with fail
   refine (uh HG6).mono ?_
   rintro e u7 ⟨rfl, h7⟩
   obtain ⟨Q, hQ⟩ : ∃ Q, Q = u7.heap.size := ⟨_, rfl⟩
   obtain ⟨D, hD⟩ : ∃ D, D = u7.alloc (.cells #[.string (str x.c), .int .i64 x.id, .int .i64 x.m.k, .string (str x.m.i), .string (str x.m.n), .string (str x.m.t)] 28) := ⟨_, rfl⟩
   have bD : Below u7.heap.size u7 D := by rw [hD]; exact bA _
   have HB7 : Hid (Below W.heap.size W D) := ((uh HB6).trans ((uh h7).mono (uh HB6).size)).trans (bD.mono (Nat.le_trans (uh HB6).size (uh h7).size))
   obtain ⟨q0, q1, q2, q3, q4, q5⟩ := cells6 (show D.heap[Q]? = some (.cells #[.string (str x.c), .int .i64 x.id, .int .i64 x.m.k, .string (str x.m.i), .string (str x.m.n), .string (str x.m.t)] 28 (0, 0)) by rw [hD, hQ]; exact heap_alloc_new _ _)
   obtain ⟨r0, r1, r2, r3, r4, r5⟩ := cells6 (uh HY D (uh HB7))
   clear HG6 bD h7 HB6
   go_upto_region 12 with fail
   rw [← hD, ← hQ]
   clear hD hQ
   have HA := hide (uh HAW D (uh HB7))
   have HBB : Hid (Below w.heap.size w D) := (uh HBW).trans (((uh HB7)).mono (uh HBW).size)
   clear HAW HY
   go_wp2_with fail
   refine (uh HA).mono ?_
   rintro e u9 ⟨rfl, h9⟩
   clear HA
   go_wp2_with fail
   go_ret
   exact ⟨rfl, (uh HBB).trans ((uh h9).mono (uh HBB).size)⟩
  ·rw [hs] at HP5
   have ke : (str ([] : List UInt8)).toList.isEmpty = true := (str_empty []).trans (decide_eq_true rfl)
   clear HPB hs HGL
   go_wp2_with fail
   refine (uh HP5).mono ?_
   rintro e u6 ⟨rfl, h6⟩
   have HB6 : Hid (Below W.heap.size W u6) := (uh HB5).trans ((uh h6).mono (uh HB5).size)
   clear r0 r1 r2 r3 r4 r5 HP5 h6 HB5
   have HA := hide (uh HAW u6 (uh HB6))
   have HBB : Hid (Below w.heap.size w u6) := (uh HBW).trans (((uh HB6)).mono (uh HBW).size)
   clear HAW HY
   go_wp2_with fail
   refine (uh HA).mono ?_
   rintro e u9 ⟨rfl, h9⟩
   clear HA
   go_wp2_with fail
   go_ret
   exact ⟨rfl, (uh HBB).trans ((uh h9).mono (uh HBB).size)⟩
theorem msgBack_walk (m : Mg) (a : Option Addr) (c : Nat) (x : Lg) (w : World) (hl : LRow w a m.l.length m.l) (hi : MiZ m) (hx : LiZ x) (hE : Env4 w) :
  Calls Tryz.prog 3 #[mgV m a m.l.length c, lgV x] w fun e w' => e = .returned (.bool true) ∧ Below w.heap.size w w' :=
 (back13 m a m.l.length c x w hE hl hi hx).mono fun e w' h => ⟨h.1, uh h.2⟩
end Go.Proofs.YtmpjeahibfdehaaGreatDoor
end
