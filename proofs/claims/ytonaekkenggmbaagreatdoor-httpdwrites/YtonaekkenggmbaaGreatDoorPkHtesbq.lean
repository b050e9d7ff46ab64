/-
  httpd's reference against the reader: lines (mathematics).; httpd's reference against the reader: the whole (mathematics).
-/
import Derived.Test.YtonaekkenggmbaaGreatDoorPkHtesbp
import Derived.Test.YtonaekkenggmbaaGreatDoorPkHtesaw
section
set_option linter.unusedVariables false
set_option maxRecDepth 100000
namespace Go.Proofs.YtonaekkenggmbaaGreatDoor
open Go.RowKit

theorem occ1 (s : List UInt8) (c : UInt8) (j : Nat) : Lib.occAt s [c] j = true ↔ s[j]? = some c := by
  rw [occ_get]
  constructor
  · intro h; exact h 0 c rfl
  · intro h k d hk
    cases k with
    | zero => simp at hk; subst hk; exact h
    | succ k => simp at hk
theorem et7 (s : List UInt8) : (Lib.index s [32] = -1 ∧ etM 7 s = s.length) ∨ (∃ i : Nat, Lib.index s [32] = (i : Int) ∧ etM 7 s = i ∧ i < s.length) := by
  rcases Lib.index_spec s [32] with ⟨e, hn⟩ | ⟨i, e, hil, ho, hn⟩
  · refine .inl ⟨e, (etM_all 7 s).2 (List.all_eq_true.2 fun c hc => ?_)⟩
    obtain ⟨j, hj⟩ := List.mem_iff_getElem?.1 hc
    have h1 := hn j (Nat.le_of_lt (List.getElem?_eq_some_iff.1 hj).1)
    show (!decide (c.toNat = 32)) = true
    by_cases h2 : c.toNat = 32
    · have : c = 32 := UInt8.toNat_inj.1 h2
      subst this
      rw [(occ1 s 32 j).2 hj] at h1
      cases h1
    · simp [h2]
  · have hi := (occ1 s 32 i).1 ho
    have hlt := (List.getElem?_eq_some_iff.1 hi).1
    refine .inr ⟨i, e, tw_len (isM 7) s i (List.all_eq_true.2 fun c hc => ?_) (by omega) (fun x hx => by rw [hi] at hx; cases hx; rfl), hlt⟩
    obtain ⟨j, hj⟩ := List.mem_iff_getElem?.1 hc
    have hjl := (List.getElem?_eq_some_iff.1 hj).1
    rw [List.length_take] at hjl
    rw [List.getElem?_take, if_pos (by omega)] at hj
    have h1 := hn j (by omega)
    show (!decide (c.toNat = 32)) = true
    by_cases h2 : c.toNat = 32
    · have : c = 32 := UInt8.toNat_inj.1 h2
      subst this
      rw [(occ1 s 32 j).2 hj] at h1
      cases h1
    · simp [h2]
def rf3 (L : List (List UInt8)) : List UInt8 × List UInt8 × Nat :=
  match L with
  | [a, b, c] => if mthB a && (tgtB b && verB c) then (if c = h11 then (if knwB a then (if b.length ≤ 1024 then (a, b, 0) else ([], [], 414)) else ([], [], 501)) else ([], [], 505)) else ([], [], 400)
  | _ => ([], [], 400)
theorem rf_rf3 (l : List UInt8) : rfM l = rf3 (Lib.split l [32]) := rfl
theorem ver_v (v : List UInt8) : ver8 v = !verB v := by
  unfold ver8 verB
  rw [show Lib.hasPrefix v hHTTP = hHTTP.isPrefixOf v from rfl, is1_dig]
  cases h : hHTTP.isPrefixOf v
  · simp
  · have hl := (List.isPrefixOf_iff_prefix.1 h).length_le
    have h5 : hHTTP.length = 5 := rfl
    have hc : cpx v hHTTP = v.drop 5 := by
      unfold cpx
      rw [show Lib.hasPrefix v hHTTP = hHTTP.isPrefixOf v from rfl, h, if_pos rfl, h5]
    have g : ∀ k, (v.drop 5).getD k 0 = v.getD (5 + k) 0 := fun k => by rw [List.getD_eq_getElem?_getD, List.getElem?_drop, ← List.getD_eq_getElem?_getD]
    have hd : decide ((v.drop 5).length = 3) = decide (v.length = 8) := by
      rw [decide_eq_decide, List.length_drop]
      omega
    rw [hc]
    unfold ver3
    rw [g, g, g, hd]
    generalize decide (v.length = 8) = a
    generalize digB (v.getD (5 + 0) 0) = b
    generalize hc' : decide (v.getD (5 + 1) 0 = 46) = c
    generalize digB (v.getD (5 + 2) 0) = d
    cases a <;> cases b <;> cases c <;> cases d <;> rfl
theorem kn_k (m : List UInt8) : kn8 m = !knwB m := by
  unfold kn8 knwB
  generalize (m == [71, 69, 84]) = a
  generalize (m == [80, 79, 83, 84]) = b
  generalize (m == [80, 85, 84]) = c
  generalize (m == [68, 69, 76, 69, 84, 69]) = d
  cases a <;> cases b <;> cases c <;> cases d <;> rfl
theorem ln3_rf (m t v : List UInt8) (hv : etM 7 v = v.length) (ht : t.length ≤ 8192) : ln3 m t v = rf3 [m, t, v] := by
  have a1 : alM m 1 16 2 = mthB m := by
    unfold alM mthB
    rw [show isM 2 = capB from rfl, Bool.and_comm (m.all capB), Bool.and_assoc]
    rfl
  have a2 : (!([47].isPrefixOf t) || !alM t 1 8192 3) = !tgtB t := by
    unfold tgtB alM
    rw [show Lib.hasPrefix t [47] = [47].isPrefixOf t from rfl, show isM 3 = seenB from rfl, decide_eq_true ht]
    cases h : ([47] : List UInt8).isPrefixOf t
    · rfl
    · have : 1 ≤ t.length := by
        cases t with
        | nil => simp at h
        | cons _ _ => simp
      rw [decide_eq_true this]
      simp
  unfold ln3 rf3
  rw [hv, a1, a2, ver_v]
  simp only [decide_true, Bool.not_true, Bool.false_or]
  cases mthB m
  · rfl
  · cases tgtB t
    · rfl
    · cases verB v
      · rfl
      · simp only [Bool.not_true, Bool.or_self, Bool.false_eq_true, if_false, Bool.and_self, if_true, ln4, kn_k]
        by_cases h : v = h11
        · rw [if_pos (by rw [h]; decide), if_pos h]
          cases knwB m
          · rfl
          · simp only [Bool.not_true, Bool.false_eq_true, if_false, if_true]
            by_cases h3 : 1024 < t.length
            · rw [if_pos h3, if_neg (by omega)]; rfl
            · rw [if_neg h3, if_pos (by omega)]
        · rw [if_neg (by rw [beq_iff_eq]; exact h), if_neg h]; rfl
theorem rf3_nil0 (R : List (List UInt8)) : rf3 ([] :: R) = er4 400 := by
  rcases R with _ | ⟨b, _ | ⟨c, _ | ⟨d, R⟩⟩⟩ <;> simp [rf3, mthB, er4]
theorem rf3_nil1 (m : List UInt8) (R : List (List UInt8)) : rf3 (m :: [] :: R) = er4 400 := by
  rcases R with _ | ⟨c, _ | ⟨d, R⟩⟩
  · rfl
  · simp only [rf3]
    rw [show tgtB [] = false from rfl]
    simp [er4]
  · rfl
theorem spl_ne (s : List UInt8) : Lib.split s [32] ≠ [] := by
  rcases et7 s with ⟨h1, h2⟩ | ⟨i, h1, h2, h3⟩
  · rw [spl_miss _ _ h1]; simp
  · rw [spl_hit s [32] i (by simp) h1]; simp
theorem ln_rf (s : List UInt8) (hs : s.length ≤ 8192) : lnM s = rfM s := by
  rw [rf_rf3]
  unfold lnM
  rcases et7 s with ⟨h1, h2⟩ | ⟨i, h1, h2, h3⟩
  · rw [h2, if_pos (by simp), spl_miss _ _ h1]; rfl
  · rw [h2, spl_hit s [32] i (by simp) h1]
    by_cases h0 : i = 0
    · subst h0
      rw [if_pos (by simp), List.take_zero, rf3_nil0]
    · rw [if_neg (by simp; omega)]
      unfold ln2
      have hl2 : (s.drop (i + 1)).length ≤ 8192 := by simp; omega
      rw [show i + ([32] : List UInt8).length = i + 1 from rfl]
      generalize s.take i = m
      generalize s.drop (i + 1) = s2 at *
      rcases et7 s2 with ⟨k1, k2⟩ | ⟨j, k1, k2, k3⟩
      · rw [k2, if_pos (by simp), spl_miss _ _ k1]; rfl
      · rw [k2, spl_hit s2 [32] j (by simp) k1]
        by_cases j0 : j = 0
        · subst j0
          rw [if_pos (by simp), List.take_zero, rf3_nil1]
        · rw [if_neg (by simp; omega), show j + ([32] : List UInt8).length = j + 1 from rfl]
          have ht : (s2.take j).length ≤ 8192 := by simp; omega
          generalize s2.take j = t at *
          generalize s2.drop (j + 1) = v
          rcases et7 v with ⟨l1, l2⟩ | ⟨k, l1, l2, l3⟩
          · rw [spl_miss _ _ l1]
            exact ln3_rf m t v l2 ht
          · unfold ln3
            rw [if_pos (by rw [l2, decide_eq_false (by omega)]; rfl), spl_hit v [32] k (by simp) l1]
            have hne := spl_ne (v.drop (k + ([32] : List UInt8).length))
            generalize Lib.split (v.drop (k + ([32] : List UInt8).length)) [32] = R at *
            cases R with
            | nil => exact absurd rfl hne
            | cons x R => rfl

theorem tok4 : isM 4 = tokB := funext (all256 (fun c => isM 4 c = tokB c) (by decide +kernel))
theorem val6 : isM 6 = valB := funext (all256 (fun c => isM 6 c = valB c) (by decide +kernel))
theorem bl_c (c : UInt8) : blB c = ([32, 9] : List UInt8).contains c := all256 (fun c => blB c = ([32, 9] : List UInt8).contains c) (by decide +kernel) c
theorem dw_get (p : UInt8 → Bool) : ∀ (l : List UInt8) (c : UInt8), (l.dropWhile p)[0]? = some c → p c = false
  | [], c, h => by simp at h
  | x :: l, c, h => by
    rw [List.dropWhile_cons] at h
    split at h
    · exact dw_get p l c h
    · rename_i hx
      simp at h
      subst h
      simpa using hx
theorem trm_first (x : List UInt8) (c : UInt8) (h : (trm x)[0]? = some c) : blB c = false := by
  rw [bl_c]
  exact dw_get _ _ c h
theorem trm_last (x : List UInt8) (c : UInt8) (h : (trm x)[(trm x).length - 1]? = some c) : blB c = false := by
  rw [bl_c]
  rw [← trm_lr] at h
  rw [List.length_reverse] at h
  refine dw_get (fun c => ([32, 9] : List UInt8).contains c) (x.dropWhile (fun c => ([32, 9] : List UInt8).contains c)).reverse c ?_
  generalize (x.dropWhile (fun c => ([32, 9] : List UInt8).contains c)).reverse.dropWhile (fun c => ([32, 9] : List UInt8).contains c) = R at *
  have hl := (List.getElem?_eq_some_iff.1 h).1
  rw [List.length_reverse] at hl
  rw [List.getElem?_reverse (by omega), show R.length - 1 - (R.length - 1) = 0 by omega] at h
  exact h
theorem vlu_trm (x : List UInt8) : vluB (trm x) = (trm x).all valB := by
  unfold vluB
  by_cases h : (trm x).length = 0
  · rw [decide_eq_true h]; simp
  · have h1 := trm_first x _ (gd_get (trm x) 0 (by omega))
    have h2 := trm_last x _ (gd_get (trm x) ((trm x).length - 1) (by omega))
    rw [h1, h2]
    simp
theorem fd_fld (s : List UInt8) (hs : s.length ≤ 8192) : fd8 s = fldM s := by
  have hV : ∀ k, alM (trm (s.drop k)) 0 8192 6 = vluB (trm (s.drop k)) := fun k => by
    rw [vlu_trm]
    unfold alM
    have : (trm (s.drop k)).length ≤ 8192 := Nat.le_trans (trm_len _) (by simp; omega)
    rw [val6, decide_eq_true this]
    simp
  rcases Lib.index_spec s [58] with ⟨e, hn⟩ | ⟨i, e, hil, ho, hn⟩
  · have h0 : fldM s = none := by simp [fldM, Lib.cut, e]
    rw [h0]
    unfold fd8
    rw [if_pos]
    by_cases hl : etM 4 s = s.length
    · rw [decide_eq_true hl]; simp
    · have hlt : etM 4 s < s.length := by have := etM_le 4 s; omega
      have h58 : s.getD (etM 4 s) 0 ≠ 58 := fun h => by
        have h1 := hn (etM 4 s) (by omega)
        rw [(occ1 s 58 _).2 (by rw [gd_get s _ hlt, h])] at h1
        cases h1
      rw [decide_eq_false h58]
      simp
  · have hi := (occ1 s 58 i).1 ho
    have hlt := (List.getElem?_eq_some_iff.1 hi).1
    have hc : Lib.cut s [58] = (s.take i, s.drop (i + 1), true) := by
      unfold Lib.cut
      rw [e, if_pos (by omega)]
      rfl
    unfold fldM
    rw [hc]
    simp only [Bool.true_and]
    by_cases ht : (s.take i).all tokB = true
    · have he : etM 4 s = i := tw_len (isM 4) s i (by rw [tok4]; exact ht) (by omega) (fun x hx => by rw [hi] at hx; cases hx; decide)
      unfold fd8
      rw [he, hV]
      have hg : s.getD i 0 = 58 := by rw [List.getD_eq_getElem?_getD, hi]; rfl
      rw [hg]
      have htl : (s.take i).length = i := by simp; omega
      unfold tknB
      rw [htl, ht, decide_eq_false (show ¬ i = s.length by omega)]
      generalize vluB (trm (s.drop (i + 1))) = V
      by_cases a : i < 1
      · rw [decide_eq_true a, decide_eq_false (show ¬ 0 < i by omega)]; simp
      · rw [decide_eq_false a, decide_eq_true (show 0 < i by omega)]
        by_cases b : 64 < i
        · rw [decide_eq_true b, decide_eq_false (show ¬ i ≤ 64 by omega)]; simp
        · rw [decide_eq_false b, decide_eq_true (show i ≤ 64 by omega)]
          cases V <;> simp
    · have htk : tknB (s.take i) = false := by
        unfold tknB
        rw [Bool.not_eq_true] at ht
        rw [ht]
        simp
      rw [htk]
      simp only [Bool.false_and, Bool.false_eq_true, if_false]
      unfold fd8
      rw [if_pos]
      have hle : etM 4 s < i := by
        refine Classical.byContradiction fun hge => ht ?_
        rw [← tok4]
        have hp : s.take i = (s.takeWhile (isM 4)).take i := by
          have := List.prefix_iff_eq_take.1 (List.takeWhile_prefix (isM 4) (l := s))
          rw [this, List.take_take]
          congr 1
          unfold etM at hge
          omega
        rw [hp]
        refine List.all_eq_true.2 fun c hc => ?_
        have h2 := List.all_takeWhile (p := isM 4) (l := s)
        exact List.all_eq_true.1 h2 c (List.mem_of_mem_take hc)
      have h58 : s.getD (etM 4 s) 0 ≠ 58 := fun h => by
        have h1 := hn (etM 4 s) hle
        rw [(occ1 s 58 _).2 (by rw [gd_get s _ (by omega), h])] at h1
        cases h1
      rw [decide_eq_false h58]
      simp
theorem fr_rh : ∀ (L : List (List UInt8)) (acc : List Hd), (∀ x ∈ L, x.length ≤ 8192) → fr8 L acc = rhM L acc
  | [], acc, _ => rfl
  | l :: L, acc, h => by
    simp only [fr8, rhM, fd_fld l (h l List.mem_cons_self)]
    split
    · rfl
    · cases fldM l with
      | none => rfl
      | some x => exact fr_rh L _ fun y hy => h y (List.mem_cons_of_mem _ hy)
theorem lowl (c : UInt8) : lowB (lowB c) = lowB c := all256 (fun c => lowB (lowB c) = lowB c) (by decide +kernel) c
theorem sm2 (l : List UInt8) : sm (sm l) = sm l := by
  unfold sm
  rw [List.map_map]
  exact List.map_congr_left fun c _ => lowl c
theorem rh_sm : ∀ (L : List (List UInt8)) (acc : List Hd), (∀ h ∈ acc, sm h.1 = h.1) → ∀ h ∈ (rhM L acc).1, sm h.1 = h.1
  | [], acc, ha => ha
  | l :: L, acc, ha => by
    unfold rhM
    split
    · intro h hh; simp at hh
    · split
      · rename_i h0 he
        refine rh_sm L _ (fun h hh => ?_)
        rcases List.mem_append.1 hh with h1 | h1
        · exact ha h h1
        · rw [List.mem_singleton] at h1
          rw [h1]
          unfold fldM at he
          split at he
          · cases he; exact sm2 _
          · cases he
      · intro h hh; simp at hh
theorem val_vals (nm : List UInt8) (H : List Hd) (hH : ∀ h ∈ H, sm h.1 = h.1) : valE nm H = vals nm H := by
  unfold valE vals
  congr 1
  refine List.filter_congr fun h hh => ?_
  rw [hH h hh, Bool.eq_iff_iff]
  simp
end Go.Proofs.YtonaekkenggmbaaGreatDoor
end
section
set_option linter.unusedVariables false
set_option maxRecDepth 100000
namespace Go.Proofs.YtonaekkenggmbaaGreatDoor
open Go.RowKit

def noH : St → Prop
  | .head _ => False
  | _ => True
theorem step_put (m p : List UInt8) (h : List Hd) (S : St) (Q : Rq) (c : UInt8) (hS : noH S) : stepM RM S ⟨m, p, h, Q.b⟩ c = ((stepM RM S Q c).1, (stepM RM S Q c).2.1, ⟨m, p, h, (stepM RM S Q c).2.2.b⟩) ∧ ((stepM RM S Q c).1 = 1 → noH (stepM RM S Q c).2.1) := by
  cases S with
  | head _ => exact hS.elim
  | bytes n t =>
    simp only [stepM]
    split
    · exact ⟨rfl, fun _ => trivial⟩
    · cases t with
      | fin => exact ⟨rfl, fun e => by cases e⟩
      | chk => exact ⟨rfl, fun _ => trivial⟩
      | tl => exact ⟨rfl, fun _ => trivial⟩
      | cb k =>
        simp only [thM, cbM]
        split
        · exact ⟨trivial, fun e => by cases e⟩
        · split
          · exact ⟨trivial, fun _ => trivial⟩
          · exact ⟨trivial, fun _ => trivial⟩
  | text u a t =>
    simp only [stepM]
    split
    · exact ⟨rfl, fun e => by cases e⟩
    · split
      · exact ⟨rfl, fun _ => trivial⟩
      · cases t with
        | fin => exact ⟨rfl, fun e => by cases e⟩
        | chk => exact ⟨rfl, fun _ => trivial⟩
        | tl => exact ⟨rfl, fun _ => trivial⟩
        | cb k =>
          simp only [thM, cbM]
          split
          · exact ⟨trivial, fun e => by cases e⟩
          · split
            · exact ⟨trivial, fun _ => trivial⟩
            · exact ⟨trivial, fun _ => trivial⟩
  | chunk n d =>
    simp only [stepM]
    cases hexB c with
    | some x =>
      simp only
      split
      · exact ⟨rfl, fun _ => trivial⟩
      · split
        · exact ⟨rfl, fun _ => trivial⟩
        · exact ⟨rfl, fun e => by cases e⟩
    | none =>
      simp only
      split
      · exact ⟨rfl, fun _ => trivial⟩
      · exact ⟨rfl, fun e => by cases e⟩
theorem run_put (m p : List UInt8) (h : List Hd) : ∀ (l : List UInt8) (S : St) (Q : Rq), noH S → runM RM S ⟨m, p, h, Q.b⟩ l = ((runM RM S Q l).1, (runM RM S Q l).2.1, (runM RM S Q l).2.2.1, ⟨m, p, h, (runM RM S Q l).2.2.2.b⟩)
  | [], S, Q, _ => rfl
  | c :: l, S, Q, hS => by
    obtain ⟨h1, h2⟩ := step_put m p h S Q c hS
    by_cases e : (stepM RM S Q c).1 = 1
    · rw [runM_one RM S ⟨m, p, h, Q.b⟩ c l (by rw [h1]; exact e), runM_one RM S Q c l e, h1]
      simp only
      rw [run_put m p h l _ _ (h2 e)]
    · rw [runM_end RM S ⟨m, p, h, Q.b⟩ c l (by rw [h1]; exact e), runM_end RM S Q c l e, h1]
theorem run_bytes : ∀ (l : List UInt8) (n : Nat) (Q : Rq), 0 < n → (l.length < n → (runM RM (.bytes n .fin) Q l).2.1 = 1) ∧ (n ≤ l.length → ∃ S, runM RM (.bytes n .fin) Q l = (n, 0, S, ⟨Q.m, Q.p, Q.h, Q.b ++ l.take n⟩))
  | [], n, Q, hn => ⟨fun _ => rfl, fun h => by simp at h; omega⟩
  | c :: l, n, Q, hn => by
    by_cases h1 : 1 < n
    · have hst : stepM RM (.bytes n .fin) Q c = (1, .bytes (n - 1) .fin, { Q with b := Q.b ++ [c] }) := by simp only [stepM, if_pos h1]
      obtain ⟨i1, i2⟩ := run_bytes l (n - 1) { Q with b := Q.b ++ [c] } (by omega)
      rw [runM_one RM _ Q c l (by rw [hst]), hst]
      simp only
      refine ⟨fun h => i1 (by simp at h; omega), fun h => ?_⟩
      obtain ⟨S, e⟩ := i2 (by simp at h; omega)
      refine ⟨S, ?_⟩
      rw [e]
      simp only
      have e1 : n - 1 + 1 = n := by omega
      obtain ⟨k, rfl⟩ : ∃ k, n = k + 1 := ⟨n - 1, by omega⟩
      simp
    · obtain rfl : n = 1 := by omega
      have hst : stepM RM (.bytes 1 .fin) Q c = (0, .bytes 1 .fin, { Q with b := Q.b ++ [c] }) := by simp [stepM, thM]
      rw [runM_end RM _ Q c l (by rw [hst]; exact Nat.zero_ne_one), hst]
      exact ⟨fun h => by simp at h, fun _ => ⟨_, rfl⟩⟩
def finR (y : Nat × Nat × St × Rq) : Rq × Nat × Nat := if y.2.1 = 0 then (y.2.2.2, y.1, 0) else (Rq.nil, 0, y.2.1)
theorem hd_no (s : List UInt8) (i : Nat) (h : (RM (s.take i)).2.2 ≠ 0) : finR (hdR Rq.nil s i) = (Rq.nil, 0, (RM (s.take i)).2.2) := by
  have h1 := (rok_RM (s.take i)).2.2
  have hb : bhM RM Rq.nil (s.take i) = ((RM (s.take i)).2.2, .head (s.take i), Rq.nil) := by
    simp only [bhM, if_pos h]
  unfold finR hdR
  rw [hb]
  simp only [if_neg h1, if_neg h]
theorem hd_ok (s : List UInt8) (i : Nat) (m p : List UInt8) (H : List Hd) (F : Fm) (h : RM (s.take i) = (⟨m, p, H, []⟩, F, 0)) :
    finR (hdR Rq.nil s i) = rp3 (m, p, 0) H (bd8 (F, 0) (s.drop (i + 4))) i := by
  obtain ⟨fc, fn⟩ := F
  unfold finR hdR
  cases fc with
  | true =>
    have hb : bhM RM Rq.nil (s.take i) = (1, .chunk 0 0, ⟨m, p, H, []⟩) := by simp [bhM, h]
    rw [hb]
    simp only [if_true]
    have hp := run_put m p H (s.drop (i + 4)) (.chunk 0 0) (qb []) trivial
    rw [show (⟨m, p, H, (qb []).b⟩ : Rq) = ⟨m, p, H, []⟩ from rfl] at hp
    rw [hp]
    unfold rp3 bd8 chR
    simp only
    generalize runM RM (.chunk 0 0) (qb []) (s.drop (i + 4)) = y
    by_cases h0 : y.2.1 = 0
    · simp [h0, Nat.add_comm]
    · simp [h0]
  | false =>
    by_cases hn : fn = 0
    · subst hn
      have hb : bhM RM Rq.nil (s.take i) = (0, .head (s.take i), ⟨m, p, H, []⟩) := by simp [bhM, h]
      rw [hb]
      simp [rp3, bd8]
    · have hb : bhM RM Rq.nil (s.take i) = (1, .bytes fn .fin, ⟨m, p, H, []⟩) := by simp [bhM, h, hn]
      rw [hb]
      simp only [if_true]
      obtain ⟨k1, k2⟩ := run_bytes (s.drop (i + 4)) fn ⟨m, p, H, []⟩ (by omega)
      generalize s.drop (i + 4) = r at *
      by_cases hl : r.length < fn
      · have := k1 hl
        simp [rp3, bd8, hl, this]
      · obtain ⟨S, e⟩ := k2 (by omega)
        rw [e]
        simp [rp3, bd8, hl, Nat.add_comm]
theorem rp1_hd (s : List UInt8) (i : Nat) (hi : i ≤ 8192) : rp1 s i = finR (hdR Rq.nil s i) := by
  have hL : ∀ y ∈ Lib.split (s.take i) [13, 10], y.length ≤ 8192 := fun y hy => by
    have := split_len [13, 10] _ (s.take i) y hy
    simp at this
    omega
  have hR : RM (s.take i) = RM (s.take i) := rfl
  conv at hR => rhs; unfold RM
  simp only at hR
  unfold rp1 rp2 bdM
  have h0 : (Lib.split (s.take i) [13, 10]).getD 0 [] = (Lib.split (s.take i) [13, 10]).getD 0 [] := rfl
  have hl0 : ((Lib.split (s.take i) [13, 10]).getD 0 []).length ≤ 8192 := by
    cases hx : Lib.split (s.take i) [13, 10] with
    | nil => simp
    | cons a b => exact hL a (by rw [hx]; exact List.mem_cons_self)
  rw [ln_rf _ hl0, fr_rh _ [] (fun x hx => hL x (List.mem_of_mem_drop hx))]
  have hsm := rh_sm ((Lib.split (s.take i) [13, 10]).drop 1) [] (fun h hh => by simp at hh)
  rw [val_vals _ _ hsm, val_vals _ _ hsm, val_vals _ _ hsm]
  generalize Lib.split (s.take i) [13, 10] = L at *
  by_cases c1 : L.any bad = true
  · rw [if_pos c1] at hR
    rw [if_pos c1, hd_no s i (by rw [hR]; decide), hR]
  · rw [if_neg c1] at hR
    rw [if_neg c1]
    generalize rfM (L.getD 0 []) = f at *
    generalize rhM (L.drop 1) [] = g at *
    obtain ⟨fm, fp, fs⟩ := f
    obtain ⟨gh, gs⟩ := g
    simp only at hR ⊢
    by_cases c2 : fs ≠ 0
    · rw [if_pos c2] at hR
      rw [if_pos c2, hd_no s i (by rw [hR]; exact c2), hR]
    · rw [if_neg c2] at hR
      rw [if_neg c2]
      by_cases c3 : gs ≠ 0
      · rw [if_pos c3] at hR
        rw [if_pos c3, hd_no s i (by rw [hR]; exact c3), hR]
      · rw [if_neg c3] at hR
        rw [if_neg c3]
        generalize fmM (vals wTE gh) (vals wHost gh) (vals wCL gh) = F at *
        obtain ⟨F1, F2⟩ := F
        simp only at hR ⊢
        by_cases c4 : F2 ≠ 0
        · rw [if_pos c4] at hR
          rw [hd_no s i (by rw [hR]; exact c4), hR]
          simp [rp3, bd8, c4]
        · rw [if_neg c4] at hR
          obtain rfl : F2 = 0 := Classical.byContradiction c4
          rw [hd_ok s i fm fp gh F1 hR]
          obtain rfl : fs = 0 := Classical.byContradiction c2
          rfl
theorem head_none (Q : Rq) (l : List UInt8) (hn : ∀ j, j ≤ l.length → Lib.occAt l hend j = false) (hl : l.length < 8196) : ∀ (m k : Nat), m + k = l.length → (runM RM (.head (l.take k)) Q (l.drop k)).2.1 = 1 := by
  intro m
  induction m with
  | zero =>
    intro k hk
    rw [List.drop_eq_nil_of_le (by omega)]
    rfl
  | succ m ih =>
    intro k hk
    have hkl : k < l.length := by omega
    have hd : l.drop k = l[k] :: l.drop (k + 1) := List.drop_eq_getElem_cons hkl
    have ht : l.take k ++ [l[k]] = l.take (k + 1) := by rw [List.take_add_one, List.getElem?_eq_getElem hkl]; rfl
    have hs : ¬ hend <:+ l.take k ++ [l[k]] := by
      rw [ht, suf_occ l k hkl]
      rintro ⟨h3, h4⟩
      rw [hn (k - 3) (by omega)] at h4
      cases h4
    have htl : (l.take k).length = k := by simp; omega
    have hstep : stepM RM (.head (l.take k)) Q l[k] = (1, .head (l.take (k + 1)), Q) := by
      simp only [stepM]
      rw [if_neg hs, htl, if_neg (by omega), ht]
    rw [hd, runM_one RM _ Q _ _ (by rw [hstep]), hstep]
    simp only
    exact ih (k + 1) (by omega)
/-- The reference says what the reader says. -/
theorem rp_pM (s : List UInt8) : rpM s = pM s := by
  have hp : pM s = finR (runM RM (.head []) Rq.nil s) := rfl
  rw [hp]
  unfold rpM
  rcases Lib.index_spec s hend with ⟨e, hn⟩ | ⟨i, e, hil, ho, hn⟩
  · have hw : whM hend s = s.length := by
      unfold whM
      rw [e, if_neg (by decide)]
    rw [hw]
    by_cases h : 8196 ≤ s.length
    · rw [if_pos ⟨by omega, .inr h⟩]
      have h1 : (runM RM (.head []) Rq.nil s).2.1 = 431 := by
        have := head_long Rq.nil s (s.length + 1) (fun j hj => hn j (by omega)) h (by omega) 8195 0 rfl
        simpa using this
      unfold finR
      rw [h1]
      rfl
    · rw [if_neg (by omega), if_pos rfl]
      have h1 : (runM RM (.head []) Rq.nil s).2.1 = 1 := by
        have := head_none Rq.nil s hn (by omega) s.length 0 rfl
        simpa using this
      unfold finR
      rw [h1]
      rfl
  · have hw : whM hend s = i := by
      unfold whM
      rw [e, if_pos (by omega)]
      simp
    have hr : i + 4 ≤ s.length := by
      rcases Lib.occAt_room ho with h | h
      · simpa [hend] using h
      · simp [hend] at h
    rw [hw]
    by_cases hi : i ≤ 8192
    · rw [if_neg (by omega), if_neg (by omega), rp1_hd s i hi]
      have hs := head_short Rq.nil s i ho (fun j hj => hn j hj) (by omega) (i + 3) 0 rfl
      simp only [List.take_zero, List.drop_zero, Nat.sub_zero] at hs
      rw [hs]
    · rw [if_pos ⟨by omega, .inl (by omega)⟩]
      have h1 : (runM RM (.head []) Rq.nil s).2.1 = 431 := by
        have := head_long Rq.nil s i (fun j hj => hn j hj) (by omega) (by omega) 8195 0 rfl
        simpa using this
      unfold finR
      rw [h1]
      rfl
#print axioms rp_pM
end Go.Proofs.YtonaekkenggmbaaGreatDoor
end
