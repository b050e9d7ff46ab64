/-
  P8.11 as mathematics: the whole.
-/
import Derived.Test.YtonaekkenggmbaaGreatDoorPkHtesav
section
set_option linter.unusedVariables false
set_option maxRecDepth 100000
namespace Go.Proofs.YtonaekkenggmbaaGreatDoor
open Go.RowKit

theorem bad_drop (l : List UInt8) (i : Nat) (h : bad l = false) : bad (l.drop i) = false := by
  unfold bad at h ⊢
  rw [List.any_eq_false] at h ⊢
  exact fun c hc => h c (List.mem_of_mem_drop hc)
theorem Fl.fld {x y : List UInt8} (h : Fl true x y) (hb : Proofs.YtonaekkenggmbaaGreatDoor.bad x = false) : fldM y = fldM x := by
  have hi : Lib.index y [58] = Lib.index x [58] := index_cong x y [58] h.len (h.occ [58] (by simp))
  rcases Lib.index_spec x [58] with ⟨e, _⟩ | ⟨i, e, hil, ho, hn⟩
  · rw [e] at hi
    simp [fldM, Lib.cut, e, hi]
  · rw [e] at hi
    have h58 : x[i]? = some 58 := (occ_get x [58] i).1 ho 0 58 rfl
    have hv : y.drop (i + 1) = x.drop (i + 1) := by
      have h2 := h.drop (i + 1)
      have : stt true (x.take (i + 1)) = false := by
        rw [List.take_add_one, h58, Option.toList_some, stt_app]
        simp [stt, nx]
      rw [this] at h2
      exact h2.same (bad_drop x _ hb)
    have ht := h.take i
    have hk : tknB (y.take i) = tknB (x.take i) := by
      unfold tknB
      rw [ht.len, ht.tok]
    simp only [fldM, Lib.cut, e, hi, Int.natCast_nonneg, if_true, Int.toNat_natCast, List.length_cons, List.length_nil, Nat.zero_add, hv, hk, ht.sm]
theorem Rl.rh : ∀ {X Y : List (List UInt8)} (acc : List Hd), Rl true X Y → X.any Proofs.YtonaekkenggmbaaGreatDoor.bad = false → rhM Y acc = rhM X acc
  | [], [], acc, _, _ => rfl
  | x :: X, y :: Y, acc, h, hb => by
    simp only [List.any_cons, Bool.or_eq_false_iff] at hb
    have ih := fun acc => Rl.rh acc h.2 hb.2
    simp only [rhM, h.1.fld hb.1, ih]
  | [], _ :: _, _, h, _ => h.elim
  | _ :: _, [], _, h, _ => h.elim
theorem Fl.rm {s t : List UInt8} (h : Fl false s t) : RM t = RM s := by
  have hr := h.split
  have hb := hr.bad
  by_cases hx : (Lib.split s c2).any Proofs.YtonaekkenggmbaaGreatDoor.bad = true
  · have hy : (Lib.split t c2).any Proofs.YtonaekkenggmbaaGreatDoor.bad = true := by rw [hb]; exact hx
    unfold c2 at hx hy
    simp only [RM, hx, hy, if_true]
  · have hx' : (Lib.split s c2).any Proofs.YtonaekkenggmbaaGreatDoor.bad = false := by simpa using hx
    have e1 : (Lib.split t c2).getD 0 [] = (Lib.split s c2).getD 0 [] ∧ rhM ((Lib.split t c2).drop 1) [] = rhM ((Lib.split s c2).drop 1) [] := by
      generalize Lib.split s c2 = X at hr hx'
      generalize Lib.split t c2 = Y at hr
      match X, Y, hr, hx' with
      | [], [], _, _ => exact ⟨rfl, rfl⟩
      | x :: X, y :: Y, h, hx' =>
        simp only [List.any_cons, Bool.or_eq_false_iff] at hx'
        exact ⟨by simpa using h.1.same hx'.1, h.2.rh [] hx'.2⟩
      | [], _ :: _, h, _ => exact h.elim
      | _ :: _, [], h, _ => exact h.elim
    unfold c2 at hb hx' e1
    simp only [RM, hb, hx', e1.1, e1.2]

theorem suf_occ (l : List UInt8) (k : Nat) (hk : k < l.length) : hend <:+ l.take (k + 1) ↔ 3 ≤ k ∧ Lib.occAt l hend (k - 3) = true := by
  constructor
  · rintro ⟨t, ht⟩
    have hl := congrArg List.length ht
    simp [hend] at hl
    refine ⟨by omega, ?_⟩
    rw [occ_get]
    intro j c hj
    have hj4 : j < 4 := by have := (List.getElem?_eq_some_iff.1 hj).1; simpa [hend] using this
    have h2 : (l.take (k + 1))[t.length + j]? = some c := by rw [← ht, List.getElem?_append_right (by omega), Nat.add_sub_cancel_left]; exact hj
    rw [List.getElem?_take] at h2
    split at h2
    · rw [show k - 3 + j = t.length + j by omega]; exact h2
    · cases h2
  · rintro ⟨h3, ho⟩
    rw [occ_get] at ho
    refine ⟨l.take (k - 3), ?_⟩
    apply List.ext_getElem?
    intro j
    by_cases hj : j < k - 3
    · rw [List.getElem?_append_left (by simp; omega), List.getElem?_take, List.getElem?_take, if_pos hj, if_pos (by omega)]
    · have hlt : (l.take (k - 3)).length = k - 3 := by simp; omega
      rw [List.getElem?_append_right (by omega), hlt, List.getElem?_take]
      by_cases hj2 : j < k + 1
      · rw [if_pos hj2]
        obtain ⟨c, hc⟩ : ∃ c, hend[j - (k - 3)]? = some c := ⟨_, List.getElem?_eq_getElem (by simp [hend]; omega)⟩
        have := ho _ _ hc
        rw [show k - 3 + (j - (k - 3)) = j by omega] at this
        rw [hc, this]
      · rw [if_neg hj2, List.getElem?_eq_none (by simp [hend]; omega)]
/-- What a head leads to: its text, what stands behind it. -/
def hdR (Q : Rq) (l : List UInt8) (e : Nat) : Nat × Nat × St × Rq :=
  if (bhM RM Q (l.take e)).1 = 1 then ((runM RM (bhM RM Q (l.take e)).2.1 (bhM RM Q (l.take e)).2.2 (l.drop (e + 4))).1 + (e + 4), (runM RM (bhM RM Q (l.take e)).2.1 (bhM RM Q (l.take e)).2.2 (l.drop (e + 4))).2) else (e + 4, bhM RM Q (l.take e))
theorem head_short (Q : Rq) (l : List UInt8) (e : Nat) (ho : Lib.occAt l hend e = true) (hn : ∀ j, j < e → Lib.occAt l hend j = false) (he : e + 4 ≤ 8196) : ∀ (m k : Nat), m + k = e + 3 → runM RM (.head (l.take k)) Q (l.drop k) = ((hdR Q l e).1 - k, (hdR Q l e).2) := by
  have hl : e + 4 ≤ l.length := by
    rcases Lib.occAt_room ho with h | h
    · simpa [hend] using h
    · simp [hend] at h
  intro m
  induction m with
  | zero =>
    intro k hk
    have hkl : k < l.length := by omega
    have hd : l.drop k = l[k] :: l.drop (k + 1) := List.drop_eq_getElem_cons hkl
    have ht : l.take k ++ [l[k]] = l.take (k + 1) := by rw [List.take_add_one, List.getElem?_eq_getElem hkl]; rfl
    have hs : hend <:+ l.take k ++ [l[k]] := by rw [ht, suf_occ l k hkl]; exact ⟨by omega, by rw [show k - 3 = e by omega]; exact ho⟩
    have htl : (l.take k).length = k := by simp; omega
    have hstep : stepM RM (.head (l.take k)) Q l[k] = bhM RM Q (l.take e) := by
      simp only [stepM]
      rw [if_pos hs, ht, htl, List.take_take, show min (k + 1 - 4) (k + 1) = e by omega]
    rw [hd]
    unfold hdR
    by_cases h1 : (bhM RM Q (l.take e)).1 = 1
    · rw [runM_one RM _ Q _ _ (by rw [hstep]; exact h1), hstep, if_pos h1]
      simp only [show k + 1 = e + 4 by omega]
      congr 1
      omega
    · rw [runM_end RM _ Q _ _ (by rw [hstep]; exact h1), hstep, if_neg h1]
      simp only
      congr 1
      omega
  | succ m ih =>
    intro k hk
    have hkl : k < l.length := by omega
    have hd : l.drop k = l[k] :: l.drop (k + 1) := List.drop_eq_getElem_cons hkl
    have ht : l.take k ++ [l[k]] = l.take (k + 1) := by rw [List.take_add_one, List.getElem?_eq_getElem hkl]; rfl
    have hs : ¬ hend <:+ l.take k ++ [l[k]] := by
      rw [ht, suf_occ l k hkl]
      rintro ⟨h3, h4⟩
      rw [hn (k - 3) (by omega)] at h4
      cases h4
    have htl : (l.take k).length = k := by simp; omega
    have hstep : stepM RM (.head (l.take k)) Q l[k] = (1, .head (l.take (k + 1)), Q) := by
      simp only [stepM]
      rw [if_neg hs, htl, if_neg (by omega), ht]
    have hb : k + 1 ≤ (hdR Q l e).1 := by
      unfold hdR
      split
      · simp only; omega
      · simp only; omega
    rw [hd, runM_one RM _ Q _ _ (by rw [hstep]), hstep]
    simp only
    rw [ih (k + 1) (by omega)]
    simp only
    congr 1
    omega
theorem head_long (Q : Rq) (l : List UInt8) (e : Nat) (hn : ∀ j, j < e → Lib.occAt l hend j = false) (hl : 8196 ≤ l.length) (he : 8196 < e + 4) : ∀ (m k : Nat), m + k = 8195 → (runM RM (.head (l.take k)) Q (l.drop k)).2.1 = 431 := by
  intro m
  induction m with
  | zero =>
    intro k hk
    have hkl : k < l.length := by omega
    have hd : l.drop k = l[k] :: l.drop (k + 1) := List.drop_eq_getElem_cons hkl
    have ht : l.take k ++ [l[k]] = l.take (k + 1) := by rw [List.take_add_one, List.getElem?_eq_getElem hkl]; rfl
    have hs : ¬ hend <:+ l.take k ++ [l[k]] := by
      rw [ht, suf_occ l k hkl]
      rintro ⟨h3, h4⟩
      rw [hn (k - 3) (by omega)] at h4
      cases h4
    have htl : (l.take k).length = k := by simp; omega
    have hstep : stepM RM (.head (l.take k)) Q l[k] = (431, .head (l.take k), Q) := by
      simp only [stepM]
      rw [if_neg hs, htl, if_pos (by omega)]
    rw [hd, runM_end RM _ Q _ _ (by rw [hstep]; simp), hstep]
  | succ m ih =>
    intro k hk
    have hkl : k < l.length := by omega
    have hd : l.drop k = l[k] :: l.drop (k + 1) := List.drop_eq_getElem_cons hkl
    have ht : l.take k ++ [l[k]] = l.take (k + 1) := by rw [List.take_add_one, List.getElem?_eq_getElem hkl]; rfl
    have hs : ¬ hend <:+ l.take k ++ [l[k]] := by
      rw [ht, suf_occ l k hkl]
      rintro ⟨h3, h4⟩
      rw [hn (k - 3) (by omega)] at h4
      cases h4
    have htl : (l.take k).length = k := by simp; omega
    have hstep : stepM RM (.head (l.take k)) Q l[k] = (1, .head (l.take (k + 1)), Q) := by
      simp only [stepM]
      rw [if_neg hs, htl, if_neg (by omega), ht]
    rw [hd, runM_one RM _ Q _ _ (by rw [hstep]), hstep]
    exact ih (k + 1) (by omega)
theorem pM_run (b c : List UInt8) (h : (run0 c).2.1 = (run0 b).2.1 ∧ ((run0 b).2.1 = 0 → (run0 c).1 = (run0 b).1 ∧ (run0 c).2.2.2 = (run0 b).2.2.2)) : pM c = pM b := by
  unfold pM parseM
  have h1 : (runM RM (.head []) Rq.nil c).2.1 = (runM RM (.head []) Rq.nil b).2.1 := h.1
  by_cases h0 : (runM RM (.head []) Rq.nil b).2.1 = 0
  · have h2 : (runM RM (.head []) Rq.nil c).1 = (runM RM (.head []) Rq.nil b).1 := (h.2 h0).1
    have h3 : (runM RM (.head []) Rq.nil c).2.2.2 = (runM RM (.head []) Rq.nil b).2.2.2 := (h.2 h0).2
    simp only [h1, h2, h3]
  · simp only [if_neg h0, h1]
/-- P8.11: the names' letters up to the head's end. -/
theorem pM_case (b c : List UInt8) (e : Nat) (he : Lib.index b hend = (e : Int)) (hf : Fl false (b.take e) (c.take e)) (hd : c.drop e = b.drop e) : pM c = pM b := by
  obtain ⟨ho, hn, hel⟩ : Lib.occAt b hend e = true ∧ (∀ j, j < e → Lib.occAt b hend j = false) ∧ e ≤ b.length := by
    rcases Lib.index_spec b hend with ⟨h1, _⟩ | ⟨i, h1, h2, h3, h4⟩
    · rw [he] at h1; omega
    · rw [he] at h1
      obtain rfl : e = i := by omega
      exact ⟨h3, h4, h2⟩
  have hroom : e + 4 ≤ b.length := by
    rcases Lib.occAt_room ho with h | h
    · simpa [hend] using h
    · simp [hend] at h
  have hlc : c.length = b.length := by
    have h1 := hf.len
    have h2 := congrArg List.length hd
    simp at h1 h2
    omega
  have hget : ∀ (i : Nat) (v : UInt8), v = 13 ∨ v = 10 ∨ v = 58 → (c[i]? = some v ↔ b[i]? = some v) := fun i v hv => by
    by_cases hi : i < e
    · have := hf.get13 i v hv
      rw [List.getElem?_take, List.getElem?_take, if_pos hi, if_pos hi] at this
      exact this
    · have h1 : (c.drop e)[i - e]? = (b.drop e)[i - e]? := by rw [hd]
      rw [List.getElem?_drop, List.getElem?_drop, show e + (i - e) = i by omega] at h1
      rw [h1]
  have hocc : ∀ i, Lib.occAt c hend i = Lib.occAt b hend i := fun i => by
    have hin : ∀ v ∈ hend, v = 13 ∨ v = 10 ∨ v = 58 := by decide
    rw [Bool.eq_iff_iff, occ_get, occ_get]
    constructor
    · intro k j v hj
      exact (hget _ v (hin v (List.mem_of_getElem? hj))).1 (k j v hj)
    · intro k j v hj
      exact (hget _ v (hin v (List.mem_of_getElem? hj))).2 (k j v hj)
  have ho' : Lib.occAt c hend e = true := by rw [hocc]; exact ho
  have hn' : ∀ j, j < e → Lib.occAt c hend j = false := fun j hj => by rw [hocc]; exact hn j hj
  refine pM_run b c ?_
  by_cases h4 : e + 4 ≤ 8196
  · have r1 := head_short Rq.nil b e ho hn h4 (e + 3) 0 (by omega)
    have r2 := head_short Rq.nil c e ho' hn' h4 (e + 3) 0 (by omega)
    simp only [List.take_zero, List.drop_zero, Nat.sub_zero] at r1 r2
    have hbh : bhM RM Rq.nil (c.take e) = bhM RM Rq.nil (b.take e) ∨ (bhM RM Rq.nil (c.take e)).1 = (bhM RM Rq.nil (b.take e)).1 ∧ (bhM RM Rq.nil (b.take e)).1 ≠ 0 ∧ (bhM RM Rq.nil (b.take e)).1 ≠ 1 ∨ ((bhM RM Rq.nil (c.take e)).1 = 0 ∧ (bhM RM Rq.nil (b.take e)).1 = 0 ∧ (bhM RM Rq.nil (c.take e)).2.2 = (bhM RM Rq.nil (b.take e)).2.2) := by
      unfold bhM
      rw [hf.rm]
      simp only
      split
      · rename_i h; exact .inr (.inl ⟨rfl, h, (rok_RM _).2.2⟩)
      · split
        · exact .inl rfl
        · split
          · exact .inr (.inr ⟨rfl, rfl, rfl⟩)
          · exact .inl rfl
    have hdd : c.drop (e + 4) = b.drop (e + 4) := by rw [← List.drop_drop, ← List.drop_drop, hd]
    unfold run0
    rcases hbh with h | ⟨h, h0, h1⟩ | ⟨h, h0, h1⟩
    · have : hdR Rq.nil c e = hdR Rq.nil b e := by unfold hdR; rw [h, hdd]
      rw [r1, r2, this]
      exact ⟨rfl, fun _ => ⟨rfl, rfl⟩⟩
    · have e1 : hdR Rq.nil b e = (e + 4, bhM RM Rq.nil (b.take e)) := by unfold hdR; rw [if_neg h1]
      have e2 : hdR Rq.nil c e = (e + 4, bhM RM Rq.nil (c.take e)) := by unfold hdR; rw [if_neg (by rw [h]; exact h1)]
      rw [r1, r2, e1, e2]
      exact ⟨h, fun hz => absurd hz h0⟩
    · have e1 : hdR Rq.nil b e = (e + 4, bhM RM Rq.nil (b.take e)) := by unfold hdR; rw [if_neg (by rw [h0]; decide)]
      have e2 : hdR Rq.nil c e = (e + 4, bhM RM Rq.nil (c.take e)) := by unfold hdR; rw [if_neg (by rw [h]; decide)]
      rw [r1, r2, e1, e2]
      exact ⟨h.trans h0.symm, fun _ => ⟨rfl, h1⟩⟩
  · have hbl : 8196 ≤ b.length := by omega
    have r1 := head_long Rq.nil b e hn hbl (by omega) 8195 0 (by omega)
    have r2 := head_long Rq.nil c e hn' (by omega) (by omega) 8195 0 (by omega)
    simp only [List.take_zero, List.drop_zero] at r1 r2
    unfold run0
    rw [r1, r2]
    exact ⟨rfl, fun h => by cases h⟩
#print axioms pM_case
end Go.Proofs.YtonaekkenggmbaaGreatDoor
end
