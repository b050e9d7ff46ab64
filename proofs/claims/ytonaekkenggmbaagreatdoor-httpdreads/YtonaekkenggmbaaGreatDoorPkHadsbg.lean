/-
  httpd's reference against the reader: the whole (mathematics).
-/
import Derived.Test.YtonaekkenggmbaaGreatDoorPkHadsbf
section
set_option linter.unusedVariables false
set_option maxRecDepth 100000
namespace Go.Proofs.YtonaekkenggmbaaGreatDoor
open Go.RowKit

def noH : St → Prop
  | .head _ => False
  | _ => True
theorem step_put (m p : List UInt8) (h : List Hd) (S : St) (Q : Rq) (c : UInt8) (hS : noH S) : stepM RM S ⟨m, p, h, Q.b⟩ c = ((stepM RM S Q c).1, (stepM RM S Q c).2.1, ⟨m, p, h, (stepM RM S Q c).2.2.b⟩) ∧ ((stepM RM S Q c).1 = 1 → noH (stepM RM S Q c).2.1) := by
  cases S with
  | head _ => exact hS.elim
  | bytes n t =>
    simp only [stepM]
    split
    · exact ⟨rfl, fun _ => trivial⟩
    · cases t with
      | fin => exact ⟨rfl, fun e => by cases e⟩
      | chk => exact ⟨rfl, fun _ => trivial⟩
      | tl => exact ⟨rfl, fun _ => trivial⟩
      | cb k =>
        simp only [thM, cbM]
        split
        · exact ⟨trivial, fun e => by cases e⟩
        · split
          · exact ⟨trivial, fun _ => trivial⟩
          · exact ⟨trivial, fun _ => trivial⟩
  | text u a t =>
    simp only [stepM]
    split
    · exact ⟨rfl, fun e => by cases e⟩
    · split
      · exact ⟨rfl, fun _ => trivial⟩
      · cases t with
        | fin => exact ⟨rfl, fun e => by cases e⟩
        | chk => exact ⟨rfl, fun _ => trivial⟩
        | tl => exact ⟨rfl, fun _ => trivial⟩
        | cb k =>
          simp only [thM, cbM]
          split
          · exact ⟨trivial, fun e => by cases e⟩
          · split
            · exact ⟨trivial, fun _ => trivial⟩
            · exact ⟨trivial, fun _ => trivial⟩
  | chunk n d =>
    simp only [stepM]
    cases hexB c with
    | some x =>
      simp only
      split
      · exact ⟨rfl, fun _ => trivial⟩
      · split
        · exact ⟨rfl, fun _ => trivial⟩
        · exact ⟨rfl, fun e => by cases e⟩
    | none =>
      simp only
      split
      · exact ⟨rfl, fun _ => trivial⟩
      · exact ⟨rfl, fun e => by cases e⟩
theorem run_put (m p : List UInt8) (h : List Hd) : ∀ (l : List UInt8) (S : St) (Q : Rq), noH S → runM RM S ⟨m, p, h, Q.b⟩ l = ((runM RM S Q l).1, (runM RM S Q l).2.1, (runM RM S Q l).2.2.1, ⟨m, p, h, (runM RM S Q l).2.2.2.b⟩)
  | [], S, Q, _ => rfl
  | c :: l, S, Q, hS => by
    obtain ⟨h1, h2⟩ := step_put m p h S Q c hS
    by_cases e : (stepM RM S Q c).1 = 1
    · rw [runM_one RM S ⟨m, p, h, Q.b⟩ c l (by rw [h1]; exact e), runM_one RM S Q c l e, h1]
      simp only
      rw [run_put m p h l _ _ (h2 e)]
    · rw [runM_end RM S ⟨m, p, h, Q.b⟩ c l (by rw [h1]; exact e), runM_end RM S Q c l e, h1]
theorem run_bytes : ∀ (l : List UInt8) (n : Nat) (Q : Rq), 0 < n → (l.length < n → (runM RM (.bytes n .fin) Q l).2.1 = 1) ∧ (n ≤ l.length → ∃ S, runM RM (.bytes n .fin) Q l = (n, 0, S, ⟨Q.m, Q.p, Q.h, Q.b ++ l.take n⟩))
  | [], n, Q, hn => ⟨fun _ => rfl, fun h => by simp at h; omega⟩
  | c :: l, n, Q, hn => by
    by_cases h1 : 1 < n
    · have hst : stepM RM (.bytes n .fin) Q c = (1, .bytes (n - 1) .fin, { Q with b := Q.b ++ [c] }) := by simp only [stepM, if_pos h1]
      obtain ⟨i1, i2⟩ := run_bytes l (n - 1) { Q with b := Q.b ++ [c] } (by omega)
      rw [runM_one RM _ Q c l (by rw [hst]), hst]
      simp only
      refine ⟨fun h => i1 (by simp at h; omega), fun h => ?_⟩
      obtain ⟨S, e⟩ := i2 (by simp at h; omega)
      refine ⟨S, ?_⟩
      rw [e]
      simp only
      have e1 : n - 1 + 1 = n := by omega
      obtain ⟨k, rfl⟩ : ∃ k, n = k + 1 := ⟨n - 1, by omega⟩
      simp
    · obtain rfl : n = 1 := by omega
      have hst : stepM RM (.bytes 1 .fin) Q c = (0, .bytes 1 .fin, { Q with b := Q.b ++ [c] }) := by simp [stepM, thM]
      rw [runM_end RM _ Q c l (by rw [hst]; exact Nat.zero_ne_one), hst]
      exact ⟨fun h => by simp at h, fun _ => ⟨_, rfl⟩⟩
def finR (y : Nat × Nat × St × Rq) : Rq × Nat × Nat := if y.2.1 = 0 then (y.2.2.2, y.1, 0) else (Rq.nil, 0, y.2.1)
theorem hd_no (s : List UInt8) (i : Nat) (h : (RM (s.take i)).2.2 ≠ 0) : finR (hdR Rq.nil s i) = (Rq.nil, 0, (RM (s.take i)).2.2) := by
  have h1 := (rok_RM (s.take i)).2.2
  have hb : bhM RM Rq.nil (s.take i) = ((RM (s.take i)).2.2, .head (s.take i), Rq.nil) := by
    simp only [bhM, if_pos h]
  unfold finR hdR
  rw [hb]
  simp only [if_neg h1, if_neg h]
theorem hd_ok (s : List UInt8) (i : Nat) (m p : List UInt8) (H : List Hd) (F : Fm) (h : RM (s.take i) = (⟨m, p, H, []⟩, F, 0)) :
    finR (hdR Rq.nil s i) = rp3 (m, p, 0) H (bd8 (F, 0) (s.drop (i + 4))) i := by
  obtain ⟨fc, fn⟩ := F
  unfold finR hdR
  cases fc with
  | true =>
    have hb : bhM RM Rq.nil (s.take i) = (1, .chunk 0 0, ⟨m, p, H, []⟩) := by simp [bhM, h]
    rw [hb]
    simp only [if_true]
    have hp := run_put m p H (s.drop (i + 4)) (.chunk 0 0) (qb []) trivial
    rw [show (⟨m, p, H, (qb []).b⟩ : Rq) = ⟨m, p, H, []⟩ from rfl] at hp
    rw [hp]
    unfold rp3 bd8 chR
    simp only
    generalize runM RM (.chunk 0 0) (qb []) (s.drop (i + 4)) = y
    by_cases h0 : y.2.1 = 0
    · simp [h0, Nat.add_comm]
    · simp [h0]
  | false =>
    by_cases hn : fn = 0
    · subst hn
      have hb : bhM RM Rq.nil (s.take i) = (0, .head (s.take i), ⟨m, p, H, []⟩) := by simp [bhM, h]
      rw [hb]
      simp [rp3, bd8]
    · have hb : bhM RM Rq.nil (s.take i) = (1, .bytes fn .fin, ⟨m, p, H, []⟩) := by simp [bhM, h, hn]
      rw [hb]
      simp only [if_true]
      obtain ⟨k1, k2⟩ := run_bytes (s.drop (i + 4)) fn ⟨m, p, H, []⟩ (by omega)
      generalize s.drop (i + 4) = r at *
      by_cases hl : r.length < fn
      · have := k1 hl
        simp [rp3, bd8, hl, this]
      · obtain ⟨S, e⟩ := k2 (by omega)
        rw [e]
        simp [rp3, bd8, hl, Nat.add_comm]
theorem rp1_hd (s : List UInt8) (i : Nat) (hi : i ≤ 8192) : rp1 s i = finR (hdR Rq.nil s i) := by
  have hL : ∀ y ∈ Lib.split (s.take i) [13, 10], y.length ≤ 8192 := fun y hy => by
    have := split_len [13, 10] _ (s.take i) y hy
    simp at this
    omega
  have hR : RM (s.take i) = RM (s.take i) := rfl
  conv at hR => rhs; unfold RM
  simp only at hR
  unfold rp1 rp2 bdM
  have h0 : (Lib.split (s.take i) [13, 10]).getD 0 [] = (Lib.split (s.take i) [13, 10]).getD 0 [] := rfl
  have hl0 : ((Lib.split (s.take i) [13, 10]).getD 0 []).length ≤ 8192 := by
    cases hx : Lib.split (s.take i) [13, 10] with
    | nil => simp
    | cons a b => exact hL a (by rw [hx]; exact List.mem_cons_self)
  rw [ln_rf _ hl0, fr_rh _ [] (fun x hx => hL x (List.mem_of_mem_drop hx))]
  have hsm := rh_sm ((Lib.split (s.take i) [13, 10]).drop 1) [] (fun h hh => by simp at hh)
  rw [val_vals _ _ hsm, val_vals _ _ hsm, val_vals _ _ hsm]
  generalize Lib.split (s.take i) [13, 10] = L at *
  by_cases c1 : L.any bad = true
  · rw [if_pos c1] at hR
    rw [if_pos c1, hd_no s i (by rw [hR]; decide), hR]
  · rw [if_neg c1] at hR
    rw [if_neg c1]
    generalize rfM (L.getD 0 []) = f at *
    generalize rhM (L.drop 1) [] = g at *
    obtain ⟨fm, fp, fs⟩ := f
    obtain ⟨gh, gs⟩ := g
    simp only at hR ⊢
    by_cases c2 : fs ≠ 0
    · rw [if_pos c2] at hR
      rw [if_pos c2, hd_no s i (by rw [hR]; exact c2), hR]
    · rw [if_neg c2] at hR
      rw [if_neg c2]
      by_cases c3 : gs ≠ 0
      · rw [if_pos c3] at hR
        rw [if_pos c3, hd_no s i (by rw [hR]; exact c3), hR]
      · rw [if_neg c3] at hR
        rw [if_neg c3]
        generalize fmM (vals wTE gh) (vals wHost gh) (vals wCL gh) = F at *
        obtain ⟨F1, F2⟩ := F
        simp only at hR ⊢
        by_cases c4 : F2 ≠ 0
        · rw [if_pos c4] at hR
          rw [hd_no s i (by rw [hR]; exact c4), hR]
          simp [rp3, bd8, c4]
        · rw [if_neg c4] at hR
          obtain rfl : F2 = 0 := Classical.byContradiction c4
          rw [hd_ok s i fm fp gh F1 hR]
          obtain rfl : fs = 0 := Classical.byContradiction c2
          rfl
theorem head_none (Q : Rq) (l : List UInt8) (hn : ∀ j, j ≤ l.length → Lib.occAt l hend j = false) (hl : l.length < 8196) : ∀ (m k : Nat), m + k = l.length → (runM RM (.head (l.take k)) Q (l.drop k)).2.1 = 1 := by
  intro m
  induction m with
  | zero =>
    intro k hk
    rw [List.drop_eq_nil_of_le (by omega)]
    rfl
  | succ m ih =>
    intro k hk
    have hkl : k < l.length := by omega
    have hd : l.drop k = l[k] :: l.drop (k + 1) := List.drop_eq_getElem_cons hkl
    have ht : l.take k ++ [l[k]] = l.take (k + 1) := by rw [List.take_add_one, List.getElem?_eq_getElem hkl]; rfl
    have hs : ¬ hend <:+ l.take k ++ [l[k]] := by
      rw [ht, suf_occ l k hkl]
      rintro ⟨h3, h4⟩
      rw [hn (k - 3) (by omega)] at h4
      cases h4
    have htl : (l.take k).length = k := by simp; omega
    have hstep : stepM RM (.head (l.take k)) Q l[k] = (1, .head (l.take (k + 1)), Q) := by
      simp only [stepM]
      rw [if_neg hs, htl, if_neg (by omega), ht]
    rw [hd, runM_one RM _ Q _ _ (by rw [hstep]), hstep]
    simp only
    exact ih (k + 1) (by omega)
/-- The reference says what the reader says. -/
theorem rp_pM (s : List UInt8) : rpM s = pM s := by
  have hp : pM s = finR (runM RM (.head []) Rq.nil s) := rfl
  rw [hp]
  unfold rpM
  rcases Lib.index_spec s hend with ⟨e, hn⟩ | ⟨i, e, hil, ho, hn⟩
  · have hw : whM hend s = s.length := by
      unfold whM
      rw [e, if_neg (by decide)]
    rw [hw]
    by_cases h : 8196 ≤ s.length
    · rw [if_pos ⟨by omega, .inr h⟩]
      have h1 : (runM RM (.head []) Rq.nil s).2.1 = 431 := by
        have := head_long Rq.nil s (s.length + 1) (fun j hj => hn j (by omega)) h (by omega) 8195 0 rfl
        simpa using this
      unfold finR
      rw [h1]
      rfl
    · rw [if_neg (by omega), if_pos rfl]
      have h1 : (runM RM (.head []) Rq.nil s).2.1 = 1 := by
        have := head_none Rq.nil s hn (by omega) s.length 0 rfl
        simpa using this
      unfold finR
      rw [h1]
      rfl
  · have hw : whM hend s = i := by
      unfold whM
      rw [e, if_pos (by omega)]
      simp
    have hr : i + 4 ≤ s.length := by
      rcases Lib.occAt_room ho with h | h
      · simpa [hend] using h
      · simp [hend] at h
    rw [hw]
    by_cases hi : i ≤ 8192
    · rw [if_neg (by omega), if_neg (by omega), rp1_hd s i hi]
      have hs := head_short Rq.nil s i ho (fun j hj => hn j hj) (by omega) (i + 3) 0 rfl
      simp only [List.take_zero, List.drop_zero, Nat.sub_zero] at hs
      rw [hs]
    · rw [if_pos ⟨by omega, .inl (by omega)⟩]
      have h1 : (runM RM (.head []) Rq.nil s).2.1 = 431 := by
        have := head_long Rq.nil s i (fun j hj => hn j hj) (by omega) (by omega) 8195 0 rfl
        simpa using this
      unfold finR
      rw [h1]
      rfl
#print axioms rp_pM
end Go.Proofs.YtonaekkenggmbaaGreatDoor
end
