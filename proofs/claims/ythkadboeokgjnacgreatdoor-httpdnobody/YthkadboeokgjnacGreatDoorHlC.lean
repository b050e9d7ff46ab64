/-
  httpd's Parse as mathematics: what becomes of beginnings, and of what stands behind.
-/
import Derived.Test.YthkadboeokgjnacGreatDoorHhJ
set_option linter.unusedVariables false
set_option maxRecDepth 1000000
namespace Go.Proofs.YthkadboeokgjnacGreatDoor
open Go.RowKit

/-- Is a head still read? -/
def isH : St → Prop
  | .head _ => True
  | _ => False
theorem cb_st (n : Nat) (Q : Rq) : (cbM n Q).1 = 413 ∨ ((cbM n Q).1 = 1 ∧ ¬ isH (cbM n Q).2) := by
  unfold cbM
  split
  · exact .inl rfl
  · split
    · exact .inr ⟨rfl, id⟩
    · exact .inr ⟨rfl, id⟩
theorem th_st (t : Th) (S : St) (Q : Rq) : (thM t S Q).1 = 413 ∨ (thM t S Q).1 = 0 ∨ ((thM t S Q).1 = 1 ∧ ¬ isH (thM t S Q).2) := by
  cases t with
  | fin => exact .inr (.inl rfl)
  | chk => exact .inr (.inr ⟨rfl, id⟩)
  | cb n => rcases cb_st n Q with h | h
            · exact .inl h
            · exact .inr (.inr h)
  | tl => exact .inr (.inr ⟨rfl, id⟩)
/-- A status that refuses. -/
def Sok (R : HdM) (s : Nat) : Prop := s = 413 ∨ s = 431 ∨ s = 400 ∨ ∃ h, s = (R h).2.2
theorem step_kind (R : HdM) (hR : Rok R) (P : List Hd → Prop) (hP : ∀ h, (R h).2.2 = 0 → P (R h).1.h) (S : St) (Q : Rq) (c : UInt8) (hi : ¬ isH S → P Q.h) (hok : okQ S Q) :
    ((stepM R S Q c).1 = 0 → P (stepM R S Q c).2.2.h ∧ (stepM R S Q c).2.2.b.length ≤ 32768) ∧ ((stepM R S Q c).1 = 1 → ¬ isH (stepM R S Q c).2.1 → P (stepM R S Q c).2.2.h) ∧ ((stepM R S Q c).1 ≠ 0 → (stepM R S Q c).1 ≠ 1 → Sok R (stepM R S Q c).1) := by
  have hl := okQ_len hok
  cases S with
  | head x =>
    simp only [stepM]
    split
    · unfold bhM
      obtain ⟨r1, r2, r3⟩ := hR (List.take (x.length + 1 - 4) (x ++ [c]))
      have hp := hP (List.take (x.length + 1 - 4) (x ++ [c]))
      simp only
      split
      · rename_i h0
        exact ⟨fun h => absurd h h0, fun h => absurd h r3, fun _ _ => .inr (.inr (.inr ⟨_, rfl⟩))⟩
      · rename_i h0
        have hp0 := hp (by omega)
        split
        · exact ⟨fun h => by simp at h, fun _ _ => hp0, fun _ h => absurd rfl h⟩
        · split
          · exact ⟨fun _ => ⟨hp0, by simp only [r1]; simp⟩, fun h => by simp at h, fun h => absurd rfl h⟩
          · exact ⟨fun h => by simp at h, fun _ _ => hp0, fun _ h => absurd rfl h⟩
    · split
      · exact ⟨fun h => by simp at h, fun h => by simp at h, fun _ _ => .inr (.inl rfl)⟩
      · exact ⟨fun h => by simp at h, fun _ h => absurd trivial h, fun _ h => absurd rfl h⟩
  | bytes n t =>
    have hq := hi id
    simp only [okQ] at hok
    simp only [stepM]
    split
    · exact ⟨fun h => by simp at h, fun _ _ => hq, fun _ h => absurd rfl h⟩
    · refine ⟨fun h => ⟨hq, by simp; omega⟩, fun _ _ => hq, fun h0 h1 => ?_⟩
      rcases th_st t (.bytes n t) { Q with b := Q.b ++ [c] } with h | h | h
      · exact .inl h
      · exact absurd h h0
      · exact absurd h.1 h1
  | text u a t =>
    have hq := hi id
    simp only [stepM]
    split
    · exact ⟨fun h => by simp at h, fun h => by simp at h, fun _ _ => .inr (.inr (.inl rfl))⟩
    · split
      · exact ⟨fun h => by simp at h, fun _ _ => hq, fun _ h => absurd rfl h⟩
      · refine ⟨fun h => ⟨hq, hl⟩, fun _ _ => hq, fun h0 h1 => ?_⟩
        rcases th_st t (.text u a t) Q with h | h | h
        · exact .inl h
        · exact absurd h h0
        · exact absurd h.1 h1
  | chunk n d =>
    have hq := hi id
    simp only [stepM]
    split <;> (repeat' split)
    all_goals first
      | exact ⟨fun h => by simp at h, fun _ _ => hq, fun _ h => absurd rfl h⟩
      | exact ⟨fun h => by simp at h, fun h => by simp at h, fun _ _ => .inr (.inr (.inl rfl))⟩
theorem run_kind (R : HdM) (hR : Rok R) (P : List Hd → Prop) (hP : ∀ h, (R h).2.2 = 0 → P (R h).1.h) : ∀ (l : List UInt8) (S : St) (Q : Rq), (¬ isH S → P Q.h) → okQ S Q →
    ((runM R S Q l).2.1 = 0 → P (runM R S Q l).2.2.2.h ∧ (runM R S Q l).2.2.2.b.length ≤ 32768 ∧ 1 ≤ (runM R S Q l).1) ∧ ((runM R S Q l).2.1 ≠ 0 → (runM R S Q l).2.1 ≠ 1 → Sok R (runM R S Q l).2.1)
  | [], S, Q, hi, hok => ⟨fun h => by simp [runM] at h, fun _ h => absurd rfl h⟩
  | c :: l, S, Q, hi, hok => by
    obtain ⟨k0, k1, k2⟩ := step_kind R hR P hP S Q c hi hok
    by_cases h1 : (stepM R S Q c).1 = 1
    · rw [runM_one R S Q c l h1]
      obtain ⟨i1, i2⟩ := run_kind R hR P hP l (stepM R S Q c).2.1 (stepM R S Q c).2.2 (k1 h1) (okQ_step R hR S Q c hok h1)
      exact ⟨fun h => ⟨(i1 h).1, (i1 h).2.1, by simp⟩, i2⟩
    · rw [runM_end R S Q c l h1]
      exact ⟨fun h => ⟨(k0 h).1, (k0 h).2, Nat.le_refl _⟩, fun h0 h1 => k2 h0 h1⟩
/-- P8.1, as the program has it. -/
def pM (l : List UInt8) : Rq × Nat × Nat := parseM RM l
theorem pM_no (l : List UInt8) (h : (pM l).2.2 ≠ 0) : pM l = (Rq.nil, 0, (pM l).2.2) := by
  unfold pM parseM at h ⊢
  simp only at h ⊢
  split
  · rename_i h1; rw [if_pos h1] at h; exact absurd rfl h
  · rfl
theorem pM_yes (l : List UInt8) (h : (pM l).2.2 = 0) : (runM RM (.head []) Rq.nil l).2.1 = 0 ∧ pM l = ((runM RM (.head []) Rq.nil l).2.2.2, (runM RM (.head []) Rq.nil l).1, 0) := by
  unfold pM parseM at h ⊢
  simp only at h ⊢
  split
  · rename_i h1; exact ⟨h1, rfl⟩
  · rename_i h1; rw [if_neg h1] at h; exact absurd h h1
theorem RM_h (h : List UInt8) : (RM h).1.h.length ≤ 32 := by
  unfold RM
  simp only
  repeat' split
  all_goals first | exact Nat.zero_le _ | skip
  exact (rhM_S (Lib.split h [13, 10]).flatten.length _ [] (fun x hx => List.Sublist.length_le (List.sublist_flatten_of_mem (List.mem_of_mem_drop hx))) (by simp) (by simp)).2
theorem pM_hl (l : List UInt8) : (pM l).1.h.length ≤ 32 ∧ (pM l).1.b.length ≤ 32768 := by
  by_cases h : (pM l).2.2 = 0
  · obtain ⟨h1, h2⟩ := pM_yes l h
    rw [h2]
    have := (run_kind RM rok_RM (fun H => H.length ≤ 32) (fun h _ => RM_h h) l (.head []) Rq.nil (fun h => absurd trivial h) (by simp [okQ, Rq.nil])).1 h1
    exact ⟨this.1, this.2.1⟩
  · rw [pM_no l h]; simp [Rq.nil]
theorem pM_n (l : List UInt8) (h : (pM l).2.2 = 0) : 1 ≤ (pM l).2.1 ∧ (pM l).2.1 ≤ l.length := by
  obtain ⟨h1, h2⟩ := pM_yes l h
  rw [h2]
  exact ⟨((run_kind RM rok_RM (fun H => H.length ≤ 32) (fun h _ => RM_h h) l (.head []) Rq.nil (fun h => absurd trivial h) (by simp [okQ, Rq.nil])).1 h1).2.2, runM_le _ _ _ _⟩
/-- P8.9: a shorter beginning asks for more. -/
theorem pM_short (l : List UInt8) (h : (pM l).2.2 = 0) (k : Nat) (hk : k < (pM l).2.1) : pM (l.take k) = (Rq.nil, 0, 1) := by
  obtain ⟨h1, h2⟩ := pM_yes l h
  rw [h2] at hk
  have := (runM_cut RM l (.head []) Rq.nil (by rw [h1]; simp)).1 k hk
  unfold pM parseM
  simp only [this]
  simp
/-- P8.9: more behind it changes nothing. -/
theorem pM_more (l r : List UInt8) (h : (pM l).2.2 = 0) : pM (l.take (pM l).2.1 ++ r) = pM l := by
  obtain ⟨h1, h2⟩ := pM_yes l h
  have hc := (runM_cut RM l (.head []) Rq.nil (by rw [h1]; simp)).2
  have hn : (pM l).2.1 = (runM RM (.head []) Rq.nil l).1 := by rw [h2]
  have ha : runM RM (.head []) Rq.nil (l.take (runM RM (.head []) Rq.nil l).1 ++ r) = runM RM (.head []) Rq.nil l := by
    rw [runM_app, hc, if_neg (by rw [h1]; simp)]
  rw [hn, h2]
  unfold pM parseM
  simp only [ha, h1, if_true]
end Go.Proofs.YthkadboeokgjnacGreatDoor
