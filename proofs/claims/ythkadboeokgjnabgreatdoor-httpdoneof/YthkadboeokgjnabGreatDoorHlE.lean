/-
  httpd: what Parse answers: P8.12.
-/
import Derived.Test.YthkadboeokgjnabGreatDoorHlC
set_option linter.unusedVariables false
set_option maxRecDepth 1000000
namespace Go.Proofs.YthkadboeokgjnabGreatDoor
open Go.RowKit

theorem step_kindN (R : HdM) (hR : Rok R) (P : List Hd → Prop) (S : St) (Q : Rq) (c : UInt8) (hP : ∀ x h, S = .head x → h.length ≤ x.length + 1 → (R h).2.2 = 0 → P (R h).1.h) (hi : ¬ isH S → P Q.h) (hok : okQ S Q) :
    ((stepM R S Q c).1 = 0 → P (stepM R S Q c).2.2.h ∧ (stepM R S Q c).2.2.b.length ≤ 32768) ∧ ((stepM R S Q c).1 = 1 → ¬ isH (stepM R S Q c).2.1 → P (stepM R S Q c).2.2.h) ∧ ((stepM R S Q c).1 ≠ 0 → (stepM R S Q c).1 ≠ 1 → Sok R (stepM R S Q c).1) := by
  have hl := okQ_len hok
  cases S with
  | head x =>
    simp only [stepM]
    split
    · unfold bhM
      obtain ⟨r1, r2, r3⟩ := hR (List.take (x.length + 1 - 4) (x ++ [c]))
      have hp := hP x (List.take (x.length + 1 - 4) (x ++ [c])) rfl (by simp; omega)
      simp only
      split
      · rename_i h0
        exact ⟨fun h => absurd h h0, fun h => absurd h r3, fun _ _ => .inr (.inr (.inr ⟨_, rfl⟩))⟩
      · rename_i h0
        have hp0 := hp (by omega)
        split
        · exact ⟨fun h => by simp at h, fun _ _ => hp0, fun _ h => absurd rfl h⟩
        · split
          · exact ⟨fun _ => ⟨hp0, by simp only [r1]; simp⟩, fun h => by simp at h, fun h => absurd rfl h⟩
          · exact ⟨fun h => by simp at h, fun _ _ => hp0, fun _ h => absurd rfl h⟩
    · split
      · exact ⟨fun h => by simp at h, fun h => by simp at h, fun _ _ => .inr (.inl rfl)⟩
      · exact ⟨fun h => by simp at h, fun _ h => absurd trivial h, fun _ h => absurd rfl h⟩
  | bytes n t =>
    have hq := hi id
    simp only [okQ] at hok
    simp only [stepM]
    split
    · exact ⟨fun h => by simp at h, fun _ _ => hq, fun _ h => absurd rfl h⟩
    · refine ⟨fun h => ⟨hq, by simp; omega⟩, fun _ _ => hq, fun h0 h1 => ?_⟩
      rcases th_st t (.bytes n t) { Q with b := Q.b ++ [c] } with h | h | h
      · exact .inl h
      · exact absurd h h0
      · exact absurd h.1 h1
  | text u a t =>
    have hq := hi id
    simp only [stepM]
    split
    · exact ⟨fun h => by simp at h, fun h => by simp at h, fun _ _ => .inr (.inr (.inl rfl))⟩
    · split
      · exact ⟨fun h => by simp at h, fun _ _ => hq, fun _ h => absurd rfl h⟩
      · refine ⟨fun h => ⟨hq, hl⟩, fun _ _ => hq, fun h0 h1 => ?_⟩
        rcases th_st t (.text u a t) Q with h | h | h
        · exact .inl h
        · exact absurd h h0
        · exact absurd h.1 h1
  | chunk n d =>
    have hq := hi id
    simp only [stepM]
    split <;> (repeat' split)
    all_goals first
      | exact ⟨fun h => by simp at h, fun _ _ => hq, fun _ h => absurd rfl h⟩
      | exact ⟨fun h => by simp at h, fun h => by simp at h, fun _ _ => .inr (.inr (.inl rfl))⟩
theorem step_head (R : HdM) (hR : Rok R) (S : St) (Q : Rq) (c : UInt8) (x : List UInt8) (h1 : (stepM R S Q c).1 = 1) (h : (stepM R S Q c).2.1 = .head x) : ∃ y, S = .head y ∧ x.length = y.length + 1 := by
  have hno : ∀ S', ¬ isH S' → S' ≠ .head x := fun S' h e => h (by rw [e]; exact trivial)
  cases S with
  | head y =>
    refine ⟨y, rfl, ?_⟩
    simp only [stepM] at h1 h
    split at h
    · rename_i hs
      rw [if_pos hs] at h1
      unfold bhM at h h1
      simp only at h h1
      split at h
      · rename_i h0; rw [if_pos h0] at h1; exact absurd h1 (hR _).2.2
      · split at h
        · cases h
        · split at h
          · rename_i a b c2; rw [if_neg a, if_neg b, if_pos c2] at h1; simp at h1
          · cases h
    · rename_i hs
      rw [if_neg hs] at h1
      split at h
      · rename_i h2; rw [if_pos h2] at h1; simp at h1
      · cases h; simp
  | bytes n t =>
    simp only [stepM] at h1 h
    split at h
    · cases h
    · rename_i h2
      rw [if_neg h2] at h1
      rcases th_st t (.bytes n t) { Q with b := Q.b ++ [c] } with k | k | k
      · simp only [k] at h1; simp at h1
      · simp only [k] at h1; simp at h1
      · exact absurd h (hno _ k.2)
  | text u a t =>
    simp only [stepM] at h1 h
    split at h
    · cases h
    · rename_i h2
      rw [if_neg h2] at h1
      split at h
      · cases h
      · rename_i h3
        rw [if_neg h3] at h1
        rcases th_st t (.text u a t) Q with k | k | k
        · simp only [k] at h1; simp at h1
        · simp only [k] at h1; simp at h1
        · exact absurd h (hno _ k.2)
  | chunk n d =>
    simp only [stepM] at h1 h
    split at h <;> (repeat' split at h) <;> cases h
theorem run_kindN (R : HdM) (hR : Rok R) (N : Nat) (P : List Hd → Prop) (hP : ∀ h, h.length ≤ N → (R h).2.2 = 0 → P (R h).1.h) : ∀ (l : List UInt8) (S : St) (Q : Rq), (¬ isH S → P Q.h) → okQ S Q → (∀ x, S = .head x → x.length + l.length ≤ N) →
    ((runM R S Q l).2.1 = 0 → P (runM R S Q l).2.2.2.h ∧ (runM R S Q l).2.2.2.b.length ≤ 32768 ∧ 1 ≤ (runM R S Q l).1) ∧ ((runM R S Q l).2.1 ≠ 0 → (runM R S Q l).2.1 ≠ 1 → Sok R (runM R S Q l).2.1)
  | [], S, Q, hi, hok, hN => ⟨fun h => by simp [runM] at h, fun _ h => absurd rfl h⟩
  | c :: l, S, Q, hi, hok, hN => by
    obtain ⟨k0, k1, k2⟩ := step_kindN R hR P S Q c (fun x h e hl => hP h (by have := hN x e; simp at this; omega)) hi hok
    by_cases h1 : (stepM R S Q c).1 = 1
    · rw [runM_one R S Q c l h1]
      obtain ⟨i1, i2⟩ := run_kindN R hR N P hP l (stepM R S Q c).2.1 (stepM R S Q c).2.2 (k1 h1) (okQ_step R hR S Q c hok h1) (fun x hx => by
        obtain ⟨y, e, hy⟩ := step_head R hR S Q c x h1 hx
        have := hN y e
        simp at this
        omega)
      exact ⟨fun h => ⟨(i1 h).1, (i1 h).2.1, by simp⟩, i2⟩
    · rw [runM_end R S Q c l h1]
      exact ⟨fun h => ⟨(k0 h).1, (k0 h).2, Nat.le_refl _⟩, fun h0 h1 => k2 h0 h1⟩

theorem rfM_one (l : List UInt8) : (rfM l).2.2 ∈ [0, 400, 414, 501, 505] := by
  unfold rfM
  repeat' split
  all_goals simp
theorem fmM_one (a b c : List (List UInt8)) : (fmM a b c).2 ∈ [0, 400, 413, 501] := by
  unfold fmM
  repeat' split
  all_goals simp
theorem fmM_host (a b c : List (List UInt8)) (h : (fmM a b c).2 = 0) : b.length = 1 ∧ b.getD 0 [] ≠ [] := by
  unfold fmM at h
  split at h
  · simp at h
  · split at h
    · simp at h
    · rename_i h1
      simpa using h1
theorem rhM_one : ∀ (L : List (List UInt8)) (acc : List Hd), (rhM L acc).2 ∈ [0, 400, 431]
  | [], acc => by simp [rhM]
  | l :: L, acc => by
    unfold rhM
    split
    · simp
    · split
      · exact rhM_one L _
      · simp
theorem RM_one (h : List UInt8) : (RM h).2.2 ∈ [0, 400, 413, 414, 431, 501, 505] := by
  unfold RM
  simp only
  have k1 := rfM_one ((Lib.split h [13, 10]).getD 0 [])
  have k2 := rhM_one ((Lib.split h [13, 10]).drop 1) []
  have k3 := fmM_one (vals wTE (rhM ((Lib.split h [13, 10]).drop 1) []).1) (vals wHost (rhM ((Lib.split h [13, 10]).drop 1) []).1) (vals wCL (rhM ((Lib.split h [13, 10]).drop 1) []).1)
  simp only [List.mem_cons, List.not_mem_nil, or_false] at k1 k2 k3 ⊢
  repeat' split
  all_goals simp only
  all_goals first | omega | decide
/-- What the headers of a request that is taken are. -/
def HOk (N : Nat) (H : List Hd) : Prop := H.length ≤ 32 ∧ (∀ h ∈ H, h.1.length ≤ N ∧ h.2.length ≤ N) ∧ (vals wHost H).length = 1 ∧ (vals wHost H).getD 0 [] ≠ []
theorem RM_ok (N : Nat) (h : List UInt8) (hl : h.length ≤ N) (h0 : (RM h).2.2 = 0) : HOk N (RM h).1.h := by
  have k2 := rhM_S N ((Lib.split h [13, 10]).drop 1) [] (fun x hx => Nat.le_trans (split_len [13, 10] _ h x (List.mem_of_mem_drop hx)) hl) (by simp) (by simp)
  unfold RM at h0 ⊢
  simp only at h0 ⊢
  split at h0
  · simp at h0
  · rename_i a0
    rw [if_neg a0]
    split at h0
    · rename_i a1; exact absurd h0 a1
    · rename_i a1
      rw [if_neg a1]
      split at h0
      · rename_i a2; exact absurd h0 a2
      · rename_i a2
        rw [if_neg a2]
        split at h0
        · rename_i a3; exact absurd h0 a3
        · rename_i a3
          rw [if_neg a3]
          have k3 := fmM_host _ _ _ (Classical.byContradiction fun e => a3 e)
          exact ⟨k2.2, k2.1, k3⟩
theorem pM_ok (l : List UInt8) (h : (pM l).2.2 = 0) : HOk l.length (pM l).1.h := by
  obtain ⟨h1, h2⟩ := pM_yes l h
  rw [h2]
  exact ((run_kindN RM rok_RM l.length (HOk l.length) (RM_ok l.length) l (.head []) Rq.nil (fun h => absurd trivial h) (by simp [okQ, Rq.nil]) (fun x e => by cases e; simp)).1 h1).1
theorem pM_one (l : List UInt8) (h : (pM l).2.2 ≠ 0) : (pM l).2.2 ∈ [1, 400, 413, 414, 431, 501, 505] := by
  have hk := (run_kind RM rok_RM (fun _ => True) (fun _ _ => trivial) l (.head []) Rq.nil (fun h => absurd trivial h) (by simp [okQ, Rq.nil])).2
  unfold pM parseM at h ⊢
  simp only at h ⊢
  split
  · rename_i h1; rw [if_pos h1] at h; exact absurd rfl h
  · rename_i h1
    show (runM RM (.head []) Rq.nil l).2.1 ∈ _
    by_cases h2 : (runM RM (.head []) Rq.nil l).2.1 = 1
    · rw [h2]; simp
    · rcases hk h1 h2 with e | e | e | ⟨x, e⟩
      · rw [e]; simp
      · rw [e]; simp
      · rw [e]; simp
      · have := RM_one x
        rw [← e] at this
        simp only [List.mem_cons, List.not_mem_nil, or_false] at this ⊢
        omega
end Go.Proofs.YthkadboeokgjnabGreatDoor
