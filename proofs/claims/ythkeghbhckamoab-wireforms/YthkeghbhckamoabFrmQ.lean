/-
  PLAIN MATHEMATICS, no program: what is read, put again, is the bytes that were read.
-/
import Derived.Test.YthkeghbhckamoabRd
set_option linter.unusedVariables false
namespace Go.Proofs.Ythkeghbhckamoab

/-- What Text answers: the text, the error's number, how many bytes were read. (The same as the cursor's walk has.) -/
def txOk (l t : List UInt8) (s n : Nat) : Prop := (rd l).2.2 = 0 ∧ (rd l).1 = n ∧ (rd l).2.1 = s ∧ n ≤ l.length - s ∧ t = (l.drop s).take n

theorem txOk_form (l t : List UInt8) (s n : Nat) (h : txOk l t s n) : t.length = n ∧ form t.length ++ t = l.take (s + n) := by
  obtain ⟨h1, h2, h3, h4, h5⟩ := h
  have hl : t.length = n := by rw [h5]; simp; omega
  have hf := form_rd l h1
  rw [h2, h3] at hf
  refine ⟨hl, ?_⟩
  rw [hl, hf, List.take_add]
  congr 1

theorem unframe_back (l p : List UInt8) (k : Nat) (h : (p, k, 0) = unframe l) : p.length ≤ 65536 ∧ k ≤ l.length ∧ frameOf p = l.take k := by
  unfold unframe at h
  by_cases h1 : l.length < 3
  · rw [if_pos h1] at h; simp at h
  · rw [if_neg h1] at h
    generalize hS : ofBe (l.take 3) = S at h
    by_cases h2 : 65536 < S
    · rw [if_pos h2] at h; simp at h
    · rw [if_neg h2] at h
      by_cases h3 : l.length < S + 7
      · rw [if_pos h3] at h; simp at h
      · rw [if_neg h3] at h
        by_cases h4 : (l.drop (S + 3)).take 4 = be 4 (crc (l.take (S + 3)))
        · rw [if_pos h4] at h
          simp only [Prod.mk.injEq, and_true] at h
          obtain ⟨rfl, rfl⟩ := h
          have hp : ((l.drop 3).take S).length = S := by simp; omega
          refine ⟨by omega, by omega, ?_⟩
          have h3' : (l.take 3).length = 3 := by simp; omega
          have e1 : be 3 S ++ (l.drop 3).take S = l.take (S + 3) := by
            have := be_ofBe (l.take 3)
            rw [h3', hS] at this
            rw [this, Nat.add_comm S 3, List.take_add]
          have e2 : l.take (S + 7) = l.take (S + 3) ++ (l.drop (S + 3)).take 4 := by
            rw [show S + 7 = S + 3 + 4 by omega, List.take_add]
          unfold frameOf
          rw [hp, e1, e2, h4]
        · rw [if_neg h4] at h; simp at h

theorem unframe_none (l p : List UInt8) (k E : Nat) (h : (p, k, E) = unframe l) (hE : E ≠ 0) : p = [] ∧ k = 0 := by
  unfold unframe at h
  split at h
  · simp only [Prod.mk.injEq] at h; exact ⟨h.1, h.2.1⟩
  · split at h
    · simp only [Prod.mk.injEq] at h; exact ⟨h.1, h.2.1⟩
    · split at h
      · simp only [Prod.mk.injEq] at h; exact ⟨h.1, h.2.1⟩
      · split at h
        · simp only [Prod.mk.injEq] at h; exact absurd h.2.2 hE
        · simp only [Prod.mk.injEq] at h; exact ⟨h.1, h.2.1⟩

#print axioms unframe_back
end Go.Proofs.Ythkeghbhckamoab
