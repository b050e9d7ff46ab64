/-
  THE FRAMES AT THE BEGINNING OF BYTES, as a model.
-/
import Derived.Test.YthpalohjjkmhdaaTorn
set_option linter.unusedVariables false
namespace Go.Proofs.Ythpalohjjkmhdaa

theorem unframe_size (l : List UInt8) (h : (unframe l).2.2 = 0) : 7 ≤ (unframe l).2.1 ∧ (unframe l).2.1 ≤ l.length := by
  unfold unframe at h ⊢
  split at h
  · simp at h
  · split at h
    · simp at h
    · split at h
      · simp at h
      · split at h
        · rename_i h1 h2 h3 h4
          rw [if_neg h1, if_neg h2, if_neg h3, if_pos h4]
          simp
          omega
        · simp at h
theorem unframe_lead (p r : List UInt8) (hp : p.length ≤ 65536) : unframe (frameOf p ++ r) = (p, p.length + 7, 0) := by
  have hl := frameOf_length p
  have hA : (be 3 p.length ++ p).length = p.length + 3 := by simp [be_length]; omega
  have hB : (be 4 (crc (be 3 p.length ++ p))).length = 4 := be_length _ _
  have e : frameOf p ++ r = (be 3 p.length ++ p) ++ (be 4 (crc (be 3 p.length ++ p)) ++ r) := by unfold frameOf; simp
  have t3 : (frameOf p ++ r).take 3 = be 3 p.length := by
    rw [e, List.append_assoc, List.take_append_of_le_length (by simp [be_length])]
    exact List.take_of_length_le (by simp [be_length])
  have ta : (frameOf p ++ r).take (p.length + 3) = be 3 p.length ++ p := by
    rw [e, List.take_append_of_le_length (by omega)]
    exact List.take_of_length_le (by omega)
  have td : ((frameOf p ++ r).drop (p.length + 3)).take 4 = be 4 (crc (be 3 p.length ++ p)) := by
    rw [e, List.drop_append_of_le_length (by omega), List.drop_of_length_le (by omega), List.nil_append, List.take_append_of_le_length (by omega)]
    exact List.take_of_length_le (by omega)
  have tp : ((frameOf p ++ r).drop 3).take p.length = p := by
    rw [e, List.append_assoc, List.drop_append_of_le_length (by simp [be_length]), List.drop_of_length_le (by simp [be_length]), List.nil_append, List.take_append_of_le_length (by omega)]
    exact List.take_of_length_le (by omega)
  unfold unframe
  rw [t3, ofBe_be 3 _ (by simp; omega), if_neg (by simp; omega), if_neg (by omega), if_neg (by simp; omega), ta, td, if_pos rfl, tp]

def frs (l : List UInt8) : List (List UInt8) × Nat :=
  if h : (unframe l).2.2 = 0 then ((unframe l).1 :: (frs (l.drop (unframe l).2.1)).1, (unframe l).2.1 + (frs (l.drop (unframe l).2.1)).2) else ([], 0)
termination_by l.length
decreasing_by
  all_goals
    have := unframe_size l h
    simp
    omega
theorem frs_end (l : List UInt8) (h : (unframe l).2.2 ≠ 0) : frs l = ([], 0) := by rw [frs, dif_neg h]
theorem frs_go (l p : List UInt8) (n : Nat) (h : unframe l = (p, n, 0)) : frs l = (p :: (frs (l.drop n)).1, n + (frs (l.drop n)).2) := by
  rw [frs, dif_pos (by rw [h]), h]
theorem frs_len : ∀ (n : Nat) (l : List UInt8), l.length ≤ n → (frs l).1.length ≤ l.length
  | 0, l, h => by
    have : l = [] := List.eq_nil_of_length_eq_zero (by omega)
    subst this
    rw [frs_end [] (by decide)]; simp
  | n + 1, l, h => by
    by_cases hu : (unframe l).2.2 = 0
    · have hs := unframe_size l hu
      have := frs_len n (l.drop (unframe l).2.1) (by simp; omega)
      rw [frs, dif_pos hu]
      simp only [List.length_cons]
      simp only [List.length_drop] at this
      omega
    · rw [frs_end l hu]; simp
theorem unframe_pay (l : List UInt8) : (unframe l).1.length ≤ l.length := by
  unfold unframe
  split
  · simp
  · split
    · simp
    · split
      · simp
      · split
        · simp; omega
        · simp
theorem frs_mem : ∀ (n : Nat) (l : List UInt8), l.length ≤ n → ∀ p ∈ (frs l).1, p.length ≤ l.length
  | 0, l, h, p, hp => by
    have : l = [] := List.eq_nil_of_length_eq_zero (by omega)
    subst this
    rw [frs_end [] (by decide)] at hp; simp at hp
  | n + 1, l, h, p, hp => by
    by_cases hu : (unframe l).2.2 = 0
    · have hs := unframe_size l hu
      rw [frs, dif_pos hu] at hp
      simp only [List.mem_cons] at hp
      rcases hp with rfl | hp
      · exact unframe_pay l
      · have := frs_mem n (l.drop (unframe l).2.1) (by simp; omega) p hp
        simp only [List.length_drop] at this
        omega
    · rw [frs_end l hu] at hp; simp at hp
theorem frs_nil : frs [] = ([], 0) := frs_end [] (by decide)
theorem frs_lead (p r : List UInt8) (hp : p.length ≤ 65536) : frs (frameOf p ++ r) = (p :: (frs r).1, p.length + 7 + (frs r).2) := by
  rw [frs_go _ p _ (unframe_lead p r hp)]
  have : (frameOf p ++ r).drop (p.length + 7) = r := by
    rw [List.drop_append_of_le_length (by rw [frameOf_length]; omega), List.drop_eq_nil_of_le (by rw [frameOf_length]; omega)]
    simp
  rw [this]
theorem frs_cut (p : List UInt8) (hp : p.length ≤ 65536) (k : Nat) (hk : k < p.length + 7) : frs ((frameOf p).take k) = ([], 0) :=
  frs_end _ (by rw [unframe_cut p hp k hk]; decide)
end Go.Proofs.Ythpalohjjkmhdaa
