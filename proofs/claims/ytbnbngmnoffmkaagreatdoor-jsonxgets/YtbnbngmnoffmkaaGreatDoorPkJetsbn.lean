/-
  PLAIN MATHEMATICS, no program: a number's form, its bytes the highest first.
-/
import Derived.WalkKit
section
set_option linter.unusedVariables false
namespace Go.Proofs.YtbnbngmnoffmkaaGreatDoor

/-- The lowest k bytes of a number, the highest first. -/
def be : Nat → Nat → List UInt8
  | 0, _ => []
  | k + 1, n => be k (n / 256) ++ [UInt8.ofNat n]

/-- How many bytes a number above 0 has. -/
def nb (n : Nat) : Nat :=
  if n < 256 then 1 else if n < 65536 then 2 else if n < 16777216 then 3 else if n < 4294967296 then 4
  else if n < 1099511627776 then 5 else if n < 281474976710656 then 6 else if n < 72057594037927936 then 7 else 8

/-- A number's form. -/
def form (n : Nat) : List UInt8 := if n ≤ 247 then [UInt8.ofNat n] else UInt8.ofNat (247 + nb n) :: be (nb n) n

theorem be_length : ∀ k n, (be k n).length = k
  | 0, _ => rfl
  | k + 1, n => by simp [be, be_length k]

theorem be_step (k j n : Nat) (h1 : 1 ≤ j) (hk : j ≤ k) : be (k - (j - 1)) (n / 256 ^ (j - 1)) = be (k - j) (n / 256 ^ j) ++ [UInt8.ofNat (n / 256 ^ (j - 1))] := by
  obtain ⟨i, rfl⟩ : ∃ i, j = i + 1 := ⟨j - 1, by omega⟩
  have e : k - (i + 1 - 1) = (k - (i + 1)) + 1 := by omega
  rw [e, be]
  congr 2
  rw [Nat.add_sub_cancel, Nat.div_div_eq_div_mul, Nat.pow_succ]

theorem be_left : ∀ k n, be (k + 1) n = UInt8.ofNat (n / 256 ^ k) :: be k n
  | 0, n => by simp [be]
  | k + 1, n => by
    rw [be, be_left k (n / 256)]
    conv => rhs; rw [be]
    rw [Nat.div_div_eq_div_mul, ← Nat.pow_succ', List.cons_append]

theorem nb_pos (n : Nat) : 1 ≤ nb n ∧ nb n ≤ 8 := by
  unfold nb
  repeat' split
  all_goals omega

theorem form_length (n : Nat) : (form n).length = if n ≤ 247 then 1 else 1 + nb n := by
  unfold form
  split
  · rfl
  · simp [be_length]; omega
theorem form_le (n : Nat) : 1 ≤ (form n).length ∧ (form n).length ≤ 9 := by
  have := nb_pos n
  rw [form_length]
  split <;> omega

/-- A number lies between two powers. -/
theorem nb_lo (n : Nat) (h : 0 < n) : 256 ^ (nb n - 1) ≤ n := by
  unfold nb
  repeat' split
  all_goals (simp; omega)
theorem nb_hi (n : Nat) (h : n < 18446744073709551616) : n < 256 ^ nb n := by
  unfold nb
  repeat' split
  all_goals (simp; omega)
theorem nb_of (n j : Nat) (hj : j ≤ 7) (h1 : 256 ^ j ≤ n) (h2 : n < 256 ^ (j + 1)) : nb n = j + 1 := by
  have hc : j = 0 ∨ j = 1 ∨ j = 2 ∨ j = 3 ∨ j = 4 ∨ j = 5 ∨ j = 6 ∨ j = 7 := by omega
  unfold nb
  rcases hc with rfl | rfl | rfl | rfl | rfl | rfl | rfl | rfl
  all_goals
    simp at h1 h2
    repeat' split
  all_goals omega

#print axioms be_left
#print axioms nb_of
end Go.Proofs.YtbnbngmnoffmkaaGreatDoor
end
