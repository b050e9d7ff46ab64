/-
  PLAIN MATHEMATICS, no program: forms of numbers are ordered as the numbers are, and none begins another one.
-/
import Derived.Test.YthkeghbhckamoabNum
import Derived.Lib.Bytealg
set_option linter.unusedVariables false
namespace Go.Proofs.Ythkeghbhckamoab

theorem ofNat_toNat (n : Nat) (h : n < 256) : (UInt8.ofNat n).toNat = n := by
  simp
  omega
theorem ofNat_lt_iff (a b : Nat) (ha : a < 256) (hb : b < 256) : UInt8.ofNat a < UInt8.ofNat b ↔ a < b := by
  rw [UInt8.lt_iff_toNat_lt, ofNat_toNat a ha, ofNat_toNat b hb]

theorem be_mod : ∀ k n, be k n = be k (n % 256 ^ k)
  | 0, _ => rfl
  | k + 1, n => by
    rw [be, be, be_mod k (n / 256)]
    have e1 : n % 256 ^ (k + 1) / 256 = n / 256 % 256 ^ k := by
      rw [Nat.pow_succ, Nat.mul_comm, Nat.mod_mul_right_div_self]
    have e2 : UInt8.ofNat (n % 256 ^ (k + 1)) = UInt8.ofNat n := by
      apply UInt8.toNat.inj
      simp only [UInt8.toNat_ofNat']
      rw [Nat.pow_succ]
      exact Nat.mod_mul_left_mod n (256 ^ k) 256
    rw [e1, e2]

def sgn (m n : Nat) : Int := if m < n then -1 else if n < m then 1 else 0

theorem cmp_be : ∀ k m n, m < 256 ^ k → n < 256 ^ k → Lib.compareBytes (be k m) (be k n) = sgn m n
  | 0, m, n, hm, hn => by
    simp at hm hn
    subst hm hn
    rfl
  | k + 1, m, n, hm, hn => by
    have hp : 0 < 256 ^ k := Nat.pow_pos (by decide)
    have ha : m / 256 ^ k < 256 := by rw [Nat.div_lt_iff_lt_mul hp, Nat.mul_comm, ← Nat.pow_succ]; exact hm
    have hb : n / 256 ^ k < 256 := by rw [Nat.div_lt_iff_lt_mul hp, Nat.mul_comm, ← Nat.pow_succ]; exact hn
    rw [be_left, be_left, Lib.compareBytes, be_mod k m, be_mod k n, cmp_be k _ _ (Nat.mod_lt _ hp) (Nat.mod_lt _ hp)]
    have em := Nat.div_add_mod m (256 ^ k)
    have en := Nat.div_add_mod n (256 ^ k)
    have lm := Nat.mod_lt m hp
    have ln := Nat.mod_lt n hp
    simp only [ofNat_lt_iff _ _ ha hb, ofNat_lt_iff _ _ hb ha]
    generalize m / 256 ^ k = a at *
    generalize n / 256 ^ k = b at *
    generalize m % 256 ^ k = x at *
    generalize n % 256 ^ k = y at *
    generalize 256 ^ k = p at *
    unfold sgn
    rcases Nat.lt_trichotomy a b with h | h | h
    · have : p * a + p ≤ p * b := by rw [← Nat.mul_succ]; exact Nat.mul_le_mul_left p h
      rw [if_pos h, if_pos (by omega)]
    · subst h
      rw [if_neg (by omega), if_neg (by omega)]
      by_cases h1 : x < y
      · rw [if_pos h1, if_pos (by omega)]
      · by_cases h2 : y < x
        · rw [if_neg h1, if_pos h2, if_neg (by omega), if_pos (by omega)]
        · rw [if_neg h1, if_neg h2, if_neg (by omega), if_neg (by omega)]
    · have : p * b + p ≤ p * a := by rw [← Nat.mul_succ]; exact Nat.mul_le_mul_left p h
      rw [if_neg (by omega), if_pos h, if_neg (by omega), if_pos (by omega)]

theorem cmp_form (m n : Nat) (hm : m < 18446744073709551616) (hn : n < 18446744073709551616) : Lib.compareBytes (form m) (form n) = sgn m n := by
  have nm := nb_pos m
  have nn := nb_pos n
  unfold form
  by_cases h1 : m ≤ 247
  · by_cases h2 : n ≤ 247
    · rw [if_pos h1, if_pos h2, Lib.compareBytes]
      simp only [ofNat_lt_iff m n (by omega) (by omega), ofNat_lt_iff n m (by omega) (by omega), Lib.compareBytes]
      rfl
    · rw [if_pos h1, if_neg h2, Lib.compareBytes, if_pos ((ofNat_lt_iff _ _ (by omega) (by omega)).2 (by omega))]
      unfold sgn
      rw [if_pos (by omega)]
  · by_cases h2 : n ≤ 247
    · rw [if_neg h1, if_pos h2, Lib.compareBytes, if_neg (fun h => by have := (ofNat_lt_iff _ _ (by omega) (by omega)).1 h; omega), if_pos ((ofNat_lt_iff _ _ (by omega) (by omega)).2 (by omega))]
      unfold sgn
      rw [if_neg (by omega), if_pos (by omega)]
    · rw [if_neg h1, if_neg h2, Lib.compareBytes]
      simp only [ofNat_lt_iff (247 + nb m) (247 + nb n) (by omega) (by omega), ofNat_lt_iff (247 + nb n) (247 + nb m) (by omega) (by omega)]
      have lom := nb_lo m (by omega)
      have him := nb_hi m hm
      have lon := nb_lo n (by omega)
      have hin := nb_hi n hn
      rcases Nat.lt_trichotomy (nb m) (nb n) with h | h | h
      · rw [if_pos (by omega)]
        have : 256 ^ nb m ≤ 256 ^ (nb n - 1) := Nat.pow_le_pow_right (by decide) (by omega)
        unfold sgn
        rw [if_pos (by omega)]
      · rw [if_neg (by omega), if_neg (by omega), h]
        rw [h] at him
        exact cmp_be _ m n him hin
      · rw [if_neg (by omega), if_pos (by omega)]
        have : 256 ^ nb n ≤ 256 ^ (nb m - 1) := Nat.pow_le_pow_right (by decide) (by omega)
        unfold sgn
        rw [if_neg (by omega), if_pos (by omega)]

theorem cmp_self : ∀ l, Lib.compareBytes l l = 0
  | [] => rfl
  | a :: l => by rw [Lib.compareBytes, if_neg (UInt8.lt_irrefl a), if_neg (UInt8.lt_irrefl a), cmp_self l]

theorem form_inj (m n : Nat) (hm : m < 18446744073709551616) (hn : n < 18446744073709551616) (h : form m = form n) : m = n := by
  have := cmp_form m n hm hn
  rw [h, cmp_self] at this
  unfold sgn at this
  split at this
  · omega
  · split at this <;> omega

theorem form_head (n : Nat) : ∃ c t, form n = c :: t ∧ (form n).length = 1 + (c.toNat - 247) := by
  have := nb_pos n
  by_cases h : n ≤ 247
  · exact ⟨UInt8.ofNat n, [], by rw [form, if_pos h], by rw [form, if_pos h, ofNat_toNat n (by omega)]; simp; omega⟩
  · refine ⟨UInt8.ofNat (247 + nb n), be (nb n) n, by rw [form, if_neg h], ?_⟩
    rw [form, if_neg h, ofNat_toNat _ (by omega)]
    simp [be_length]
    omega

theorem form_prefix (m n : Nat) (hm : m < 18446744073709551616) (hn : n < 18446744073709551616) (hne : m ≠ n) : (form n).isPrefixOf (form m) = false := by
  cases hp : (form n).isPrefixOf (form m) with
  | false => rfl
  | true =>
    exfalso
    obtain ⟨t, ht⟩ := List.isPrefixOf_iff_prefix.1 hp
    obtain ⟨c, t1, e1, l1⟩ := form_head n
    obtain ⟨d, t2, e2, l2⟩ := form_head m
    rw [e1, e2, List.cons_append] at ht
    have hcd : c = d := (List.cons.inj ht).1
    subst hcd
    have hll : (form m).length = (form n).length := by rw [l1, l2]
    have : form m = form n := by
      rw [e1, e2] at hll
      have hx := (List.cons.inj ht).2
      have : t = [] := by
        apply List.eq_nil_of_length_eq_zero
        have := congrArg List.length hx
        simp at this hll
        omega
      subst this
      rw [e1, e2, ← hx]
      simp
    exact hne (form_inj m n hm hn this)

#print axioms cmp_form
#print axioms form_prefix
end Go.Proofs.Ythkeghbhckamoab
