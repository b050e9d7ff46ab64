/-
  PLAIN MATHEMATICS, no program: the number that bytes say, a frame, and what Unframe answers.; PLAIN MATHEMATICS, no program: the number with which bytes begin; it is read as it was put, and put as it was read.
-/
import Derived.Test.YthhcaalafacjlaaDoorPkAetsak
import Derived.Test.YthhcaalafacjlaaDoorPkAetsab
section
set_option linter.unusedVariables false
namespace Go.Proofs.YthhcaalafacjlaaDoor

/-- The number that bytes say, the highest first. -/
def ofBe (l : List UInt8) : Nat := l.foldl (fun n c => n * 256 + c.toNat) 0

theorem ofBe_snoc (l : List UInt8) (c : UInt8) : ofBe (l ++ [c]) = ofBe l * 256 + c.toNat := by simp [ofBe]
theorem ofBe_take (l : List UInt8) (k : Nat) (h : k < l.length) : ofBe (l.take (k + 1)) = ofBe (l.take k) * 256 + (l.getD k 0).toNat := by
  rw [List.take_succ_eq_append_getElem h, ofBe_snoc]
  simp [h]
theorem ofBe_lt (l : List UInt8) : ofBe l < 256 ^ l.length := by
  suffices ∀ (r : List UInt8) n p, n < p → r.foldl (fun n c => n * 256 + c.toNat) n < p * 256 ^ r.length by
    have := this l 0 1 (by omega)
    simpa [ofBe] using this
  intro r
  induction r with
  | nil => intro n p h; simpa using h
  | cons c r ih =>
    intro n p h
    have hc : c.toNat < 256 := c.toNat_lt
    have := ih (n * 256 + c.toNat) (p * 256) (by omega)
    rw [List.foldl_cons, List.length_cons, Nat.pow_succ', ← Nat.mul_assoc]
    exact this

/-- A payload's frame. -/
def frameOf (p : List UInt8) : List UInt8 := be 3 p.length ++ p ++ be 4 (crc (be 3 p.length ++ p))

theorem frameOf_length (p : List UInt8) : (frameOf p).length = p.length + 7 := by
  simp [frameOf, be_length]
  omega

/-- What Unframe answers: the payload, how many bytes, the error's number. -/
def unframe (b : List UInt8) : List UInt8 × Nat × Nat :=
  if b.length < 3 then ([], 0, 2)
  else if 65536 < ofBe (b.take 3) then ([], 0, 4)
  else if b.length < ofBe (b.take 3) + 7 then ([], 0, 2)
  else if (b.drop (ofBe (b.take 3) + 3)).take 4 = be 4 (crc (b.take (ofBe (b.take 3) + 3))) then ((b.drop 3).take (ofBe (b.take 3)), ofBe (b.take 3) + 7, 0)
  else ([], 0, 11)

theorem ofBe_be : ∀ k n, n < 256 ^ k → ofBe (be k n) = n
  | 0, n, h => by simp at h; subst h; rfl
  | k + 1, n, h => by
    rw [be, ofBe_snoc, ofBe_be k (n / 256) (by rw [Nat.pow_succ] at h; omega)]
    have : (UInt8.ofNat n).toNat = n % 256 := by simp
    rw [this]
    omega

theorem be_ofBe (l : List UInt8) : be l.length (ofBe l) = l := by
  suffices ∀ n (l : List UInt8), l.length = n → be n (ofBe l) = l from this _ l rfl
  intro n
  induction n with
  | zero => intro l h; rw [List.eq_nil_of_length_eq_zero h]; rfl
  | succ n ih =>
    intro l h
    have hne : l ≠ [] := by intro e; subst e; simp at h
    obtain ⟨r, c, rfl⟩ : ∃ r c, l = r ++ [c] := ⟨l.dropLast, l.getLast hne, (List.dropLast_concat_getLast hne).symm⟩
    have hr : r.length = n := by simp at h; exact h
    have hc : c.toNat < 256 := c.toNat_lt
    rw [ofBe_snoc, be, show (ofBe r * 256 + c.toNat) / 256 = ofBe r by omega, ih r hr]
    congr 2
    apply UInt8.toNat.inj
    simp

#print axioms ofBe_lt
#print axioms be_ofBe
end Go.Proofs.YthhcaalafacjlaaDoor
end
section
set_option linter.unusedVariables false
namespace Go.Proofs.YthhcaalafacjlaaDoor

/-- How many bytes stand behind the first one in a number's form. -/
def bb (n : Nat) : Nat := if n ≤ 247 then 0 else nb n

/-- The number, how many bytes its form has, the error's number. -/
def rd (l : List UInt8) : Nat × Nat × Nat :=
  match l with
  | [] => (0, 0, 2)
  | c :: t =>
    if c.toNat ≤ 247 then (c.toNat, 1, 0)
    else if t.length < c.toNat - 247 then (0, 0, 2)
    else if bb (ofBe (t.take (c.toNat - 247))) < c.toNat - 247 then (0, 0, 10)
    else if 9223372036854775807 < ofBe (t.take (c.toNat - 247)) then (0, 0, 5)
    else (ofBe (t.take (c.toNat - 247)), c.toNat - 247 + 1, 0)

theorem rd_form (n : Nat) (hn : n ≤ 9223372036854775807) (r : List UInt8) : rd (form n ++ r) = (n, (form n).length, 0) := by
  have hnb := nb_pos n
  by_cases h : n ≤ 247
  · have e : (UInt8.ofNat n).toNat = n := by simp; omega
    rw [form, if_pos h]
    simp only [rd, List.cons_append, List.nil_append, e, if_pos h]
    rfl
  · have e : (UInt8.ofNat (247 + nb n)).toNat = 247 + nb n := by simp; omega
    have e2 : 247 + nb n - 247 = nb n := by omega
    have hl := be_length (nb n) n
    have e3 : (be (nb n) n ++ r).take (nb n) = be (nb n) n := by
      rw [List.take_append_of_le_length (by omega)]
      exact List.take_of_length_le (by omega)
    have e4 : ofBe (be (nb n) n) = n := ofBe_be _ _ (nb_hi n (by omega))
    have e5 : bb n = nb n := by rw [bb, if_neg h]
    rw [form, if_neg h, List.cons_append]
    simp only [rd, e, e2, e3, e4, e5]
    rw [if_neg (by omega), if_neg (by simp; omega), if_neg (by omega), if_neg (by omega)]
    simp [hl]

theorem rd_le (l : List UInt8) : (rd l).2.1 ≤ l.length ∧ (rd l).1 ≤ 9223372036854775807 ∧ ((rd l).2.2 = 0 → 1 ≤ (rd l).2.1) := by
  match l with
  | [] => simp [rd]
  | c :: t =>
    have hc : c.toNat < 256 := c.toNat_lt
    unfold rd
    simp only
    split
    · simp; omega
    · split
      · simp
      · split
        · simp
        · split
          · simp
          · simp; omega

theorem form_rd (l : List UInt8) (h : (rd l).2.2 = 0) : form (rd l).1 = l.take (rd l).2.1 := by
  match l with
  | [] => simp [rd] at h
  | c :: t =>
    have hc : c.toNat < 256 := c.toNat_lt
    unfold rd at h ⊢
    simp only at h ⊢
    split at h
    · rename_i h1
      rw [if_pos h1]
      simp only [form, if_pos h1, List.take_succ_cons, List.take_zero]
      congr 1
      apply UInt8.toNat.inj
      simp
    · rename_i h1
      rw [if_neg h1]
      split at h
      · simp at h
      · rename_i h2
        rw [if_neg h2]
        split at h
        · simp at h
        · rename_i h3
          rw [if_neg h3]
          split at h
          · simp at h
          · rename_i h4
            rw [if_neg h4]
            simp only
            have hlen : (t.take (c.toNat - 247)).length = c.toNat - 247 := by simp; omega
            have hlt := ofBe_lt (t.take (c.toNat - 247))
            have hbo := be_ofBe (t.take (c.toNat - 247))
            rw [hlen] at hlt hbo
            generalize ofBe (t.take (c.toNat - 247)) = n at *
            have hn : ¬ n ≤ 247 := by
              intro q
              rw [bb, if_pos q] at h3
              omega
            rw [bb, if_neg hn] at h3
            have hnb : nb n = c.toNat - 247 := by
              have lo := nb_lo n (by omega)
              have : nb n ≤ c.toNat - 247 := by
                rcases Nat.lt_or_ge (c.toNat - 247) (nb n) with q | q
                · have := Nat.pow_le_pow_right (n := 256) (by decide) (show c.toNat - 247 ≤ nb n - 1 by omega)
                  omega
                · exact q
              omega
            rw [form, if_neg hn, hnb, hbo, List.take_succ_cons]
            have e6 : 247 + (c.toNat - 247) = c.toNat := by omega
            have e7 : UInt8.ofNat c.toNat = c := by simp
            rw [e6, e7]

#print axioms rd_form
#print axioms form_rd
end Go.Proofs.YthhcaalafacjlaaDoor
end
