/-
  PLAIN MATHEMATICS, no program: the number that bytes say, a frame, and what Unframe answers.
-/
import Derived.Test.YtoapkajlgnlecaaDoorNum
import Derived.Test.YtoapkajlgnlecaaDoorCrc
set_option linter.unusedVariables false
namespace Go.Proofs.YtoapkajlgnlecaaDoor

/-- The number that bytes say, the highest first. -/
def ofBe (l : List UInt8) : Nat := l.foldl (fun n c => n * 256 + c.toNat) 0

theorem ofBe_snoc (l : List UInt8) (c : UInt8) : ofBe (l ++ [c]) = ofBe l * 256 + c.toNat := by simp [ofBe]
theorem ofBe_take (l : List UInt8) (k : Nat) (h : k < l.length) : ofBe (l.take (k + 1)) = ofBe (l.take k) * 256 + (l.getD k 0).toNat := by
  rw [List.take_succ_eq_append_getElem h, ofBe_snoc]
  simp [h]
theorem ofBe_lt (l : List UInt8) : ofBe l < 256 ^ l.length := by
  suffices ∀ (r : List UInt8) n p, n < p → r.foldl (fun n c => n * 256 + c.toNat) n < p * 256 ^ r.length by
    have := this l 0 1 (by omega)
    simpa [ofBe] using this
  intro r
  induction r with
  | nil => intro n p h; simpa using h
  | cons c r ih =>
    intro n p h
    have hc : c.toNat < 256 := c.toNat_lt
    have := ih (n * 256 + c.toNat) (p * 256) (by omega)
    rw [List.foldl_cons, List.length_cons, Nat.pow_succ', ← Nat.mul_assoc]
    exact this

/-- A payload's frame. -/
def frameOf (p : List UInt8) : List UInt8 := be 3 p.length ++ p ++ be 4 (crc (be 3 p.length ++ p))

theorem frameOf_length (p : List UInt8) : (frameOf p).length = p.length + 7 := by
  simp [frameOf, be_length]
  omega

/-- What Unframe answers: the payload, how many bytes, the error's number. -/
def unframe (b : List UInt8) : List UInt8 × Nat × Nat :=
  if b.length < 3 then ([], 0, 2)
  else if 65536 < ofBe (b.take 3) then ([], 0, 4)
  else if b.length < ofBe (b.take 3) + 7 then ([], 0, 2)
  else if (b.drop (ofBe (b.take 3) + 3)).take 4 = be 4 (crc (b.take (ofBe (b.take 3) + 3))) then ((b.drop 3).take (ofBe (b.take 3)), ofBe (b.take 3) + 7, 0)
  else ([], 0, 11)

theorem ofBe_be : ∀ k n, n < 256 ^ k → ofBe (be k n) = n
  | 0, n, h => by simp at h; subst h; rfl
  | k + 1, n, h => by
    rw [be, ofBe_snoc, ofBe_be k (n / 256) (by rw [Nat.pow_succ] at h; omega)]
    have : (UInt8.ofNat n).toNat = n % 256 := by simp
    rw [this]
    omega

theorem be_ofBe (l : List UInt8) : be l.length (ofBe l) = l := by
  suffices ∀ n (l : List UInt8), l.length = n → be n (ofBe l) = l from this _ l rfl
  intro n
  induction n with
  | zero => intro l h; rw [List.eq_nil_of_length_eq_zero h]; rfl
  | succ n ih =>
    intro l h
    have hne : l ≠ [] := by intro e; subst e; simp at h
    obtain ⟨r, c, rfl⟩ : ∃ r c, l = r ++ [c] := ⟨l.dropLast, l.getLast hne, (List.dropLast_concat_getLast hne).symm⟩
    have hr : r.length = n := by simp at h; exact h
    have hc : c.toNat < 256 := c.toNat_lt
    rw [ofBe_snoc, be, show (ofBe r * 256 + c.toNat) / 256 = ofBe r by omega, ih r hr]
    congr 2
    apply UInt8.toNat.inj
    simp

#print axioms ofBe_lt
#print axioms be_ofBe
end Go.Proofs.YtoapkajlgnlecaaDoor
