/-
  PLAIN MATHEMATICS, no program: torn frames are found out: a beginning is too short, one byte turned has another sum.
-/
import Derived.Test.YthpalohjjkmhdaaFrm
set_option linter.unusedVariables false
namespace Go.Proofs.Ythpalohjjkmhdaa

theorem xor_cancel_r {a b c : Nat} (h : a ^^^ c = b ^^^ c) : a = b := by
  have := congrArg (fun x => x ^^^ c) h
  simp only [Nat.xor_assoc, Nat.xor_self, Nat.xor_zero] at this
  exact this
theorem xor_cancel_l {a b c : Nat} (h : c ^^^ a = c ^^^ b) : a = b := by
  rw [Nat.xor_comm c a, Nat.xor_comm c b] at h
  exact xor_cancel_r h

theorem top_bit (c : Nat) (h : c < 4294967296) : (bit1 c).testBit 31 = decide (c % 2 = 1) := by
  have h2 : c / 2 < 2 ^ 31 := by omega
  unfold bit1
  split
  · rename_i h1
    rw [Nat.testBit_xor, Nat.testBit_lt_two_pow h2]
    simp [h1]
    decide
  · rename_i h1
    rw [Nat.testBit_lt_two_pow h2]
    simp [h1]

theorem bit1_inj (c d : Nat) (hc : c < 4294967296) (hd : d < 4294967296) (h : bit1 c = bit1 d) : c = d := by
  have t1 := top_bit c hc
  have t2 := top_bit d hd
  rw [h, t2] at t1
  have hp : c % 2 = 1 ↔ d % 2 = 1 := by
    constructor
    · intro q
      rw [decide_eq_true q] at t1
      exact of_decide_eq_true t1
    · intro q
      rw [decide_eq_true q] at t1
      exact of_decide_eq_true t1.symm
  unfold bit1 at h
  by_cases h1 : c % 2 = 1
  · have h2 := hp.1 h1
    rw [if_pos h1, if_pos h2] at h
    have := xor_cancel_r h
    omega
  · have h2 : ¬ d % 2 = 1 := fun q => h1 (hp.2 q)
    rw [if_neg h1, if_neg h2] at h
    omega

theorem rep_inj (k c d : Nat) (hc : c < 4294967296) (hd : d < 4294967296) (h : rep k c = rep k d) : c = d := by
  induction k with
  | zero => exact h
  | succ k ih => exact ih (bit1_inj _ _ (rep_lt hc k) (rep_lt hd k) h)

theorem byte1_inj (c d : Nat) (x y : UInt8) (hc : c < 4294967296) (hd : d < 4294967296) (h : byte1 c x = byte1 d y) : c ^^^ x.toNat = d ^^^ y.toNat :=
  rep_inj 8 _ _ (xor8_lt hc x) (xor8_lt hd y) h

theorem fold_inj (l : List UInt8) : ∀ c d : Nat, c < 4294967296 → d < 4294967296 → l.foldl byte1 c = l.foldl byte1 d → c = d := by
  induction l with
  | nil => intro c d _ _ h; exact h
  | cons x r ih =>
    intro c d hc hd h
    have := ih _ _ (byte1_lt hc x) (byte1_lt hd x) h
    exact xor_cancel_r (byte1_inj c d x x hc hd this)

theorem crc_turn (a b : List UInt8) (x y : UInt8) (h : crc (a ++ x :: b) = crc (a ++ y :: b)) : x = y := by
  unfold crc at h
  have h := xor_cancel_r h
  unfold crcS at h
  rw [List.foldl_append, List.foldl_append, List.foldl_cons, List.foldl_cons] at h
  have hA : a.foldl byte1 4294967295 < 4294967296 := crcS_lt a
  have h := fold_inj b _ _ (byte1_lt hA x) (byte1_lt hA y) h
  have h := byte1_inj _ _ x y hA hA h
  exact UInt8.toNat.inj (xor_cancel_l h)

theorem be4_inj (c d : Nat) (hc : c < 4294967296) (hd : d < 4294967296) (h : be 4 c = be 4 d) : c = d := by
  have h1 := ofBe_be 4 c (by simpa using hc)
  have h2 := ofBe_be 4 d (by simpa using hd)
  rw [h, h2] at h1
  exact h1.symm

theorem frame_head (p : List UInt8) (hp : p.length ≤ 65536) (k : Nat) (hk : 3 ≤ k) : ((frameOf p).take k).take 3 = be 3 p.length := by
  rw [List.take_take, Nat.min_eq_left hk]
  unfold frameOf
  rw [List.append_assoc, List.take_append_of_le_length (by simp [be_length])]
  exact List.take_of_length_le (by simp [be_length])

theorem unframe_cut (p : List UInt8) (hp : p.length ≤ 65536) (k : Nat) (hk : k < p.length + 7) : unframe ((frameOf p).take k) = ([], 0, 2) := by
  have hl := frameOf_length p
  have hlen : ((frameOf p).take k).length = k := by simp; omega
  unfold unframe
  rw [hlen]
  by_cases h3 : k < 3
  · rw [if_pos h3]
  · rw [if_neg h3, frame_head p hp k (by omega), ofBe_be 3 _ (by simp; omega), if_neg (by omega), if_pos (by omega)]

/-- A frame with one byte of its payload or its sum turned. -/
theorem unframe_turn (p : List UInt8) (hp : p.length ≤ 65536) (j : Nat) (hj : j < p.length + 4) (c : UInt8) (hc : c ≠ (frameOf p).getD (3 + j) 0) : (unframe ((frameOf p).set (3 + j) c)).2.2 = 11 := by
  have hl := frameOf_length p
  have hlen : ((frameOf p).set (3 + j) c).length = p.length + 7 := by simp; omega
  have ht3 : ((frameOf p).set (3 + j) c).take 3 = be 3 p.length := by
    rw [List.take_set_of_le (by omega)]
    have := frame_head p hp 3 (by omega)
    rw [List.take_take] at this
    exact this
  unfold unframe
  rw [hlen, if_neg (by omega), ht3, ofBe_be 3 _ (by simp; omega), if_neg (by omega), if_neg (by omega)]
  have hA : (be 3 p.length ++ p).length = p.length + 3 := by simp [be_length]; omega
  have hf : frameOf p = (be 3 p.length ++ p) ++ be 4 (crc (be 3 p.length ++ p)) := rfl
  generalize hA' : be 3 p.length ++ p = A at *
  by_cases hpay : j < p.length
  · -- a byte of the payload
    have e1 : (frameOf p).set (3 + j) c = A.set (3 + j) c ++ be 4 (crc A) := by
      rw [hf, List.set_append_left _ _ (by omega)]
    have e2 : ((frameOf p).set (3 + j) c).take (p.length + 3) = A.set (3 + j) c := by
      rw [e1, List.take_append_of_le_length (by simp; omega)]
      exact List.take_of_length_le (by simp; omega)
    have e3 : (((frameOf p).set (3 + j) c).drop (p.length + 3)).take 4 = be 4 (crc A) := by
      rw [e1, List.drop_append_of_le_length (by simp; omega), List.drop_of_length_le (by simp; omega), List.nil_append]
      exact List.take_of_length_le (by simp [be_length])
    rw [e2, e3, if_neg]
    intro h
    have h := be4_inj _ _ (crc_lt _) (crc_lt _) h
    have hi : 3 + j < A.length := by omega
    have s1 : A = A.take (3 + j) ++ A[3 + j] :: A.drop (3 + j + 1) := by
      rw [List.getElem_cons_drop, List.take_append_drop]
    have s2 : A.set (3 + j) c = A.take (3 + j) ++ c :: A.drop (3 + j + 1) := List.set_eq_take_append_cons_drop.trans (by rw [if_pos hi])
    rw [s2] at h
    conv at h => lhs; rw [s1]
    have := crc_turn _ _ _ _ h
    apply hc
    rw [hf, ← this, List.getD_eq_getElem?_getD, List.getElem?_append_left hi, List.getElem?_eq_getElem hi]
    rfl
  · -- a byte of the sum
    have hB : (be 4 (crc A)).length = 4 := be_length _ _
    have e1 : (frameOf p).set (3 + j) c = A ++ (be 4 (crc A)).set (3 + j - A.length) c := by
      rw [hf, List.set_append_right _ _ (by omega)]
    have e2 : ((frameOf p).set (3 + j) c).take (p.length + 3) = A := by
      rw [e1, List.take_append_of_le_length (by omega)]
      exact List.take_of_length_le (by omega)
    have e3 : (((frameOf p).set (3 + j) c).drop (p.length + 3)).take 4 = (be 4 (crc A)).set (3 + j - A.length) c := by
      rw [e1, List.drop_append_of_le_length (by omega), List.drop_of_length_le (by omega), List.nil_append]
      exact List.take_of_length_le (by simp [be_length])
    rw [e2, e3, if_neg]
    intro h
    apply hc
    have hi : 3 + j - A.length < (be 4 (crc A)).length := by omega
    have q : ((be 4 (crc A)).set (3 + j - A.length) c)[3 + j - A.length]'(by simp; omega) = c := List.getElem_set_self _
    have q2 : (be 4 (crc A))[3 + j - A.length] = c := by
      have := List.getElem_of_eq h (by simp; omega : 3 + j - A.length < ((be 4 (crc A)).set (3 + j - A.length) c).length)
      rw [q] at this
      exact this.symm
    rw [← q2, hf]
    simp [List.getD, List.getElem?_append_right (show A.length ≤ 3 + j by omega), hi]

#print axioms unframe_turn
end Go.Proofs.Ythpalohjjkmhdaa
