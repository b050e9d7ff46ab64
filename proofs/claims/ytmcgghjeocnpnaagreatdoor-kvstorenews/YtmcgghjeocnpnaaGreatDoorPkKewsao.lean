/-
  PLAIN MATHEMATICS, no program: the sum CRC-32C bit by bit over natural numbers, and the two ways in which Go's operators spell it.; PLAIN MATHEMATICS, no program: the number that bytes say, a frame, and what Unframe answers.; PLAIN MATHEMATICS, no program: the number with which bytes begin; it is read as it was put, and put as it was read.; PLAIN MATHEMATICS, no program: torn frames are found out: a beginning is too short, one byte turned has another sum.; THE FRAMES AT THE BEGINNING OF BYTES, as a model.
-/
import Derived.WalkKit
import Derived.Laws.BitsAllLaws
import Derived.Test.YtmcgghjeocnpnaaGreatDoorPkKewsan
section
set_option linter.unusedVariables false
namespace Go.Proofs.YtmcgghjeocnpnaaGreatDoor

def bit1 (c : Nat) : Nat := if c % 2 = 1 then (c / 2) ^^^ 2197175160 else c / 2
def rep : Nat → Nat → Nat
  | 0, c => c
  | k + 1, c => bit1 (rep k c)
def byte1 (c : Nat) (x : UInt8) : Nat := rep 8 (c ^^^ x.toNat)
def crcS (l : List UInt8) : Nat := l.foldl byte1 4294967295
def crc (l : List UInt8) : Nat := crcS l ^^^ 4294967295

theorem bit1_lt {c : Nat} (h : c < 4294967296) : bit1 c < 4294967296 := by
  unfold bit1
  split
  · exact Nat.xor_lt_two_pow (n := 32) (by omega) (by decide)
  · omega
theorem rep_lt {c : Nat} (h : c < 4294967296) : ∀ k, rep k c < 4294967296
  | 0 => h
  | k + 1 => bit1_lt (rep_lt h k)
theorem xor8_lt {c : Nat} (h : c < 4294967296) (x : UInt8) : c ^^^ x.toNat < 4294967296 :=
  Nat.xor_lt_two_pow (n := 32) h (by have := x.toNat_lt; omega)
theorem byte1_lt {c : Nat} (h : c < 4294967296) (x : UInt8) : byte1 c x < 4294967296 := rep_lt (xor8_lt h x) 8
theorem crcS_lt (l : List UInt8) : crcS l < 4294967296 := by
  unfold crcS
  suffices ∀ (l : List UInt8) c, c < 4294967296 → l.foldl byte1 c < 4294967296 from this l _ (by decide)
  intro l
  induction l with
  | nil => intro c h; exact h
  | cons x r ih => intro c h; exact ih _ (byte1_lt h x)
theorem crc_lt (l : List UInt8) : crc l < 4294967296 := Nat.xor_lt_two_pow (n := 32) (crcS_lt l) (by decide)
theorem crcS_snoc (l : List UInt8) (x : UInt8) : crcS (l ++ [x]) = byte1 (crcS l) x := by simp [crcS]
theorem crcS_take (l : List UInt8) (k : Nat) (h : k < l.length) : crcS (l.take (k + 1)) = byte1 (crcS (l.take k)) (l.getD k 0) := by
  rw [List.take_succ_eq_append_getElem h, crcS_snoc]
  simp [h]

theorem i64_xor_nat (a b : Nat) (ha : a < 4294967296) (hb : b < 4294967296) : bits .xor .i64 (a : Int) (b : Int) = ((a ^^^ b : Nat) : Int) := by
  have hx : a ^^^ b < 2 ^ 32 := Nat.xor_lt_two_pow (n := 32) (by omega) (by omega)
  have hw : ∀ n : Nat, n < 4294967296 → IntKind.i64.wrap (n : Int) = n := by
    intro n hn
    rw [IntKind.wrap_i64]
    omega
  show IntKind.i64.wrap ((BitVec.ofInt 64 (a : Int) ^^^ BitVec.ofInt 64 (b : Int)).toNat : Int) = _
  have e : ∀ n : Nat, n < 4294967296 → (BitVec.ofInt 64 (n : Int)).toNat = n := by
    intro n hn
    rw [BitVec.ofInt_natCast, BitVec.toNat_ofNat]; exact Nat.mod_eq_of_lt (by omega)
  rw [BitVec.toNat_xor, e a ha, e b hb]
  exact hw _ (by omega)

#print axioms crcS_take
end Go.Proofs.YtmcgghjeocnpnaaGreatDoor
end
section
set_option linter.unusedVariables false
namespace Go.Proofs.YtmcgghjeocnpnaaGreatDoor

/-- The number that bytes say, the highest first. -/
def ofBe (l : List UInt8) : Nat := l.foldl (fun n c => n * 256 + c.toNat) 0

theorem ofBe_snoc (l : List UInt8) (c : UInt8) : ofBe (l ++ [c]) = ofBe l * 256 + c.toNat := by simp [ofBe]
theorem ofBe_take (l : List UInt8) (k : Nat) (h : k < l.length) : ofBe (l.take (k + 1)) = ofBe (l.take k) * 256 + (l.getD k 0).toNat := by
  rw [List.take_succ_eq_append_getElem h, ofBe_snoc]
  simp [h]
theorem ofBe_lt (l : List UInt8) : ofBe l < 256 ^ l.length := by
  suffices ∀ (r : List UInt8) n p, n < p → r.foldl (fun n c => n * 256 + c.toNat) n < p * 256 ^ r.length by
    have := this l 0 1 (by omega)
    simpa [ofBe] using this
  intro r
  induction r with
  | nil => intro n p h; simpa using h
  | cons c r ih =>
    intro n p h
    have hc : c.toNat < 256 := c.toNat_lt
    have := ih (n * 256 + c.toNat) (p * 256) (by omega)
    rw [List.foldl_cons, List.length_cons, Nat.pow_succ', ← Nat.mul_assoc]
    exact this

/-- A payload's frame. -/
def frameOf (p : List UInt8) : List UInt8 := be 3 p.length ++ p ++ be 4 (crc (be 3 p.length ++ p))

theorem frameOf_length (p : List UInt8) : (frameOf p).length = p.length + 7 := by
  simp [frameOf, be_length]
  omega

/-- What Unframe answers: the payload, how many bytes, the error's number. -/
def unframe (b : List UInt8) : List UInt8 × Nat × Nat :=
  if b.length < 3 then ([], 0, 2)
  else if 65536 < ofBe (b.take 3) then ([], 0, 4)
  else if b.length < ofBe (b.take 3) + 7 then ([], 0, 2)
  else if (b.drop (ofBe (b.take 3) + 3)).take 4 = be 4 (crc (b.take (ofBe (b.take 3) + 3))) then ((b.drop 3).take (ofBe (b.take 3)), ofBe (b.take 3) + 7, 0)
  else ([], 0, 11)

theorem ofBe_be : ∀ k n, n < 256 ^ k → ofBe (be k n) = n
  | 0, n, h => by simp at h; subst h; rfl
  | k + 1, n, h => by
    rw [be, ofBe_snoc, ofBe_be k (n / 256) (by rw [Nat.pow_succ] at h; omega)]
    have : (UInt8.ofNat n).toNat = n % 256 := by simp
    rw [this]
    omega

theorem be_ofBe (l : List UInt8) : be l.length (ofBe l) = l := by
  suffices ∀ n (l : List UInt8), l.length = n → be n (ofBe l) = l from this _ l rfl
  intro n
  induction n with
  | zero => intro l h; rw [List.eq_nil_of_length_eq_zero h]; rfl
  | succ n ih =>
    intro l h
    have hne : l ≠ [] := by intro e; subst e; simp at h
    obtain ⟨r, c, rfl⟩ : ∃ r c, l = r ++ [c] := ⟨l.dropLast, l.getLast hne, (List.dropLast_concat_getLast hne).symm⟩
    have hr : r.length = n := by simp at h; exact h
    have hc : c.toNat < 256 := c.toNat_lt
    rw [ofBe_snoc, be, show (ofBe r * 256 + c.toNat) / 256 = ofBe r by omega, ih r hr]
    congr 2
    apply UInt8.toNat.inj
    simp

#print axioms ofBe_lt
#print axioms be_ofBe
end Go.Proofs.YtmcgghjeocnpnaaGreatDoor
end
section
set_option linter.unusedVariables false
namespace Go.Proofs.YtmcgghjeocnpnaaGreatDoor

/-- How many bytes stand behind the first one in a number's form. -/
def bb (n : Nat) : Nat := if n ≤ 247 then 0 else nb n

/-- The number, how many bytes its form has, the error's number. -/
def rd (l : List UInt8) : Nat × Nat × Nat :=
  match l with
  | [] => (0, 0, 2)
  | c :: t =>
    if c.toNat ≤ 247 then (c.toNat, 1, 0)
    else if t.length < c.toNat - 247 then (0, 0, 2)
    else if bb (ofBe (t.take (c.toNat - 247))) < c.toNat - 247 then (0, 0, 10)
    else if 9223372036854775807 < ofBe (t.take (c.toNat - 247)) then (0, 0, 5)
    else (ofBe (t.take (c.toNat - 247)), c.toNat - 247 + 1, 0)

theorem rd_form (n : Nat) (hn : n ≤ 9223372036854775807) (r : List UInt8) : rd (form n ++ r) = (n, (form n).length, 0) := by
  have hnb := nb_pos n
  by_cases h : n ≤ 247
  · have e : (UInt8.ofNat n).toNat = n := by simp; omega
    rw [form, if_pos h]
    simp only [rd, List.cons_append, List.nil_append, e, if_pos h]
    rfl
  · have e : (UInt8.ofNat (247 + nb n)).toNat = 247 + nb n := by simp; omega
    have e2 : 247 + nb n - 247 = nb n := by omega
    have hl := be_length (nb n) n
    have e3 : (be (nb n) n ++ r).take (nb n) = be (nb n) n := by
      rw [List.take_append_of_le_length (by omega)]
      exact List.take_of_length_le (by omega)
    have e4 : ofBe (be (nb n) n) = n := ofBe_be _ _ (nb_hi n (by omega))
    have e5 : bb n = nb n := by rw [bb, if_neg h]
    rw [form, if_neg h, List.cons_append]
    simp only [rd, e, e2, e3, e4, e5]
    rw [if_neg (by omega), if_neg (by simp; omega), if_neg (by omega), if_neg (by omega)]
    simp [hl]

theorem rd_le (l : List UInt8) : (rd l).2.1 ≤ l.length ∧ (rd l).1 ≤ 9223372036854775807 ∧ ((rd l).2.2 = 0 → 1 ≤ (rd l).2.1) := by
  match l with
  | [] => simp [rd]
  | c :: t =>
    have hc : c.toNat < 256 := c.toNat_lt
    unfold rd
    simp only
    split
    · simp; omega
    · split
      · simp
      · split
        · simp
        · split
          · simp
          · simp; omega

theorem form_rd (l : List UInt8) (h : (rd l).2.2 = 0) : form (rd l).1 = l.take (rd l).2.1 := by
  match l with
  | [] => simp [rd] at h
  | c :: t =>
    have hc : c.toNat < 256 := c.toNat_lt
    unfold rd at h ⊢
    simp only at h ⊢
    split at h
    · rename_i h1
      rw [if_pos h1]
      simp only [form, if_pos h1, List.take_succ_cons, List.take_zero]
      congr 1
      apply UInt8.toNat.inj
      simp
    · rename_i h1
      rw [if_neg h1]
      split at h
      · simp at h
      · rename_i h2
        rw [if_neg h2]
        split at h
        · simp at h
        · rename_i h3
          rw [if_neg h3]
          split at h
          · simp at h
          · rename_i h4
            rw [if_neg h4]
            simp only
            have hlen : (t.take (c.toNat - 247)).length = c.toNat - 247 := by simp; omega
            have hlt := ofBe_lt (t.take (c.toNat - 247))
            have hbo := be_ofBe (t.take (c.toNat - 247))
            rw [hlen] at hlt hbo
            generalize ofBe (t.take (c.toNat - 247)) = n at *
            have hn : ¬ n ≤ 247 := by
              intro q
              rw [bb, if_pos q] at h3
              omega
            rw [bb, if_neg hn] at h3
            have hnb : nb n = c.toNat - 247 := by
              have lo := nb_lo n (by omega)
              have : nb n ≤ c.toNat - 247 := by
                rcases Nat.lt_or_ge (c.toNat - 247) (nb n) with q | q
                · have := Nat.pow_le_pow_right (n := 256) (by decide) (show c.toNat - 247 ≤ nb n - 1 by omega)
                  omega
                · exact q
              omega
            rw [form, if_neg hn, hnb, hbo, List.take_succ_cons]
            have e6 : 247 + (c.toNat - 247) = c.toNat := by omega
            have e7 : UInt8.ofNat c.toNat = c := by simp
            rw [e6, e7]

#print axioms rd_form
#print axioms form_rd
end Go.Proofs.YtmcgghjeocnpnaaGreatDoor
end
section
set_option linter.unusedVariables false
namespace Go.Proofs.YtmcgghjeocnpnaaGreatDoor

theorem xor_cancel_r {a b c : Nat} (h : a ^^^ c = b ^^^ c) : a = b := by
  have := congrArg (fun x => x ^^^ c) h
  simp only [Nat.xor_assoc, Nat.xor_self, Nat.xor_zero] at this
  exact this
theorem xor_cancel_l {a b c : Nat} (h : c ^^^ a = c ^^^ b) : a = b := by
  rw [Nat.xor_comm c a, Nat.xor_comm c b] at h
  exact xor_cancel_r h

theorem top_bit (c : Nat) (h : c < 4294967296) : (bit1 c).testBit 31 = decide (c % 2 = 1) := by
  have h2 : c / 2 < 2 ^ 31 := by omega
  unfold bit1
  split
  · rename_i h1
    rw [Nat.testBit_xor, Nat.testBit_lt_two_pow h2]
    simp [h1]
    decide
  · rename_i h1
    rw [Nat.testBit_lt_two_pow h2]
    simp [h1]

theorem bit1_inj (c d : Nat) (hc : c < 4294967296) (hd : d < 4294967296) (h : bit1 c = bit1 d) : c = d := by
  have t1 := top_bit c hc
  have t2 := top_bit d hd
  rw [h, t2] at t1
  have hp : c % 2 = 1 ↔ d % 2 = 1 := by
    constructor
    · intro q
      rw [decide_eq_true q] at t1
      exact of_decide_eq_true t1
    · intro q
      rw [decide_eq_true q] at t1
      exact of_decide_eq_true t1.symm
  unfold bit1 at h
  by_cases h1 : c % 2 = 1
  · have h2 := hp.1 h1
    rw [if_pos h1, if_pos h2] at h
    have := xor_cancel_r h
    omega
  · have h2 : ¬ d % 2 = 1 := fun q => h1 (hp.2 q)
    rw [if_neg h1, if_neg h2] at h
    omega

theorem rep_inj (k c d : Nat) (hc : c < 4294967296) (hd : d < 4294967296) (h : rep k c = rep k d) : c = d := by
  induction k with
  | zero => exact h
  | succ k ih => exact ih (bit1_inj _ _ (rep_lt hc k) (rep_lt hd k) h)

theorem byte1_inj (c d : Nat) (x y : UInt8) (hc : c < 4294967296) (hd : d < 4294967296) (h : byte1 c x = byte1 d y) : c ^^^ x.toNat = d ^^^ y.toNat :=
  rep_inj 8 _ _ (xor8_lt hc x) (xor8_lt hd y) h

theorem fold_inj (l : List UInt8) : ∀ c d : Nat, c < 4294967296 → d < 4294967296 → l.foldl byte1 c = l.foldl byte1 d → c = d := by
  induction l with
  | nil => intro c d _ _ h; exact h
  | cons x r ih =>
    intro c d hc hd h
    have := ih _ _ (byte1_lt hc x) (byte1_lt hd x) h
    exact xor_cancel_r (byte1_inj c d x x hc hd this)

theorem crc_turn (a b : List UInt8) (x y : UInt8) (h : crc (a ++ x :: b) = crc (a ++ y :: b)) : x = y := by
  unfold crc at h
  have h := xor_cancel_r h
  unfold crcS at h
  rw [List.foldl_append, List.foldl_append, List.foldl_cons, List.foldl_cons] at h
  have hA : a.foldl byte1 4294967295 < 4294967296 := crcS_lt a
  have h := fold_inj b _ _ (byte1_lt hA x) (byte1_lt hA y) h
  have h := byte1_inj _ _ x y hA hA h
  exact UInt8.toNat.inj (xor_cancel_l h)

theorem be4_inj (c d : Nat) (hc : c < 4294967296) (hd : d < 4294967296) (h : be 4 c = be 4 d) : c = d := by
  have h1 := ofBe_be 4 c (by simpa using hc)
  have h2 := ofBe_be 4 d (by simpa using hd)
  rw [h, h2] at h1
  exact h1.symm

theorem frame_head (p : List UInt8) (hp : p.length ≤ 65536) (k : Nat) (hk : 3 ≤ k) : ((frameOf p).take k).take 3 = be 3 p.length := by
  rw [List.take_take, Nat.min_eq_left hk]
  unfold frameOf
  rw [List.append_assoc, List.take_append_of_le_length (by simp [be_length])]
  exact List.take_of_length_le (by simp [be_length])

theorem unframe_cut (p : List UInt8) (hp : p.length ≤ 65536) (k : Nat) (hk : k < p.length + 7) : unframe ((frameOf p).take k) = ([], 0, 2) := by
  have hl := frameOf_length p
  have hlen : ((frameOf p).take k).length = k := by simp; omega
  unfold unframe
  rw [hlen]
  by_cases h3 : k < 3
  · rw [if_pos h3]
  · rw [if_neg h3, frame_head p hp k (by omega), ofBe_be 3 _ (by simp; omega), if_neg (by omega), if_pos (by omega)]

/-- A frame with one byte of its payload or its sum turned. -/
theorem unframe_turn (p : List UInt8) (hp : p.length ≤ 65536) (j : Nat) (hj : j < p.length + 4) (c : UInt8) (hc : c ≠ (frameOf p).getD (3 + j) 0) : (unframe ((frameOf p).set (3 + j) c)).2.2 = 11 := by
  have hl := frameOf_length p
  have hlen : ((frameOf p).set (3 + j) c).length = p.length + 7 := by simp; omega
  have ht3 : ((frameOf p).set (3 + j) c).take 3 = be 3 p.length := by
    rw [List.take_set_of_le (by omega)]
    have := frame_head p hp 3 (by omega)
    rw [List.take_take] at this
    exact this
  unfold unframe
  rw [hlen, if_neg (by omega), ht3, ofBe_be 3 _ (by simp; omega), if_neg (by omega), if_neg (by omega)]
  have hA : (be 3 p.length ++ p).length = p.length + 3 := by simp [be_length]; omega
  have hf : frameOf p = (be 3 p.length ++ p) ++ be 4 (crc (be 3 p.length ++ p)) := rfl
  generalize hA' : be 3 p.length ++ p = A at *
  by_cases hpay : j < p.length
  · -- a byte of the payload
    have e1 : (frameOf p).set (3 + j) c = A.set (3 + j) c ++ be 4 (crc A) := by
      rw [hf, List.set_append_left _ _ (by omega)]
    have e2 : ((frameOf p).set (3 + j) c).take (p.length + 3) = A.set (3 + j) c := by
      rw [e1, List.take_append_of_le_length (by simp; omega)]
      exact List.take_of_length_le (by simp; omega)
    have e3 : (((frameOf p).set (3 + j) c).drop (p.length + 3)).take 4 = be 4 (crc A) := by
      rw [e1, List.drop_append_of_le_length (by simp; omega), List.drop_of_length_le (by simp; omega), List.nil_append]
      exact List.take_of_length_le (by simp [be_length])
    rw [e2, e3, if_neg]
    intro h
    have h := be4_inj _ _ (crc_lt _) (crc_lt _) h
    have hi : 3 + j < A.length := by omega
    have s1 : A = A.take (3 + j) ++ A[3 + j] :: A.drop (3 + j + 1) := by
      rw [List.getElem_cons_drop, List.take_append_drop]
    have s2 : A.set (3 + j) c = A.take (3 + j) ++ c :: A.drop (3 + j + 1) := List.set_eq_take_append_cons_drop.trans (by rw [if_pos hi])
    rw [s2] at h
    conv at h => lhs; rw [s1]
    have := crc_turn _ _ _ _ h
    apply hc
    rw [hf, ← this, List.getD_eq_getElem?_getD, List.getElem?_append_left hi, List.getElem?_eq_getElem hi]
    rfl
  · -- a byte of the sum
    have hB : (be 4 (crc A)).length = 4 := be_length _ _
    have e1 : (frameOf p).set (3 + j) c = A ++ (be 4 (crc A)).set (3 + j - A.length) c := by
      rw [hf, List.set_append_right _ _ (by omega)]
    have e2 : ((frameOf p).set (3 + j) c).take (p.length + 3) = A := by
      rw [e1, List.take_append_of_le_length (by omega)]
      exact List.take_of_length_le (by omega)
    have e3 : (((frameOf p).set (3 + j) c).drop (p.length + 3)).take 4 = (be 4 (crc A)).set (3 + j - A.length) c := by
      rw [e1, List.drop_append_of_le_length (by omega), List.drop_of_length_le (by omega), List.nil_append]
      exact List.take_of_length_le (by simp [be_length])
    rw [e2, e3, if_neg]
    intro h
    apply hc
    have hi : 3 + j - A.length < (be 4 (crc A)).length := by omega
    have q : ((be 4 (crc A)).set (3 + j - A.length) c)[3 + j - A.length]'(by simp; omega) = c := List.getElem_set_self _
    have q2 : (be 4 (crc A))[3 + j - A.length] = c := by
      have := List.getElem_of_eq h (by simp; omega : 3 + j - A.length < ((be 4 (crc A)).set (3 + j - A.length) c).length)
      rw [q] at this
      exact this.symm
    rw [← q2, hf]
    simp [List.getD, List.getElem?_append_right (show A.length ≤ 3 + j by omega), hi]

#print axioms unframe_turn
end Go.Proofs.YtmcgghjeocnpnaaGreatDoor
end
section
set_option linter.unusedVariables false
namespace Go.Proofs.YtmcgghjeocnpnaaGreatDoor

theorem unframe_size (l : List UInt8) (h : (unframe l).2.2 = 0) : 7 ≤ (unframe l).2.1 ∧ (unframe l).2.1 ≤ l.length := by
  unfold unframe at h ⊢
  split at h
  · simp at h
  · split at h
    · simp at h
    · split at h
      · simp at h
      · split at h
        · rename_i h1 h2 h3 h4
          rw [if_neg h1, if_neg h2, if_neg h3, if_pos h4]
          simp
          omega
        · simp at h
theorem unframe_lead (p r : List UInt8) (hp : p.length ≤ 65536) : unframe (frameOf p ++ r) = (p, p.length + 7, 0) := by
  have hl := frameOf_length p
  have hA : (be 3 p.length ++ p).length = p.length + 3 := by simp [be_length]; omega
  have hB : (be 4 (crc (be 3 p.length ++ p))).length = 4 := be_length _ _
  have e : frameOf p ++ r = (be 3 p.length ++ p) ++ (be 4 (crc (be 3 p.length ++ p)) ++ r) := by unfold frameOf; simp
  have t3 : (frameOf p ++ r).take 3 = be 3 p.length := by
    rw [e, List.append_assoc, List.take_append_of_le_length (by simp [be_length])]
    exact List.take_of_length_le (by simp [be_length])
  have ta : (frameOf p ++ r).take (p.length + 3) = be 3 p.length ++ p := by
    rw [e, List.take_append_of_le_length (by omega)]
    exact List.take_of_length_le (by omega)
  have td : ((frameOf p ++ r).drop (p.length + 3)).take 4 = be 4 (crc (be 3 p.length ++ p)) := by
    rw [e, List.drop_append_of_le_length (by omega), List.drop_of_length_le (by omega), List.nil_append, List.take_append_of_le_length (by omega)]
    exact List.take_of_length_le (by omega)
  have tp : ((frameOf p ++ r).drop 3).take p.length = p := by
    rw [e, List.append_assoc, List.drop_append_of_le_length (by simp [be_length]), List.drop_of_length_le (by simp [be_length]), List.nil_append, List.take_append_of_le_length (by omega)]
    exact List.take_of_length_le (by omega)
  unfold unframe
  rw [t3, ofBe_be 3 _ (by simp; omega), if_neg (by simp; omega), if_neg (by omega), if_neg (by simp; omega), ta, td, if_pos rfl, tp]

def frs (l : List UInt8) : List (List UInt8) × Nat :=
  if h : (unframe l).2.2 = 0 then ((unframe l).1 :: (frs (l.drop (unframe l).2.1)).1, (unframe l).2.1 + (frs (l.drop (unframe l).2.1)).2) else ([], 0)
termination_by l.length
decreasing_by
  all_goals
    have := unframe_size l h
    simp
    omega
theorem frs_end (l : List UInt8) (h : (unframe l).2.2 ≠ 0) : frs l = ([], 0) := by rw [frs, dif_neg h]
theorem frs_go (l p : List UInt8) (n : Nat) (h : unframe l = (p, n, 0)) : frs l = (p :: (frs (l.drop n)).1, n + (frs (l.drop n)).2) := by
  rw [frs, dif_pos (by rw [h]), h]
theorem frs_len : ∀ (n : Nat) (l : List UInt8), l.length ≤ n → (frs l).1.length ≤ l.length
  | 0, l, h => by
    have : l = [] := List.eq_nil_of_length_eq_zero (by omega)
    subst this
    rw [frs_end [] (by decide)]; simp
  | n + 1, l, h => by
    by_cases hu : (unframe l).2.2 = 0
    · have hs := unframe_size l hu
      have := frs_len n (l.drop (unframe l).2.1) (by simp; omega)
      rw [frs, dif_pos hu]
      simp only [List.length_cons]
      simp only [List.length_drop] at this
      omega
    · rw [frs_end l hu]; simp
theorem unframe_pay (l : List UInt8) : (unframe l).1.length ≤ l.length := by
  unfold unframe
  split
  · simp
  · split
    · simp
    · split
      · simp
      · split
        · simp; omega
        · simp
theorem frs_mem : ∀ (n : Nat) (l : List UInt8), l.length ≤ n → ∀ p ∈ (frs l).1, p.length ≤ l.length
  | 0, l, h, p, hp => by
    have : l = [] := List.eq_nil_of_length_eq_zero (by omega)
    subst this
    rw [frs_end [] (by decide)] at hp; simp at hp
  | n + 1, l, h, p, hp => by
    by_cases hu : (unframe l).2.2 = 0
    · have hs := unframe_size l hu
      rw [frs, dif_pos hu] at hp
      simp only [List.mem_cons] at hp
      rcases hp with rfl | hp
      · exact unframe_pay l
      · have := frs_mem n (l.drop (unframe l).2.1) (by simp; omega) p hp
        simp only [List.length_drop] at this
        omega
    · rw [frs_end l hu] at hp; simp at hp
theorem frs_nil : frs [] = ([], 0) := frs_end [] (by decide)
theorem frs_lead (p r : List UInt8) (hp : p.length ≤ 65536) : frs (frameOf p ++ r) = (p :: (frs r).1, p.length + 7 + (frs r).2) := by
  rw [frs_go _ p _ (unframe_lead p r hp)]
  have : (frameOf p ++ r).drop (p.length + 7) = r := by
    rw [List.drop_append_of_le_length (by rw [frameOf_length]; omega), List.drop_eq_nil_of_le (by rw [frameOf_length]; omega)]
    simp
  rw [this]
theorem frs_cut (p : List UInt8) (hp : p.length ≤ 65536) (k : Nat) (hk : k < p.length + 7) : frs ((frameOf p).take k) = ([], 0) :=
  frs_end _ (by rw [unframe_cut p hp k hk]; decide)
end Go.Proofs.YtmcgghjeocnpnaaGreatDoor
end
