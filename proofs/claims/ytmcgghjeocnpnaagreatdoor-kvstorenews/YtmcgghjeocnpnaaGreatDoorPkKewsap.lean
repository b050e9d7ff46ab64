/-
  seglog as mathematics: a segment's name, the number of a name; segments; what is read of a segment's bytes.
-/
import Derived.Test.YtmcgghjeocnpnaaGreatDoorPkKewsam
import Derived.Test.YtmcgghjeocnpnaaGreatDoorPkKewsao
import Derived.Lib.AtoiAll
import Derived.Lib.ItoaMem
import Derived.Lib.ItoaNum
import Derived.Shelf.Strings.Prefix
section
set_option linter.unusedVariables false
namespace Go.Proofs.YtmcgghjeocnpnaaGreatDoor
open Go.RowKit

/-! ### numbers in digits -/
def dval (acc : Nat) (l : List UInt8) : Nat := l.foldl (fun a c => a * 10 + (c.toNat - 48)) acc
theorem dval_ge : ∀ (l : List UInt8) (acc : Nat), acc ≤ dval acc l
  | [], acc => Nat.le_refl _
  | c :: r, acc => by
    have := dval_ge r (acc * 10 + (c.toNat - 48))
    show acc ≤ dval (acc * 10 + (c.toNat - 48)) r
    omega
theorem parse_dval : ∀ (l : List UInt8) (acc : Nat), (∀ c ∈ l, 48 ≤ c.toNat ∧ c.toNat ≤ 57) → dval acc l < 18446744073709551616 → Lib.parseUint10 acc l = .ok (dval acc l)
  | [], acc, _, _ => rfl
  | c :: r, acc, hd, hv => by
    have h1 := hd c (by simp)
    have hv' : dval (acc * 10 + (c.toNat - 48)) r < 18446744073709551616 := hv
    have h2 := dval_ge r (acc * 10 + (c.toNat - 48))
    unfold Lib.parseUint10
    rw [if_pos h1, if_neg (by omega), if_neg (by omega)]
    exact parse_dval r _ (fun x hx => hd x (by simp [hx])) hv'
theorem dval_append (acc : Nat) (a b : List UInt8) : dval acc (a ++ b) = dval (dval acc a) b := by simp [dval]
theorem dval_noughts (k : Nat) (l : List UInt8) : dval 0 (List.replicate k 48 ++ l) = dval 0 l := by
  rw [dval_append]
  have : dval 0 (List.replicate k 48) = 0 := by
    induction k with
    | zero => rfl
    | succ k ih => rw [List.replicate_succ]; exact ih
  rw [this]
theorem dec_step (n : Nat) : (n < 10 ∧ Lib.decDigits n = [UInt8.ofNat (48 + n)]) ∨ (¬ n < 10 ∧ Lib.decDigits n = Lib.decDigits (n / 10) ++ [UInt8.ofNat (48 + n % 10)]) := by
  by_cases h : n < 10
  · exact .inl ⟨h, Lib.decDigits_one h⟩
  · right
    refine ⟨h, ?_⟩
    rw [Lib.decDigits, dif_neg h]
theorem dig_nat (d : Nat) (h : d < 10) : (UInt8.ofNat (48 + d)).toNat = 48 + d := by rw [UInt8.toNat_ofNat']; omega
theorem dec_facts : ∀ (k n : Nat), n < 10 ^ k → (∀ c ∈ Lib.decDigits n, 48 ≤ c.toNat ∧ c.toNat ≤ 57) ∧ dval 0 (Lib.decDigits n) = n ∧ 1 ≤ (Lib.decDigits n).length ∧ (Lib.decDigits n).length ≤ max 1 k
  | 0, n, h => by
    have : n = 0 := by simpa using h
    subst this
    rw [Lib.decDigits_one (by omega)]
    refine ⟨fun c hc => ?_, rfl, by simp, by simp⟩
    simp at hc
    subst hc
    decide
  | k + 1, n, h => by
    rcases dec_step n with ⟨h1, h2⟩ | ⟨h1, h2⟩
    · rw [h2]
      refine ⟨fun c hc => ?_, ?_, by simp, by simp⟩
      · simp only [List.mem_singleton] at hc
        subst hc
        rw [dig_nat n h1]; omega
      · show 0 * 10 + ((UInt8.ofNat (48 + n)).toNat - 48) = n
        rw [dig_nat n h1]; omega
    · obtain ⟨i1, i2, i3, i4⟩ := dec_facts k (n / 10) (by rw [Nat.pow_succ] at h; omega)
      have hm : n % 10 < 10 := by omega
      rw [h2]
      refine ⟨fun c hc => ?_, ?_, by simp, ?_⟩
      · rcases List.mem_append.1 hc with hc | hc
        · exact i1 c hc
        · simp only [List.mem_singleton] at hc
          subst hc
          rw [dig_nat _ hm]; omega
      · rw [dval_append, i2]
        show n / 10 * 10 + ((UInt8.ofNat (48 + n % 10)).toNat - 48) = n
        rw [dig_nat _ hm]; omega
      · have hk : 1 ≤ k := by
          apply Classical.byContradiction
          intro hk
          have : k = 0 := by omega
          subst this
          simp at h
          omega
        simp
        omega
/-! ### names -/
def segP : Nm := [115, 101, 103, 46]
def padS (n : Nat) : Nm := List.replicate (19 - (Lib.decDigits n).length) 48 ++ Lib.decDigits n
def nmS (n : Nat) : Nm := segP ++ padS n
theorem pad_facts (n : Nat) (h : n ≤ 9223372036854775807) : (∀ c ∈ padS n, 48 ≤ c.toNat ∧ c.toNat ≤ 57) ∧ dval 0 (padS n) = n ∧ (padS n).length = 19 := by
  obtain ⟨i1, i2, i3, i4⟩ := dec_facts 19 n (by omega)
  refine ⟨fun c hc => ?_, ?_, ?_⟩
  · rcases List.mem_append.1 hc with hc | hc
    · rw [(List.mem_replicate.1 hc).2]; decide
    · exact i1 c hc
  · unfold padS; rw [dval_noughts, i2]
  · unfold padS
    simp only [List.length_append, List.length_replicate]
    omega
theorem nmS_len (n : Nat) (h : n ≤ 9223372036854775807) : (nmS n).length = 23 := by
  have := (pad_facts n h).2.2
  simp [nmS, segP, this]
theorem nmS_inj {n m : Nat} (hn : n ≤ 9223372036854775807) (hm : m ≤ 9223372036854775807) (h : nmS n = nmS m) : n = m := by
  have h2 : padS n = padS m := List.append_cancel_left h
  have := congrArg (dval 0) h2
  rw [(pad_facts n hn).2.1, (pad_facts m hm).2.1] at this
  exact this
theorem nmS_name (n : Nat) (h : n ≤ 9223372036854775807) : isName (nmS n) = true := by
  unfold isName
  rw [nmS_len n h]
  have : (nmS n).all nameByte = true := by
    rw [List.all_eq_true]
    intro c hc
    rcases List.mem_append.1 hc with hc | hc
    · have : ∀ c ∈ segP, nameByte c = true := by decide
      exact this c hc
    · have := (pad_facts n h).1 c hc
      unfold nameByte
      simp
      omega
  rw [this]
  rfl
/-- What strconv.Atoi says: the number where there is one. -/
def atO (l : List UInt8) : Option Int := match Lib.atoiAll l with | .ok v => some v | _ => none
theorem atO_range (l : List UInt8) (v : Int) (h : atO l = some v) : -9223372036854775808 ≤ v ∧ v ≤ 9223372036854775807 := by
  unfold atO at h
  split at h
  · rename_i u hu
    injection h with h
    subst h
    unfold Lib.atoiAll at hu
    split at hu
    · cases hu
    · simp only at hu
      split at hu
      · cases hu
      · cases hu
      · split at hu
        · cases hu
        · split at hu
          · cases hu
          · injection hu with hu
            rename_i h1 h2
            subst hu
            split <;> omega
  · cases h
theorem atO_pad (n : Nat) (h : n ≤ 9223372036854775807) : atO (padS n) = some (n : Int) := by
  obtain ⟨p1, p2, p3⟩ := pad_facts n h
  generalize padS n = l at p1 p2 p3
  cases l with
  | nil => simp at p3
  | cons c r =>
    have hc := p1 c (by simp)
    unfold atO Lib.atoiAll
    simp only
    rw [if_neg (by omega)]
    have hp : Lib.parseMag (c :: r) = .ok n := by
      unfold Lib.parseMag
      rw [if_neg (by simp), parse_dval (c :: r) 0 p1 (by rw [p2]; omega), p2]
    rw [hp]
    simp only
    rw [if_neg (by omega), if_neg (by omega), if_neg (by omega)]
/-- The number of a name. -/
def numM (nm : Nm) : Option Nat := match atO (Lib.trimPrefix nm segP) with | some v => if 1 ≤ v ∧ nmS v.toNat = nm then some v.toNat else none | none => none
theorem numM_some {nm : Nm} {n : Nat} (h : numM nm = some n) : nm = nmS n ∧ 1 ≤ n ∧ n ≤ 9223372036854775807 := by
  unfold numM at h
  split at h
  · rename_i v hv
    split at h
    · rename_i hc
      injection h with h
      have := atO_range _ _ hv
      exact ⟨by rw [← h]; exact hc.2.symm, by omega, by omega⟩
    · cases h
  · cases h
theorem trim_nm (n : Nat) : Lib.trimPrefix (nmS n) segP = padS n := by
  unfold Lib.trimPrefix nmS
  have : Lib.hasPrefix (segP ++ padS n) segP = true := by
    show segP.isPrefixOf (segP ++ padS n) = true
    rw [List.isPrefixOf_iff_prefix]
    exact List.prefix_append _ _
  rw [this]
  simp
theorem numM_nm (n : Nat) (h1 : 1 ≤ n) (h : n ≤ 9223372036854775807) : numM (nmS n) = some n := by
  unfold numM
  rw [trim_nm, atO_pad n h]
  simp only [Int.toNat_natCast]
  rw [if_pos ⟨by omega, trivial⟩]
/-! ### segments -/
structure Sg where
  first : Nat
  recs : List (List UInt8)
  size : Nat
def Sg.next (s : Sg) : Nat := s.first + s.recs.length
def nxS (S : List Sg) : Nat := match S.getLast? with | some s => s.next | none => 1
def fsS (S : List Sg) : Nat := match S.head? with | some s => s.first | none => 1
def bySz (S : List Sg) : Nat := (S.map (·.size)).sum
def Sg.put (s : Sg) (r : List UInt8) (k : Nat) : Sg := ⟨s.first, s.recs ++ [r], s.size + k⟩
/-- The frame of a record. -/
def frmN (n : Nat) (r : List UInt8) : List UInt8 := frameOf (form n ++ r)
/-- What is read of bytes. -/
def rdR (b : List UInt8) : Nat → Sg → Sg
  | 0, s => s
  | f + 1, s =>
    if s.next = 9223372036854775807 then s
    else if (unframe (b.drop s.size)).2.2 ≠ 0 then s
    else if (rd (unframe (b.drop s.size)).1).2.2 ≠ 0 ∨ (rd (unframe (b.drop s.size)).1).1 ≠ s.next then s
    else rdR b f (s.put ((unframe (b.drop s.size)).1.drop (rd (unframe (b.drop s.size)).1).2.1) (unframe (b.drop s.size)).2.1)
def rdS (n : Nat) (b : List UInt8) : Sg := rdR b (b.length + 1) ⟨n, [], 0⟩
/-- The records from a number on. -/
def Sg.from (s : Sg) (z : Int) : List (List UInt8) := s.recs.drop (min (max z (s.first : Int) - (s.first : Int)).toNat s.recs.length)
def frS (S : List Sg) (z : Int) : List (List UInt8) := S.flatMap (·.from z)
#print axioms numM_nm
end Go.Proofs.YtmcgghjeocnpnaaGreatDoor
end
