/-
  httpd's reader as mathematics: what takes the next byte, and what comes of it.
-/
import Derived.Test.YthkadboeokgjnacGreatDoorWaH
set_option linter.unusedVariables false
namespace Go.Proofs.YthkadboeokgjnacGreatDoor
open Go.RowKit

/-- What comes behind the last byte of a kind. -/
inductive Th where
  | fin
  | chk
  | cb (n : Nat)
  | tl
/-- What takes the next byte. -/
inductive St where
  | head (h : List UInt8)
  | bytes (n : Nat) (t : Th)
  | text (u : List UInt8) (a : Nat) (t : Th)
  | chunk (n d : Nat)
structure Rq where
  m : List UInt8
  p : List UInt8
  h : List Hd
  b : List UInt8
def Rq.nil : Rq := ⟨[], [], [], []⟩

def crlf : List UInt8 := [13, 10]
def hend : List UInt8 := [13, 10, 13, 10]
/-- A hexadecimal digit. -/
def hexB (c : UInt8) : Option Nat :=
  if 48 ≤ c.toNat ∧ c.toNat ≤ 57 then some (c.toNat - 48)
  else if 97 ≤ c.toNat ∧ c.toNat ≤ 102 then some (c.toNat - 97 + 10)
  else if 65 ≤ c.toNat ∧ c.toNat ≤ 70 then some (c.toNat - 65 + 10) else none
theorem hexB_lt (c : UInt8) (x : Nat) (h : hexB c = some x) : x < 16 := by
  unfold hexB at h
  split at h
  · cases h; omega
  · split at h
    · cases h; omega
    · split at h
      · cases h; omega
      · cases h

/-- A chunk of so many bytes begins. -/
def cbM (n : Nat) (Q : Rq) : Nat × St := if n > 32768 - Q.b.length then (413, .chunk 0 0) else if n = 0 then (1, .text crlf 0 .fin) else (1, .bytes n .tl)
/-- What comes then. -/
def thM (t : Th) (S : St) (Q : Rq) : Nat × St :=
  match t with
  | .fin => (0, S)
  | .chk => (1, .chunk 0 0)
  | .cb n => cbM n Q
  | .tl => (1, .text crlf 0 .chk)
/-- How a body comes: in chunks, or so many bytes. -/
structure Fm where
  c : Bool
  n : Nat
/-- What a head says: a request, how its body comes, or a status. -/
abbrev HdM := List UInt8 → Rq × Fm × Nat
def bhM (R : HdM) (Q : Rq) (h : List UInt8) : Nat × St × Rq :=
  let x := R h
  if x.2.2 ≠ 0 then (x.2.2, .head h, Q)
  else if x.2.1.c then (1, .chunk 0 0, x.1)
  else if x.2.1.n = 0 then (0, .head h, x.1) else (1, .bytes x.2.1.n .fin, x.1)
/-- One byte. -/
def stepM (R : HdM) (S : St) (Q : Rq) (c : UInt8) : Nat × St × Rq :=
  match S with
  | .head h =>
    if hend <:+ h ++ [c] then bhM R Q ((h ++ [c]).take (h.length + 1 - 4))
    else if h.length + 1 = 8196 then (431, .head h, Q) else (1, .head (h ++ [c]), Q)
  | .bytes n t =>
    let Q' : Rq := { Q with b := Q.b ++ [c] }
    if 1 < n then (1, .bytes (n - 1) t, Q') else let x := thM t S Q'; (x.1, x.2, Q')
  | .text u a t =>
    if c ≠ u.getD a 0 then (400, S, Q)
    else if a + 1 < u.length then (1, .text u (a + 1) t, Q) else let x := thM t S Q; (x.1, x.2, Q)
  | .chunk n d =>
    match hexB c with
    | some x => if d < 8 then (1, .chunk (n * 16 + x) (d + 1), Q) else if c = 13 ∧ 0 < d then (1, .text [10] 0 (.cb n), Q) else (400, S, Q)
    | none => if c = 13 ∧ 0 < d then (1, .text [10] 0 (.cb n), Q) else (400, S, Q)
/-- Bytes, until a request is whole or refused: how many, the status. -/
def runM (R : HdM) : St → Rq → List UInt8 → Nat × Nat × St × Rq
  | S, Q, [] => (0, 1, S, Q)
  | S, Q, c :: l =>
    let x := stepM R S Q c
    if x.1 = 1 then let y := runM R x.2.1 x.2.2 l; (y.1 + 1, y.2) else (1, x.1, x.2.1, x.2.2)
/-- P8.1. -/
def parseM (R : HdM) (l : List UInt8) : Rq × Nat × Nat :=
  let x := runM R (.head []) Rq.nil l
  if x.2.1 = 0 then (x.2.2.2, x.1, 0) else (Rq.nil, 0, x.2.1)

theorem runM_one (R : HdM) (S : St) (Q : Rq) (c : UInt8) (l : List UInt8) (h : (stepM R S Q c).1 = 1) : runM R S Q (c :: l) = ((runM R (stepM R S Q c).2.1 (stepM R S Q c).2.2 l).1 + 1, (runM R (stepM R S Q c).2.1 (stepM R S Q c).2.2 l).2) := by
  conv => lhs; unfold runM
  simp only [h, if_true]
theorem runM_end (R : HdM) (S : St) (Q : Rq) (c : UInt8) (l : List UInt8) (h : (stepM R S Q c).1 ≠ 1) : runM R S Q (c :: l) = (1, (stepM R S Q c).1, (stepM R S Q c).2.1, (stepM R S Q c).2.2) := by
  conv => lhs; unfold runM
  simp only [if_neg h]
theorem runM_le (R : HdM) : ∀ (l : List UInt8) (S : St) (Q : Rq), (runM R S Q l).1 ≤ l.length
  | [], S, Q => Nat.le_refl _
  | c :: l, S, Q => by
    by_cases h : (stepM R S Q c).1 = 1
    · rw [runM_one R S Q c l h]
      have := runM_le R l (stepM R S Q c).2.1 (stepM R S Q c).2.2
      simp only [List.length_cons]; omega
    · rw [runM_end R S Q c l h]; simp
/-- Bytes one behind the other. -/
theorem runM_app (R : HdM) : ∀ (l r : List UInt8) (S : St) (Q : Rq), runM R S Q (l ++ r) = if (runM R S Q l).2.1 = 1 then ((runM R (runM R S Q l).2.2.1 (runM R S Q l).2.2.2 r).1 + l.length, (runM R (runM R S Q l).2.2.1 (runM R S Q l).2.2.2 r).2) else runM R S Q l
  | [], r, S, Q => by simp [runM]
  | c :: l, r, S, Q => by
    rw [List.cons_append]
    by_cases h : (stepM R S Q c).1 = 1
    · rw [runM_one R S Q c _ h, runM_one R S Q c _ h, runM_app R l r]
      split
      · simp only [List.length_cons]; rfl
      · rfl
    · rw [runM_end R S Q c _ h, runM_end R S Q c _ h]
      simp only [if_neg h]
theorem runM_more (R : HdM) : ∀ (l : List UInt8) (S : St) (Q : Rq), (runM R S Q l).2.1 = 1 → (runM R S Q l).1 = l.length
  | [], S, Q, _ => rfl
  | c :: l, S, Q, h => by
    by_cases h1 : (stepM R S Q c).1 = 1
    · rw [runM_one R S Q c l h1] at h ⊢
      simp only [List.length_cons, runM_more R l _ _ h]
    · rw [runM_end R S Q c l h1] at h
      exact absurd h h1
/-- Of what is taken: each shorter beginning asks for more; what stands behind changes nothing. -/
theorem runM_cut (R : HdM) : ∀ (l : List UInt8) (S : St) (Q : Rq), (runM R S Q l).2.1 ≠ 1 → (∀ k, k < (runM R S Q l).1 → (runM R S Q (l.take k)).2.1 = 1) ∧ runM R S Q (l.take (runM R S Q l).1) = runM R S Q l
  | [], S, Q, h => absurd rfl h
  | c :: l, S, Q, h => by
    by_cases h1 : (stepM R S Q c).1 = 1
    · rw [runM_one R S Q c l h1] at h ⊢
      obtain ⟨i1, i2⟩ := runM_cut R l _ _ h
      refine ⟨fun k hk => ?_, ?_⟩
      · cases k with
        | zero => rfl
        | succ k =>
          rw [List.take_succ_cons, runM_one R S Q c _ h1]
          exact i1 k (by simpa using hk)
      · simp only [List.take_succ_cons]
        rw [runM_one R S Q c _ h1, i2]
    · rw [runM_end R S Q c l h1]
      refine ⟨fun k hk => ?_, ?_⟩
      · obtain rfl : k = 0 := by simpa using hk
        rfl
      · simp only [List.take_succ_cons, List.take_zero]
        rw [runM_end R S Q c _ h1]
/-- No body grows too long. -/
def okQ (S : St) (Q : Rq) : Prop :=
  match S with
  | .bytes n _ => 0 < n ∧ Q.b.length + n ≤ 32768
  | _ => Q.b.length ≤ 32768
def Rok (R : HdM) : Prop := ∀ h, (R h).1.b = [] ∧ (R h).2.1.n ≤ 32768 ∧ (R h).2.2 ≠ 1
theorem okQ_len {S : St} {Q : Rq} (h : okQ S Q) : Q.b.length ≤ 32768 := by
  cases S <;> simp only [okQ] at h <;> omega
theorem okQ_cb (n : Nat) (Q : Rq) (h : Q.b.length ≤ 32768) (h1 : (cbM n Q).1 = 1) : okQ (cbM n Q).2 Q := by
  unfold cbM at h1 ⊢
  split
  · rename_i h2; simp [h2] at h1
  · split
    · exact h
    · simp only [okQ]; omega
theorem okQ_th (t : Th) (S : St) (Q : Rq) (h : Q.b.length ≤ 32768) (h1 : (thM t S Q).1 = 1) : okQ (thM t S Q).2 Q := by
  cases t with
  | fin => simp [thM] at h1
  | chk => exact h
  | cb n => exact okQ_cb n Q h h1
  | tl => exact h
theorem okQ_step (R : HdM) (hR : Rok R) (S : St) (Q : Rq) (c : UInt8) (h : okQ S Q) (h1 : (stepM R S Q c).1 = 1) : okQ (stepM R S Q c).2.1 (stepM R S Q c).2.2 := by
  have hl := okQ_len h
  cases S with
  | head x =>
    simp only [stepM] at h1 ⊢
    split
    · rename_i h2
      rw [if_pos h2] at h1
      unfold bhM at h1 ⊢
      obtain ⟨r1, r2, r3⟩ := hR (List.take (x.length + 1 - 4) (x ++ [c]))
      simp only at h1 ⊢
      split
      · rename_i h3; rw [if_pos h3] at h1; exact absurd h1 r3
      · split
        · simp only [okQ, r1]; simp
        · split
          · rename_i h3 h4 h5; rw [if_neg h3, if_neg h4, if_pos h5] at h1; simp at h1
          · simp only [okQ, r1, List.length_nil]; omega
    · rename_i h2
      rw [if_neg h2] at h1
      split
      · rename_i h3; rw [if_pos h3] at h1; simp at h1
      · exact hl
  | bytes n t =>
    simp only [okQ] at h
    simp only [stepM] at h1 ⊢
    split
    · simp only [okQ, List.length_append, List.length_cons, List.length_nil]; omega
    · rename_i h2
      rw [if_neg h2] at h1
      exact okQ_th t _ _ (by simp; omega) h1
  | text u a t =>
    simp only [stepM] at h1 ⊢
    split
    · rename_i h2; rw [if_pos h2] at h1; simp at h1
    · rename_i h2
      rw [if_neg h2] at h1
      split
      · exact hl
      · rename_i h3
        rw [if_neg h3] at h1
        exact okQ_th t _ _ hl h1
  | chunk n d =>
    simp only [stepM] at h1 ⊢
    split
    · split
      · exact hl
      · split
        · exact hl
        · rename_i h2 h3; simp [*] at h1
    · split
      · exact hl
      · rename_i h3; simp [*] at h1
#print axioms runM_cut
#print axioms okQ_step
end Go.Proofs.YthkadboeokgjnacGreatDoor
