/-
  THE DOCUMENT'S OWN FIRST CHARACTER: the shortest of one to four bytes that is the writing of its own number; it is the model's.
-/
import Derived.Test.YtfnlcgdclamhcaaDoorChaM
set_option linter.unusedVariables false
namespace Go.Proofs.YtfnlcgdclamhcaaDoor

def encL (V : Nat) : List UInt8 :=
  if V < 128 then [UInt8.ofNat V]
  else if V < 2048 then [UInt8.ofNat (192 + V / 64), UInt8.ofNat (128 + V % 64)]
  else if V < 65536 then [UInt8.ofNat (224 + V / 4096), UInt8.ofNat (128 + V / 64 % 64), UInt8.ofNat (128 + V % 64)]
  else [UInt8.ofNat (240 + V / 262144), UInt8.ofNat (128 + V / 4096 % 64), UInt8.ofNat (128 + V / 64 % 64), UInt8.ofNat (128 + V % 64)]
theorem u8eq {x : Nat} (h : x < 256) (a : UInt8) : UInt8.ofNat x = a ↔ x = a.toNat := by
  constructor
  · intro e; rw [← e]; simp; omega
  · intro e; rw [e]; simp

def v2 (a b : Nat) : Nat := a % 32 * 64 + b % 64
def v3 (a b c : Nat) : Nat := a % 16 * 4096 + b % 64 * 64 + c % 64
def v4 (a b c d : Nat) : Nat := a % 8 * 262144 + b % 64 * 4096 + c % 64 * 64 + d % 64

theorem enc1 (a : UInt8) : encL a.toNat = [a] ↔ a.toNat < 128 := by
  have := a.toNat_lt
  unfold encL
  repeat' split
  · simp; omega
  · simp; omega
  · exact absurd ‹¬ a.toNat < 2048› (by omega)
  · exact absurd ‹¬ a.toNat < 2048› (by omega)
theorem enc2 (a b : UInt8) : encL (v2 a.toNat b.toNat) = [a, b] ↔ (128 ≤ v2 a.toNat b.toNat ∧ a.toNat / 32 = 6 ∧ b.toNat / 64 = 2) := by
  have := a.toNat_lt
  have := b.toNat_lt
  have hV : v2 a.toNat b.toNat < 2048 := by unfold v2; omega
  unfold encL
  repeat' split
  · simp; omega
  · simp only [List.cons.injEq, and_true]
    rw [u8eq (by omega), u8eq (by omega)]
    unfold v2 at *
    omega
  all_goals omega
theorem enc3 (a b c : UInt8) : encL (v3 a.toNat b.toNat c.toNat) = [a, b, c] ↔ (2048 ≤ v3 a.toNat b.toNat c.toNat ∧ a.toNat / 16 = 14 ∧ b.toNat / 64 = 2 ∧ c.toNat / 64 = 2) := by
  have := a.toNat_lt
  have := b.toNat_lt
  have := c.toNat_lt
  have hV : v3 a.toNat b.toNat c.toNat < 65536 := by unfold v3; omega
  unfold encL
  repeat' split
  · simp; omega
  · simp; omega
  · simp only [List.cons.injEq, and_true]
    rw [u8eq (by omega), u8eq (by omega), u8eq (by omega)]
    unfold v3 at *
    omega
  all_goals omega
theorem enc4 (a b c d : UInt8) : encL (v4 a.toNat b.toNat c.toNat d.toNat) = [a, b, c, d] ↔ (65536 ≤ v4 a.toNat b.toNat c.toNat d.toNat ∧ a.toNat / 8 = 30 ∧ b.toNat / 64 = 2 ∧ c.toNat / 64 = 2 ∧ d.toNat / 64 = 2) := by
  have := a.toNat_lt
  have := b.toNat_lt
  have := c.toNat_lt
  have := d.toNat_lt
  have hV : v4 a.toNat b.toNat c.toNat d.toNat < 2097152 := by unfold v4; omega
  unfold encL
  repeat' split
  · simp; omega
  · simp; omega
  · simp; omega
  · simp only [List.cons.injEq, and_true]
    rw [u8eq (by omega), u8eq (by omega), u8eq (by omega), u8eq (by omega)]
    unfold v4 at *
    omega

def fval (n : Nat) (l : List UInt8) : Nat := match n with
  | 1 => (l.getD 0 0).toNat
  | 2 => v2 (l.getD 0 0).toNat (l.getD 1 0).toNat
  | 3 => v3 (l.getD 0 0).toNat (l.getD 1 0).toNat (l.getD 2 0).toNat
  | _ => v4 (l.getD 0 0).toNat (l.getD 1 0).toNat (l.getD 2 0).toNat (l.getD 3 0).toNat
def Okn (n : Nat) (l : List UInt8) : Prop := n ≤ l.length ∧ fval n l ≤ 1114111 ∧ ¬ (55296 ≤ fval n l ∧ fval n l < 57344) ∧ encL (fval n l) = l.take n

theorem dec1 (L a b c d : Nat) (ha : a < 256) (hL : 1 ≤ L) : ((Lib.decodeN L a b c d).2 = 1 ∧ Lib.decodeN L a b c d ≠ (65533, 1)) ↔ a < 128 := by
  unfold Lib.decodeN
  repeat' split
  all_goals first
    | exact ⟨fun h => absurd rfl h.2, fun h => absurd h (by omega)⟩
    | exact ⟨fun h => absurd h.1 (by simp), fun h => absurd h (by omega)⟩
    | exact ⟨fun _ => by omega, fun _ => ⟨rfl, fun e => by have e1 := congrArg Prod.fst e; have e2 := congrArg Prod.snd e; dsimp only at e1 e2; omega⟩⟩
theorem dec2 (L a b c d : Nat) (ha : a < 256) (hb : b < 256) : ((Lib.decodeN L a b c d).2 = 2 ∧ Lib.decodeN L a b c d ≠ (65533, 1)) ↔ (2 ≤ L ∧ 128 ≤ v2 a b ∧ a / 32 = 6 ∧ b / 64 = 2) := by
  unfold Lib.decodeN v2
  repeat' split
  all_goals first
    | exact ⟨fun h => absurd rfl h.2, fun h => absurd h (by omega)⟩
    | exact ⟨fun h => absurd h.1 (by simp), fun h => absurd h (by omega)⟩
    | exact ⟨fun _ => by omega, fun _ => ⟨rfl, fun e => by have e1 := congrArg Prod.fst e; have e2 := congrArg Prod.snd e; dsimp only at e1 e2; omega⟩⟩
theorem dec3 (L a b c d : Nat) (ha : a < 256) (hb : b < 256) (hc : c < 256) : ((Lib.decodeN L a b c d).2 = 3 ∧ Lib.decodeN L a b c d ≠ (65533, 1)) ↔ (3 ≤ L ∧ ¬ (55296 ≤ v3 a b c ∧ v3 a b c < 57344) ∧ 2048 ≤ v3 a b c ∧ a / 16 = 14 ∧ b / 64 = 2 ∧ c / 64 = 2) := by
  unfold Lib.decodeN v3
  repeat' split
  all_goals first
    | exact ⟨fun h => absurd rfl h.2, fun h => absurd h (by omega)⟩
    | exact ⟨fun h => absurd h.1 (by simp), fun h => absurd h (by omega)⟩
    | exact ⟨fun _ => by omega, fun _ => ⟨rfl, fun e => by have e1 := congrArg Prod.fst e; have e2 := congrArg Prod.snd e; dsimp only at e1 e2; omega⟩⟩
theorem dec4 (L a b c d : Nat) (ha : a < 256) (hb : b < 256) (hc : c < 256) (hd : d < 256) : ((Lib.decodeN L a b c d).2 = 4 ∧ Lib.decodeN L a b c d ≠ (65533, 1)) ↔ (4 ≤ L ∧ v4 a b c d ≤ 1114111 ∧ 65536 ≤ v4 a b c d ∧ a / 8 = 30 ∧ b / 64 = 2 ∧ c / 64 = 2 ∧ d / 64 = 2) := by
  unfold Lib.decodeN v4
  repeat' split
  all_goals first
    | exact ⟨fun h => absurd rfl h.2, fun h => absurd h (by omega)⟩
    | exact ⟨fun h => absurd h.1 (by simp), fun h => absurd h (by omega)⟩
    | exact ⟨fun _ => by omega, fun _ => ⟨rfl, fun e => by have e1 := congrArg Prod.fst e; have e2 := congrArg Prod.snd e; dsimp only at e1 e2; omega⟩⟩

theorem okn1 (l : List UInt8) (h : l ≠ []) : Okn 1 l ↔ ((d4 l).2 = 1 ∧ d4 l ≠ (65533, 1)) := by
  match l, h with
  | a :: t, _ =>
    have ha := a.toNat_lt
    unfold d4
    rw [dec1 _ _ _ _ _ (UInt8.toNat_lt _) (by simp)]
    unfold Okn fval
    simp only [List.getD_cons_zero, List.length_cons, List.take_succ_cons, List.take_zero]
    rw [enc1]
    omega
theorem okn2 (l : List UInt8) (h : l ≠ []) : Okn 2 l ↔ ((d4 l).2 = 2 ∧ d4 l ≠ (65533, 1)) := by
  unfold d4
  rw [dec2 _ _ _ _ _ (UInt8.toNat_lt _) (UInt8.toNat_lt _)]
  unfold Okn
  match l with
  | [] => simp
  | [a] => simp
  | a :: b :: t =>
    have ha := a.toNat_lt
    have hb := b.toNat_lt
    simp only [fval, List.getD_cons_zero, List.getD_cons_succ, List.length_cons, List.take_succ_cons, List.take_zero]
    rw [enc2]
    have : v2 a.toNat b.toNat < 2048 := by unfold v2; omega
    omega
theorem okn3 (l : List UInt8) (h : l ≠ []) : Okn 3 l ↔ ((d4 l).2 = 3 ∧ d4 l ≠ (65533, 1)) := by
  unfold d4
  rw [dec3 _ _ _ _ _ (UInt8.toNat_lt _) (UInt8.toNat_lt _) (UInt8.toNat_lt _)]
  unfold Okn
  match l with
  | [] => simp
  | [a] => simp
  | [a, b] => simp
  | a :: b :: c :: t =>
    have ha := a.toNat_lt
    have hb := b.toNat_lt
    have hc := c.toNat_lt
    simp only [fval, List.getD_cons_zero, List.getD_cons_succ, List.length_cons, List.take_succ_cons, List.take_zero]
    rw [enc3]
    have : v3 a.toNat b.toNat c.toNat < 65536 := by unfold v3; omega
    omega
theorem okn4 (l : List UInt8) (h : l ≠ []) : Okn 4 l ↔ ((d4 l).2 = 4 ∧ d4 l ≠ (65533, 1)) := by
  unfold d4
  rw [dec4 _ _ _ _ _ (UInt8.toNat_lt _) (UInt8.toNat_lt _) (UInt8.toNat_lt _) (UInt8.toNat_lt _)]
  unfold Okn
  match l with
  | [] => simp
  | [a] => simp
  | [a, b] => simp
  | [a, b, c] => simp
  | a :: b :: c :: d :: t =>
    have ha := a.toNat_lt
    have hb := b.toNat_lt
    have hc := c.toNat_lt
    have hd := d.toNat_lt
    simp only [fval, List.getD_cons_zero, List.getD_cons_succ, List.length_cons, List.take_succ_cons, List.take_zero]
    rw [enc4]
    omega
theorem okn_iff (n : Nat) (l : List UInt8) (h : l ≠ []) (h1 : 1 ≤ n) (h4 : n ≤ 4) : Okn n l ↔ ((d4 l).2 = n ∧ d4 l ≠ (65533, 1)) := by
  match n, h1, h4 with
  | 1, _, _ => exact okn1 l h
  | 2, _, _ => exact okn2 l h
  | 3, _, _ => exact okn3 l h
  | 4, _, _ => exact okn4 l h
  | n + 5, _, h4 => omega
theorem d4_four (l : List UInt8) : (d4 l).2 ≤ 4 := by
  unfold d4 Lib.decodeN
  repeat' split
  all_goals (simp only; omega)
/-- What the document's first gives. -/
def fst (l : List UInt8) : Nat := if d4 l = (65533, 1) then 0 else (d4 l).2
theorem fst_hit (n : Nat) (l : List UInt8) (h : l ≠ []) (h1 : 1 ≤ n) (h4 : n ≤ 4) (ho : Okn n l) : fst l = n := by
  have := (okn_iff n l h h1 h4).1 ho
  unfold fst
  rw [if_neg this.2, this.1]
theorem fst_none (l : List UInt8) (h : l ≠ []) (hn : ∀ n, 1 ≤ n → n ≤ 4 → n ≤ l.length → ¬ Okn n l) : fst l = 0 := by
  unfold fst
  by_cases hb : d4 l = (65533, 1)
  · rw [if_pos hb]
  · have hs := d4_size l h
    have h4 := d4_four l
    exact absurd ((okn_iff (d4 l).2 l h hs.1 h4).2 ⟨rfl, hb⟩) (hn _ hs.1 h4 hs.2)
#print axioms fst_none
end Go.Proofs.YtfnlcgdclamhcaaDoor
