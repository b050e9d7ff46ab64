/-
  PLAIN MATHEMATICS, no program: the sum CRC-32C bit by bit over natural numbers, and the two ways in which Go's operators spell it.
-/
import Derived.WalkKit
import Derived.Laws.BitsAllLaws
set_option linter.unusedVariables false
namespace Go.Proofs.YtoapkajlgnlecaaDoor

def bit1 (c : Nat) : Nat := if c % 2 = 1 then (c / 2) ^^^ 2197175160 else c / 2
def rep : Nat → Nat → Nat
  | 0, c => c
  | k + 1, c => bit1 (rep k c)
def byte1 (c : Nat) (x : UInt8) : Nat := rep 8 (c ^^^ x.toNat)
def crcS (l : List UInt8) : Nat := l.foldl byte1 4294967295
def crc (l : List UInt8) : Nat := crcS l ^^^ 4294967295

theorem bit1_lt {c : Nat} (h : c < 4294967296) : bit1 c < 4294967296 := by
  unfold bit1
  split
  · exact Nat.xor_lt_two_pow (n := 32) (by omega) (by decide)
  · omega
theorem rep_lt {c : Nat} (h : c < 4294967296) : ∀ k, rep k c < 4294967296
  | 0 => h
  | k + 1 => bit1_lt (rep_lt h k)
theorem xor8_lt {c : Nat} (h : c < 4294967296) (x : UInt8) : c ^^^ x.toNat < 4294967296 :=
  Nat.xor_lt_two_pow (n := 32) h (by have := x.toNat_lt; omega)
theorem byte1_lt {c : Nat} (h : c < 4294967296) (x : UInt8) : byte1 c x < 4294967296 := rep_lt (xor8_lt h x) 8
theorem crcS_lt (l : List UInt8) : crcS l < 4294967296 := by
  unfold crcS
  suffices ∀ (l : List UInt8) c, c < 4294967296 → l.foldl byte1 c < 4294967296 from this l _ (by decide)
  intro l
  induction l with
  | nil => intro c h; exact h
  | cons x r ih => intro c h; exact ih _ (byte1_lt h x)
theorem crc_lt (l : List UInt8) : crc l < 4294967296 := Nat.xor_lt_two_pow (n := 32) (crcS_lt l) (by decide)
theorem crcS_snoc (l : List UInt8) (x : UInt8) : crcS (l ++ [x]) = byte1 (crcS l) x := by simp [crcS]
theorem crcS_take (l : List UInt8) (k : Nat) (h : k < l.length) : crcS (l.take (k + 1)) = byte1 (crcS (l.take k)) (l.getD k 0) := by
  rw [List.take_succ_eq_append_getElem h, crcS_snoc]
  simp [h]

theorem i64_xor_nat (a b : Nat) (ha : a < 4294967296) (hb : b < 4294967296) : bits .xor .i64 (a : Int) (b : Int) = ((a ^^^ b : Nat) : Int) := by
  have hx : a ^^^ b < 2 ^ 32 := Nat.xor_lt_two_pow (n := 32) (by omega) (by omega)
  have hw : ∀ n : Nat, n < 4294967296 → IntKind.i64.wrap (n : Int) = n := by
    intro n hn
    rw [IntKind.wrap_i64]
    omega
  show IntKind.i64.wrap ((BitVec.ofInt 64 (a : Int) ^^^ BitVec.ofInt 64 (b : Int)).toNat : Int) = _
  have e : ∀ n : Nat, n < 4294967296 → (BitVec.ofInt 64 (n : Int)).toNat = n := by
    intro n hn
    rw [BitVec.ofInt_natCast, BitVec.toNat_ofNat]; exact Nat.mod_eq_of_lt (by omega)
  rw [BitVec.toNat_xor, e a ha, e b hb]
  exact hw _ (by omega)

#print axioms crcS_take
end Go.Proofs.YtoapkajlgnlecaaDoor
