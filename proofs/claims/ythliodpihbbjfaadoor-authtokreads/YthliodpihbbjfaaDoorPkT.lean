/-
  A KEY's BLOCK, masked, byte by byte; two rows of the call's own, apart.
-/
import Derived.Test.YthliodpihbbjfaaDoorMacW
import Derived.Test.YthliodpihbbjfaaDoorOwn2
set_option linter.unusedVariables false
namespace Go.Proofs.YthliodpihbbjfaaDoor
open Go.RowKit

/-- The first i bytes of a key's block, masked. -/
def pk (key : List UInt8) (x : UInt8) (i : Nat) : List UInt8 := ((kblk key).take i).map (· ^^^ x)
theorem kblk_get (key : List UInt8) (h : key.length ≤ 64) (i : Nat) (hi : i < 64) : (kblk key).getD i 0 = key.getD i 0 := by
  unfold kblk
  rw [if_neg (by omega)]
  simp only [List.getD_eq_getElem?_getD]
  by_cases h2 : i < key.length
  · rw [List.getElem?_append_left h2]
  · rw [List.getElem?_append_right (by omega), List.getElem?_eq_none (by omega : key.length ≤ i)]
    simp only [noughts, List.drop_replicate, List.getElem?_replicate]
    split <;> rfl
theorem pk_zero (key : List UInt8) (x : UInt8) : pk key x 0 = [] := by simp [pk]
theorem pk_length (key : List UInt8) (h : key.length ≤ 64) (x : UInt8) (i : Nat) (hi : i ≤ 64) : (pk key x i).length = i := by
  simp [pk, kblk_length key]; omega
theorem pk_succ (key : List UInt8) (h : key.length ≤ 64) (x : UInt8) (i : Nat) (hi : i < 64) : pk key x i ++ [key.getD i 0 ^^^ x] = pk key x (i + 1) := by
  unfold pk
  rw [List.take_add_one, List.map_append, ← kblk_get key h i hi]
  have : i < (kblk key).length := by rw [kblk_length key]; exact hi
  simp [this]
theorem pk_all (key : List UInt8) (h : key.length ≤ 64) (x : UInt8) : pk key x 64 = (kblk key).map (· ^^^ x) := by
  unfold pk
  rw [List.take_of_length_le (by rw [kblk_length key]; exact Nat.le_refl _)]

/-- Two rows of one's own, apart. -/
def Two (w : World) (base : Nat) (a1 : Option Addr) (c1 : Nat) (r1 : List UInt8) (a2 : Option Addr) (c2 : Nat) (r2 : List UInt8) : Prop :=
  OwnB w base a1 c1 r1 ∧ OwnB w base a2 c2 r2 ∧ (blk a1 = none ∨ blk a1 ≠ blk a2) ∧ (blk a2 = none ∨ blk a2 ≠ blk a1)
theorem Two.one {w w' : World} {base : Nat} {a1 : Option Addr} {c1 : Nat} {r1 : List UInt8} {a2 : Option Addr} {c2 : Nat} {r2 : List UInt8} (h : Two w base a1 c1 r1 a2 c2 r2)
    {a' : Option Addr} {c' : Nat} {r' : List UInt8} (o : Obj) (ho : OwnB w' base a' c' r') (hg : (w.alloc o).grownBy w' (blk a1)) (hw : a' = a1 ∨ ∀ k, blk a' = some k → w.heap.size + 1 ≤ k) : Two w' base a' c' r' a2 c2 r2 := by
  have h2 : OwnB w' base a2 c2 r2 := (h.2.1.alloc o).kept hg h.2.2.2
  refine ⟨ho, h2, ?_, ?_⟩
  · rcases hw with rfl | hw
    · exact h.2.2.1
    · cases hb : blk a' with
      | none => exact .inl rfl
      | some k =>
        right
        intro e
        have h3 := hw k hb
        have h4 := (h.2.1.lt k e.symm).2
        omega
  · rcases hw with rfl | hw
    · exact h.2.2.2
    · cases hb : blk a2 with
      | none => exact .inl rfl
      | some k =>
        right
        intro e
        have h3 := hw k e.symm
        have h4 := (h.2.1.lt k hb).2
        omega
theorem Two.swap {w : World} {base : Nat} {a1 : Option Addr} {c1 : Nat} {r1 : List UInt8} {a2 : Option Addr} {c2 : Nat} {r2 : List UInt8} (h : Two w base a1 c1 r1 a2 c2 r2) : Two w base a2 c2 r2 a1 c1 r1 := ⟨h.2.1, h.1, h.2.2.2, h.2.2.1⟩

end Go.Proofs.YthliodpihbbjfaaDoor
