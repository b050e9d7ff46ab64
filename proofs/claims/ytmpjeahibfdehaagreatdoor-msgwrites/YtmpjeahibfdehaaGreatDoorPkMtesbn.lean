/-
  PLAIN MATHEMATICS, no program: a number's form, its bytes the highest first.
-/
import Derived.WalkKit
section
set_option linter.unusedVariables false
namespace Go.Proofs.YtmpjeahibfdehaaGreatDoor

/-- The lowest k bytes of a number, the highest first. -/
def be : Nat → Nat → List UInt8
 | 0, _ => []
 | k + 1, n => be k (n / 256) ++ [UInt8.ofNat n]

/-- How many bytes a number above 0 has. -/
def nb (n : Nat) : Nat :=
 if n < 256 then 1 else if n < 65536 then 2 else if n < 16777216 then 3 else if n < 4294967296 then 4
 else if n < 1099511627776 then 5 else if n < 281474976710656 then 6 else if n < 72057594037927936 then 7 else 8

/-- A number's form. -/
def form (n : Nat) : List UInt8 := if n ≤ 247 then [UInt8.ofNat n] else UInt8.ofNat (247 + nb n) :: be (nb n) n

end Go.Proofs.YtmpjeahibfdehaaGreatDoor
end
