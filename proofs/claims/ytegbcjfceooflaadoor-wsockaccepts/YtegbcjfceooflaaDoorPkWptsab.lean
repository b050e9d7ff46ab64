/-
  PLAIN MATHEMATICS, no program: SHA-1 and SHA-256 over words of 32 bits, block by block, and how Go's operators on such words are spelt.
-/
import Derived.WalkKit
import Derived.Laws.BitsAllLaws
section
set_option linter.unusedVariables false
namespace Go.Proofs.YtegbcjfceooflaaDoor

def rotl (x : UInt32) (s : Nat) : UInt32 := (x <<< UInt32.ofNat s) ||| (x >>> UInt32.ofNat (32 - s))
def chs (x y z : UInt32) : UInt32 := (x &&& y) ^^^ (~~~x &&& z)
def maj (x y z : UInt32) : UInt32 := (x &&& y) ^^^ (x &&& z) ^^^ (y &&& z)
def b4 (a b c d : UInt8) : UInt32 := UInt32.ofNat (a.toNat * 16777216 + b.toNat * 65536 + c.toNat * 256 + d.toNat)
/-- The i-th word of a block. -/
def wd (m : List UInt8) (i : Nat) : UInt32 := b4 (m.getD (4 * i) 0) (m.getD (4 * i + 1) 0) (m.getD (4 * i + 2) 0) (m.getD (4 * i + 3) 0)

/-! SHA-1 -/
structure S5 where
  a : UInt32
  b : UInt32
  c : UInt32
  d : UInt32
  e : UInt32
deriving DecidableEq
def S5.list (s : S5) : List UInt32 := [s.a, s.b, s.c, s.d, s.e]
def nxt1 (m : List UInt8) (l : List UInt32) (n : Nat) : UInt32 :=
  if n < 16 then wd m n else rotl (l.getD (n - 3) 0 ^^^ l.getD (n - 8) 0 ^^^ l.getD (n - 14) 0 ^^^ l.getD (n - 16) 0) 1
/-- The first n words of a block's rounds. -/
def sch1 (m : List UInt8) : Nat → List UInt32
  | 0 => []
  | n + 1 => sch1 m n ++ [nxt1 m (sch1 m n) n]
def mix1 (t : Nat) (x y z : UInt32) : UInt32 := if t = 0 then chs x y z else if t = 2 then maj x y z else x ^^^ y ^^^ z
def k1 (t : Nat) : UInt32 := if t = 0 then 0x5a827999 else if t = 1 then 0x6ed9eba1 else if t = 2 then 0x8f1bbcdc else 0xca62c1d6
def step1 (n : Nat) (w : UInt32) (s : S5) : S5 := ⟨rotl s.a 5 + mix1 (n / 20) s.b s.c s.d + s.e + k1 (n / 20) + w, s.a, rotl s.b 30, s.c, s.d⟩
def rnd1 (l : List UInt32) (s : S5) : Nat → S5
  | 0 => s
  | n + 1 => step1 n (l.getD n 0) (rnd1 l s n)
def beh1 (s : S5) (m : List UInt8) : S5 :=
  let r := rnd1 (sch1 m 80) s 80
  ⟨s.a + r.a, s.b + r.b, s.c + r.c, s.d + r.d, s.e + r.e⟩
def ini1 : S5 := ⟨0x67452301, 0xefcdab89, 0x98badcfe, 0x10325476, 0xc3d2e1f0⟩

/-! SHA-256 -/
structure S8 where
  a : UInt32
  b : UInt32
  c : UInt32
  d : UInt32
  e : UInt32
  f : UInt32
  g : UInt32
  h : UInt32
deriving DecidableEq
def S8.list (s : S8) : List UInt32 := [s.a, s.b, s.c, s.d, s.e, s.f, s.g, s.h]
def rotr (x : UInt32) (s : Nat) : UInt32 := rotl x (32 - s)
def nxt2 (m : List UInt8) (l : List UInt32) (n : Nat) : UInt32 :=
  if n < 16 then wd m n else
    let x := l.getD (n - 15) 0
    let y := l.getD (n - 2) 0
    l.getD (n - 16) 0 + (rotr x 7 ^^^ rotr x 18 ^^^ (x >>> 3)) + l.getD (n - 7) 0 + (rotr y 17 ^^^ rotr y 19 ^^^ (y >>> 10))
def sch2 (m : List UInt8) : Nat → List UInt32
  | 0 => []
  | n + 1 => sch2 m n ++ [nxt2 m (sch2 m n) n]
def k2s : List UInt32 := [
  0x428a2f98, 0x71374491, 0xb5c0fbcf, 0xe9b5dba5, 0x3956c25b, 0x59f111f1, 0x923f82a4, 0xab1c5ed5,
  0xd807aa98, 0x12835b01, 0x243185be, 0x550c7dc3, 0x72be5d74, 0x80deb1fe, 0x9bdc06a7, 0xc19bf174,
  0xe49b69c1, 0xefbe4786, 0x0fc19dc6, 0x240ca1cc, 0x2de92c6f, 0x4a7484aa, 0x5cb0a9dc, 0x76f988da,
  0x983e5152, 0xa831c66d, 0xb00327c8, 0xbf597fc7, 0xc6e00bf3, 0xd5a79147, 0x06ca6351, 0x14292967,
  0x27b70a85, 0x2e1b2138, 0x4d2c6dfc, 0x53380d13, 0x650a7354, 0x766a0abb, 0x81c2c92e, 0x92722c85,
  0xa2bfe8a1, 0xa81a664b, 0xc24b8b70, 0xc76c51a3, 0xd192e819, 0xd6990624, 0xf40e3585, 0x106aa070,
  0x19a4c116, 0x1e376c08, 0x2748774c, 0x34b0bcb5, 0x391c0cb3, 0x4ed8aa4a, 0x5b9cca4f, 0x682e6ff3,
  0x748f82ee, 0x78a5636f, 0x84c87814, 0x8cc70208, 0x90befffa, 0xa4506ceb, 0xbef9a3f7, 0xc67178f2]
def k2 (n : Nat) : UInt32 := k2s.getD n 0
def one2 (n : Nat) (w : UInt32) (s : S8) : UInt32 := s.h + (rotr s.e 6 ^^^ rotr s.e 11 ^^^ rotr s.e 25) + chs s.e s.f s.g + k2 n + w
def two2 (s : S8) : UInt32 := (rotr s.a 2 ^^^ rotr s.a 13 ^^^ rotr s.a 22)
def step2 (n : Nat) (w : UInt32) (s : S8) : S8 := ⟨one2 n w s + two2 s + maj s.a s.b s.c, s.a, s.b, s.c, s.d + one2 n w s, s.e, s.f, s.g⟩
def rnd2 (l : List UInt32) (s : S8) : Nat → S8
  | 0 => s
  | n + 1 => step2 n (l.getD n 0) (rnd2 l s n)
def beh2 (s : S8) (m : List UInt8) : S8 :=
  let r := rnd2 (sch2 m 64) s 64
  ⟨s.a + r.a, s.b + r.b, s.c + r.c, s.d + r.d, s.e + r.e, s.f + r.f, s.g + r.g, s.h + r.h⟩
def ini2 : S8 := ⟨0x6a09e667, 0xbb67ae85, 0x3c6ef372, 0xa54ff53a, 0x510e527f, 0x9b05688c, 0x1f83d9ab, 0x5be0cd19⟩

/-! Blocks -/
/-- A number's eight bytes, the highest first. -/
def cnt8 (n : Nat) : List UInt8 := [UInt8.ofNat (n / 2 ^ 56), UInt8.ofNat (n / 2 ^ 48), UInt8.ofNat (n / 2 ^ 40), UInt8.ofNat (n / 2 ^ 32), UInt8.ofNat (n / 2 ^ 24), UInt8.ofNat (n / 2 ^ 16), UInt8.ofNat (n / 2 ^ 8), UInt8.ofNat n]
def noughts (n : Nat) : List UInt8 := List.replicate n 0
/-- The last block or two: what is left, a bit, noughts, the number of bits. -/
def ends (n : Nat) (b : List UInt8) : List (List UInt8) :=
  if 56 ≤ b.length then [b ++ 128 :: noughts (63 - b.length), noughts 56 ++ cnt8 n] else [b ++ 128 :: (noughts (55 - b.length) ++ cnt8 n)]
def blks (n : Nat) (b : List UInt8) : List (List UInt8) :=
  if h : 64 ≤ b.length then b.take 64 :: blks n (b.drop 64) else ends n b
termination_by b.length
decreasing_by simp; omega
theorem blks_go (n : Nat) (b : List UInt8) (h : 64 ≤ b.length) : blks n b = b.take 64 :: blks n (b.drop 64) := by rw [blks, dif_pos h]
theorem blks_end (n : Nat) (b : List UInt8) (h : b.length < 64) : blks n b = ends n b := by rw [blks, dif_neg (by omega)]
def by4 (x : UInt32) : List UInt8 := [UInt8.ofNat (x.toNat / 16777216), UInt8.ofNat (x.toNat / 65536), UInt8.ofNat (x.toNat / 256), UInt8.ofNat x.toNat]
def byts (l : List UInt32) : List UInt8 := l.flatMap by4
/-- The digest behind a state that has taken so many bytes. -/
def fin1 (s : S5) (ahead : Nat) (b : List UInt8) : S5 := (blks ((ahead + b.length) * 8) b).foldl beh1 s
def fin2 (s : S8) (ahead : Nat) (b : List UInt8) : S8 := (blks ((ahead + b.length) * 8) b).foldl beh2 s
def sha1 (b : List UInt8) : List UInt8 := byts (fin1 ini1 0 b).list
def sha2 (b : List UInt8) : List UInt8 := byts (fin2 ini2 0 b).list

theorem fin2_ahead (k b : List UInt8) (hk : k.length = 64) : fin2 (beh2 ini2 k) 64 b = fin2 ini2 0 (k ++ b) := by
  unfold fin2
  rw [blks_go _ (k ++ b) (by simp; omega)]
  simp [hk]

theorem sch1_length (m : List UInt8) : ∀ n, (sch1 m n).length = n
  | 0 => rfl
  | n + 1 => by simp [sch1, sch1_length m n]
theorem sch2_length (m : List UInt8) : ∀ n, (sch2 m n).length = n
  | 0 => rfl
  | n + 1 => by simp [sch2, sch2_length m n]
theorem byts_length (l : List UInt32) : (byts l).length = 4 * l.length := by
  induction l with
  | nil => rfl
  | cons x r ih => simp [byts, by4] at *; omega
theorem sha1_length (b : List UInt8) : (sha1 b).length = 20 := by rw [sha1, byts_length]; rfl
theorem sha2_length (b : List UInt8) : (sha2 b).length = 32 := by rw [sha2, byts_length]; rfl

/-- A list filled up with noughts. -/
def padw (l : List UInt32) (n : Nat) : List UInt32 := l ++ List.replicate (n - l.length) 0
theorem padw_length (l : List UInt32) (n : Nat) (h : l.length ≤ n) : (padw l n).length = n := by simp [padw]; omega
theorem padw_get (l : List UInt32) (n i : Nat) (h : i < l.length) : (padw l n).getD i 0 = l.getD i 0 := by
  simp [padw, h, List.getElem?_append_left]
theorem padw_set (l : List UInt32) (n k : Nat) (x : UInt32) (hk : l.length = k) (h : k < n) : (padw l n).set k x = padw (l ++ [x]) n := by
  subst hk
  unfold padw
  rw [List.set_append_right _ _ (Nat.le_refl _), Nat.sub_self]
  have e : n - l.length = (n - (l ++ [x]).length) + 1 := by simp; omega
  rw [e, List.replicate_succ]
  simp
theorem padw_full (l : List UInt32) (n : Nat) (h : l.length = n) : padw l n = l := by simp [padw, h]
theorem beh1_eq (s : S5) (m : List UInt8) : beh1 s m = ⟨s.a + (rnd1 (sch1 m 80) s 80).a, s.b + (rnd1 (sch1 m 80) s 80).b, s.c + (rnd1 (sch1 m 80) s 80).c, s.d + (rnd1 (sch1 m 80) s 80).d, s.e + (rnd1 (sch1 m 80) s 80).e⟩ := by unfold beh1; rfl
theorem beh2_eq (s : S8) (m : List UInt8) : beh2 s m = ⟨s.a + (rnd2 (sch2 m 64) s 64).a, s.b + (rnd2 (sch2 m 64) s 64).b, s.c + (rnd2 (sch2 m 64) s 64).c, s.d + (rnd2 (sch2 m 64) s 64).d, s.e + (rnd2 (sch2 m 64) s 64).e, s.f + (rnd2 (sch2 m 64) s 64).f, s.g + (rnd2 (sch2 m 64) s 64).g, s.h + (rnd2 (sch2 m 64) s 64).h⟩ := by unfold beh2; rfl
theorem rnd1_zero (l : List UInt32) (s : S5) : rnd1 l s 0 = s := rfl
theorem rnd2_zero (l : List UInt32) (s : S8) : rnd2 l s 0 = s := rfl
theorem rnd1_succ (l : List UInt32) (s : S5) (n : Nat) : rnd1 l s (n + 1) = step1 n (l.getD n 0) (rnd1 l s n) := rfl
theorem rnd2_succ (l : List UInt32) (s : S8) (n : Nat) : rnd2 l s (n + 1) = step2 n (l.getD n 0) (rnd2 l s n) := rfl
theorem sha1_abc : sha1 [97, 98, 99] = [0xa9, 0x99, 0x3e, 0x36, 0x47, 0x06, 0x81, 0x6a, 0xba, 0x3e, 0x25, 0x71, 0x78, 0x50, 0xc2, 0x6c, 0x9c, 0xd0, 0xd8, 0x9d] := by decide +kernel
theorem sha2_abc : sha2 [97, 98, 99] = [0xba, 0x78, 0x16, 0xbf, 0x8f, 0x01, 0xcf, 0xea, 0x41, 0x41, 0x40, 0xde, 0x5d, 0xae, 0x22, 0x23, 0xb0, 0x03, 0x61, 0xa3, 0x96, 0x17, 0x7a, 0x9c, 0xb4, 0x10, 0xff, 0x61, 0xf2, 0x00, 0x15, 0xad] := by decide +kernel
#print axioms sha2_abc
end Go.Proofs.YtegbcjfceooflaaDoor
end
