/-
  THE WALKS of wire's row of bits: put and take; a letter's number.
-/
import Derived.Test.YtegbcjfceooflaaDoorPkWptsad
import Derived.WalkSpells
import Derived.WalkLawsBesides
import Derived.Deep.QuietTactic
import Derived.BigQuiet
import Derived.BigRegion
section
set_option linter.unusedVariables false
namespace Go.Proofs.YtegbcjfceooflaaDoor
open Go.RowKit

/-- A row of bits in block C: what they say, how many they are. -/
def Bit (w : World) (C h c : Nat) : Prop := w.heap[C]? = some (.cells #[.int .u64 (h : Int), .int .i64 (c : Int)] 105 (0, 0))

theorem Bit.c0 {w : World} {C h c : Nat} (b : Bit w C h c) : w.cell? ⟨C, 0, none⟩ = some (.int .u64 (h : Int)) := by rw [cell_of_row w C 0 _ _ _ b]; rfl
theorem Bit.c1 {w : World} {C h c : Nat} (b : Bit w C h c) : w.cell? ⟨C, 1, none⟩ = some (.int .i64 (c : Int)) := by rw [cell_of_row w C 1 _ _ _ b]; rfl
theorem Bit.fr {w : World} {C h c : Nat} (b : Bit w C h c) (i : Nat) : w.frozen? ⟨C, i, none⟩ = false := frozen_of_row w C i _ _ b
theorem Bit.set0 {w : World} {C h c : Nat} (b : Bit w C h c) (h' : Nat) (x : Int) (hx : x = (h' : Int)) : Bit (w.setCell ⟨C, 0, none⟩ (.int .u64 x)) C h' c := by
  subst hx
  unfold Bit at b ⊢
  simp only [World.setCell, Array.getElem?_modify]
  rw [if_pos trivial, b]
  rfl
theorem Bit.set1 {w : World} {C h c : Nat} (b : Bit w C h c) (c' : Nat) (x : Int) (hx : x = (c' : Int)) : Bit (w.setCell ⟨C, 1, none⟩ (.int .i64 x)) C h c' := by
  subst hx
  unfold Bit at b ⊢
  simp only [World.setCell, Array.getElem?_modify]
  rw [if_pos trivial, b]
  rfl
theorem gset (w : World) (p : Addr) (u : Value) : w.grownBy (w.setCell p u) (some p.block) :=
  ⟨rfl, rfl, rfl, by simp [World.setCell], fun k hk hne => Below.heap_setCell w p u k (by intro h; subst h; exact hne rfl)⟩
theorem gtrans {a b c : World} {row : Option Nat} (h : a.grownBy b row) (k : b.grownBy c row) : a.grownBy c row :=
  ⟨k.os.trans h.os, k.tape.trans h.tape, k.output.trans h.output, Nat.le_trans h.size k.size, fun i hi hne => (k.block i (Nat.lt_of_lt_of_le hi h.size) hne).trans (h.block i hi hne)⟩
theorem gdrewN (w : World) (n : Nat) (row : Option Nat) : w.grownBy (w.drewN n) row := ⟨rfl, rfl, rfl, Nat.le_refl _, fun _ _ _ => rfl⟩

theorem put_or (h x n : Nat) (hh : h < 65536) (hx : x < 2 ^ n) (hn : n ≤ 8) : bits .or .u64 ((h : Int) * 2 ^ n) (x : Int) = ((h * 2 ^ n + x : Nat) : Int) := by
  have hp : 2 ^ n ≤ 2 ^ 8 := Nat.pow_le_pow_right (by decide) hn
  have h1 : h * 2 ^ n ≤ 65535 * 256 := Nat.mul_le_mul (by omega) hp
  have e := u64_or_nat (h * 2 ^ n) x (by omega) (by omega)
  have e2 : h * 2 ^ n ||| x = h * 2 ^ n + x := nat_join n _ _ (Nat.mul_mod_left _ _) hx
  rw [e2] at e
  rw [← e]
  congr 1

set_option maxHeartbeats 1000000 in
theorem put_any (C h c x n : Nat) (w : World) (b : Bit w C h c) (hh : h < 65536) (hc : c ≤ 64) (hx : x < 2 ^ n) (hn : n ≤ 8) :
    Calls Tryd.prog 57 #[.pointer (some ⟨C, 0, none⟩), .int .u64 (x : Int), .int .i64 (n : Int)] w fun e w' => e = .returned (.tuple #[]) ∧ Bit w' C (h * 2 ^ n + x) (c + n) ∧ w.grownBy w' (some C) := by
  have b0 := b.c0
  have b1 := b.c1
  have f0 := b.fr 0
  have f1 := b.fr 1
  have hor := put_or h x n hh hx hn
  have hp : (2 : Nat) ^ n ≤ 2 ^ 8 := Nat.pow_le_pow_right (by decide) hn
  have h1 : h * 2 ^ n ≤ 65535 * 256 := Nat.mul_le_mul (by omega) hp
  obtain ⟨H, hH⟩ : ∃ H : Nat, H = h * 2 ^ n := ⟨_, rfl⟩
  have hHi : (h : Int) * 2 ^ n = (H : Int) := by rw [hH]; simp
  have hHl : H ≤ 16776960 := by omega
  rw [hHi] at hor
  have HB : Hid (Bit ((w.setCell ⟨C, 0, none⟩ (.int .u64 ((h * 2 ^ n + x : Nat) : Int))).setCell ⟨C, 1, none⟩ (.int .i64 ((c : Int) + (n : Int)))) C (h * 2 ^ n + x) (c + n)) := (b.set0 _ _ rfl).set1 _ _ (by omega)
  generalize h * 2 ^ n + x = R at *
  clear hH h1 hp hx
  go_enter Tryd.func57, Tryd.ntmps57
  go_wp2
  go_end0
  exact ⟨rfl, unhide HB, gtrans (gset _ ⟨C, 0, none⟩ _) (gset _ ⟨C, 1, none⟩ _)⟩

theorem take_and (h k : Nat) (hh : h < 16777216) (hk : k ≤ 16) : bits .and .u64 (h : Int) ((2 ^ k - 1 : Nat) : Int) = ((h % 2 ^ k : Nat) : Int) := by
  have hp : 2 ^ k ≤ 2 ^ 16 := Nat.pow_le_pow_right (by decide) hk
  have e := u64_and_nat h (2 ^ k - 1) (by omega) (by omega)
  rw [Nat.and_two_pow_sub_one_eq_mod] at e
  exact e

set_option maxHeartbeats 2000000 in
theorem take_any (C h c n k : Nat) (w : World) (b : Bit w C h c) (hh : h < 16777216) (hc : c = k + n) (hk : k ≤ 16) (hn : n ≤ 8) :
    Calls Tryd.prog 58 #[.pointer (some ⟨C, 0, none⟩), .int .i64 (n : Int)] w fun e w' => e = .returned (.int .u64 ((h / 2 ^ k : Nat) : Int)) ∧ Bit w' C (h % 2 ^ k) k ∧ w.grownBy w' (some C) := by
  have b0 := b.c0
  have b1 := b.c1
  have f0 := b.fr 0
  have f1 := b.fr 1
  have hsub : (c : Int) - (n : Int) = (k : Int) := by omega
  have hand := take_and h k hh hk
  have hp : (2 : Nat) ^ k ≤ 2 ^ 16 := Nat.pow_le_pow_right (by decide) hk
  have hp1 : 1 ≤ 2 ^ k := Nat.pow_pos (by decide)
  obtain ⟨P, hP⟩ : ∃ P : Nat, P = 2 ^ k := ⟨_, rfl⟩
  have hPi : (2 : Int) ^ k = (P : Int) := by rw [hP]; simp
  rw [← hP] at hp hp1 hand ⊢
  obtain ⟨M, hM⟩ : ∃ M : Nat, M = P - 1 := ⟨_, rfl⟩
  rw [← hM] at hand
  have hMi : (P : Int) - 1 = (M : Int) := by omega
  have hMw : IntKind.u64.wrap ((P : Int) - 1) = (M : Int) := by rw [IntKind.wrap_u64]; omega
  have hPw : IntKind.u64.wrap ((2 : Int) ^ k) = (P : Int) := by rw [hPi, IntKind.wrap_u64]; omega
  obtain ⟨Q, hQ⟩ : ∃ Q : Nat, Q = h / P := ⟨_, rfl⟩
  have hQi : (h : Int) / (P : Int) = (Q : Int) := by rw [hQ]; simp
  rw [← hQ]
  obtain ⟨R, hR⟩ : ∃ R : Nat, R = h % P := ⟨_, rfl⟩
  rw [← hR] at hand ⊢
  have hsubw : IntKind.i64.wrap ((c : Int) - (n : Int)) = (k : Int) := by rw [hsub, IntKind.wrap_i64]; omega
  clear hP hM hQ hR hc
  have B1 := b.set1 k (k : Int) rfl
  have g1 := gset w ⟨C, 1, none⟩ (.int .i64 (k : Int))
  go_enter Tryd.func58, Tryd.ntmps58
  go_wp2
  generalize w.setCell ⟨C, 1, none⟩ (.int .i64 (k : Int)) = w1 at B1 g1 ⊢
  have c0 := B1.c0
  have c1 := B1.c1
  have d0 := B1.fr 0
  have d1 := B1.fr 1
  go_quiet (fail)
  go_wp2
  go_region
  go_wp2
  go_ret
  refine ⟨rfl, ?_, ?_⟩
  · have B2 : Bit (w1.drewN (nq + 1)) C h k := B1
    exact B2.set0 R _ rfl
  · exact gtrans g1 (gtrans (gdrewN _ _ _) (gset _ ⟨C, 0, none⟩ _))
end Go.Proofs.YtegbcjfceooflaaDoor
end
