/-
  THE WALKS of the document's frames: blotterref01.high, Frame.
-/
import Derived.Test.YthpalohjjkmhdaaRefN
import Derived.Test.YthpalohjjkmhdaaFrm
import Derived.Test.YthpalohjjkmhdaaSumW
import Derived.Test.YthpalohjjkmhdaaSlc
set_option linter.unusedVariables false
namespace Go.Proofs.Ythpalohjjkmhdaa
open Go.RowKit

theorem div_byte (n j : Nat) : (((UInt8.ofNat (n / 256 ^ j)).toNat : Nat) : Int) = ((n : Int) / (2 : Int) ^ (8 * j)) % 256 := by
  have e : (2 : Int) ^ (8 * j) = ((256 ^ j : Nat) : Int) := by
    rw [Int.pow_mul]
    simp
  rw [e]
  simp

set_option maxHeartbeats 1000000 in
theorem high_any (n k : Nat) (w : World) (hn : n ≤ 4294967295) (hk : k ≤ 4) :
    Calls Try.prog 46 #[.int .i64 (n : Int), .int .i64 (k : Int)] w fun e w' => ∃ a' cap' r, e = .returned (.slice a' r.length cap') ∧ Hid (r = be k n) ∧ OwnB w' w.heap.size a' cap' r ∧ Below w.heap.size w w' := by
  go_enter Try.func46, Try.ntmps46
  go_wp2
  go_loopw [5, 6] (fun v i wr => ∃ (j : Nat) (a' : Option Addr) (cap' : Nat) (r : List UInt8), j ≤ k ∧ i = .int .i64 ((j : Int) - 1) ∧ v = .slice a' r.length cap' ∧ Hid (r = be (k - j) (n / 256 ^ j)) ∧ OwnB wr w.heap.size a' cap' r ∧ Below w.heap.size w wr) (fun _ i _ => (intOf i + 1).toNat)
  case atStart =>
    refine ⟨k, none, 0, [], Nat.le_refl _, rfl, rfl, ?_, OwnB.nil _ _, Below.refl _ _⟩
    show _ = _
    simp [be]
  case round =>
    obtain ⟨j, a', cap', r, hj, rfl, rfl, hr, ho', hbl⟩ := hrel
    have hrl : r.length ≤ 4 := by rw [hr.out]; simp [be_length]; omega
    by_cases hj0 : j = 0
    · subst hj0
      go_wp2
      go_ret
      refine ⟨a', cap', r, rfl, ?_, ho', hbl⟩
      show _ = _
      rw [hr.out]
      simp
    · obtain ⟨m, rfl⟩ : ∃ m, j = m + 1 := ⟨j - 1, by omega⟩
      clear hj0
      have hm4 : m ≤ 3 := by omega
      obtain ⟨P, hP⟩ : ∃ P, P = 256 ^ m := ⟨_, rfl⟩
      have hP1 : 1 ≤ P := by rw [hP]; exact Nat.pow_pos (by decide)
      have hP2 : P ≤ 16777216 := by rw [hP]; exact Nat.pow_le_pow_right (n := 256) (by decide) hm4
      have hPw : wrap64 ((2 : Int) ^ (8 * m)) = (P : Int) := by
        have e : (2 : Int) ^ (8 * m) = ((256 ^ m : Nat) : Int) := by rw [Int.pow_mul]; simp
        rw [e, ← hP]
        unfold wrap64
        omega
      obtain ⟨D, hD⟩ : ∃ D, D = n / P := ⟨_, rfl⟩
      have hD2 : D ≤ 4294967295 := by rw [hD]; exact Nat.le_trans (Nat.div_le_self _ _) hn
      have hDw : wrap64 ((n : Int) / (P : Int)) = (D : Int) := by
        have e : (n : Int) / (P : Int) = ((n / P : Nat) : Int) := by simp
        rw [e, ← hD]
        unfold wrap64
        omega
      have hDw2 : (n : Int) / (P : Int) = (D : Int) := by rw [hD]; simp
      have hPz : ((P : Int) == 0) = false := by simp; omega
      have hPz2 : ¬ ((P : Int) = 0) := by omega
      have hPz3 : ¬ (P = 0) := by omega
      obtain ⟨c, hc⟩ : ∃ c : UInt8, c = UInt8.ofNat D := ⟨_, rfl⟩
      have HC : Hid ((c.toNat : Int) = (D : Int) % 256) := by show _ = _; rw [hc, byte_mod]; omega
      have HC2 : Hid (c = UInt8.ofNat (n / 256 ^ m)) := by show _ = _; rw [hc, hD, hP]
      clear hD hP hc
      go_wp2_with (at_builtin; refine wp_app _ rfl _ _ rfl w.heap.size a' cap' r rfl (ho'.alloc _) (some ⟨wr.heap.size, 0, none⟩) 1 [c] 1 rfl rfl (row_lit _ _ _ ?c1) (fun h => by cases h) ?c2 ?c3 ?_)
      case c1 => have := HC.out; omega
      case c2 => simp; omega
      case c3 => have := hbl.size; simp; omega
      intro a2 cap2 r2 w2 hr2 ho2 hg2
      have hlt := ho'.lt
      have hbl2 : Below w.heap.size w w2 := below_grown (hbl.alloc (by have := hbl.size; omega) _) hg2 (Nat.le_refl _) (fun k hk => (hlt k hk).1)
      have HR : Hid (r2 = be (k - m) (n / 256 ^ m)) := by
        show _ = _
        have := be_step k (m + 1) n (by omega) hj
        rw [Nat.add_sub_cancel] at this
        rw [hr2.out, hr.out, this, HC2.out]
      clear hr2 hr hg2 hlt ho' HC2 HC hPw hDw hDw2 hPz hPz2 hPz3
      go_wp2
      go_roundw
      case rel => exact ⟨m, a2, cap2, r2, by omega, by go_num, rfl, HR, ho2, hbl2⟩
      case measure => simp [intOf]

theorem rframe_big (a : Option Addr) (n cap : Nat) (w : World) (hb : 65536 < n) :
    Calls Try.prog 44 #[.slice a n cap] w fun e w' => e = .returned (.tuple #[.slice none 0 0, .int .i64 4]) ∧ w' = w := by
  go_enter Try.func44, Try.ntmps44
  go_wp2
  go_ret2
  exact ⟨rfl, rfl⟩

set_option maxHeartbeats 1000000 in
theorem rframe_ok (a : Option Addr) (n cap : Nat) (l : List UInt8) (w : World) (hB : Bs w a cap l) (hn : n = l.length) (hb : ¬ 65536 < l.length) :
    Calls Try.prog 44 #[.slice a n cap] w fun e w' => ∃ a' cap' r, e = .returned (.tuple #[.slice a' r.length cap', .int .i64 0]) ∧ Hid (r = frameOf l) ∧ OwnB w' w.heap.size a' cap' r ∧ Below w.heap.size w w' := by
  subst hn
  go_enter Try.func44, Try.ntmps44
  go_wp2_with fail
  refine (high_any l.length 3 w (by omega) (by omega)).mono ?_
  rintro e w2 ⟨a2, cap2, r2, rfl, hr2, ho2, hb2⟩
  have hB2 : Bs w2 a cap l := hB.below hb2 (Nat.le_refl _)
  have HL2 : Hid (r2.length = 3) := by show _ = _; rw [hr2.out]; simp [be_length]
  go_wp2_with (at_builtin; refine wp_app _ rfl _ _ rfl w.heap.size a2 cap2 r2 rfl ho2 a cap l _ rfl rfl hB2.row hB2.nz ?c3 hb2.size ?_)
  case c3 => have := HL2.out; omega
  intro a3 cap3 r3 w3 hr3 ho3 hg3
  have hb3 : Below w.heap.size w w3 := below_grown hb2 hg3 (Nat.le_refl _) (fun k hk => (ho2.lt k hk).1)
  have hl3 : r3.length ≤ 65539 := by rw [hr3.out]; have := HL2.out; simp; omega
  have HR3 : Hid (r3 = be 3 l.length ++ l) := by show _ = _; rw [hr3.out, hr2.out]
  clear hg3 hr2 hr3 ho2 hb2 hB2 HL2
  go_wp2_with fail
  refine (rsum a3 cap3 r3 w3 (by unfold maxLen; omega) ho3.toBs.row).mono ?_
  rintro e w3' ⟨rfl, rfl⟩
  have hcl := crc_lt r3
  obtain ⟨C, hC⟩ : ∃ C, crc r3 = C := ⟨_, rfl⟩
  have HC := hide hC
  rw [hC] at hcl ⊢
  clear hC
  go_wp2_with fail
  refine (high_any C 4 _ (by omega) (by omega)).mono ?_
  rintro e w4 ⟨a4, cap4, r4, rfl, hr4, ho4, hb4⟩
  have ho3' := ho3.below hb4 (Nat.le_refl _)
  have hb4' := hb3.trans (hb4.mono hb3.size)
  have HL4 : Hid (r4.length = 4) := by show _ = _; rw [hr4.out]; simp [be_length]
  have hbs4 := ho4.toBs
  go_wp2_with (at_builtin; refine wp_app _ rfl _ _ rfl w.heap.size a3 cap3 r3 rfl ho3' a4 cap4 r4 _ rfl rfl hbs4.row hbs4.nz ?c5 hb4'.size ?_)
  case c5 => have := HL4.out; omega
  intro a5 cap5 r5 w5 hr5 ho5 hg5
  have hb5 : Below w.heap.size w w5 := below_grown hb4' hg5 (Nat.le_refl _) (fun k hk => (ho3'.lt k hk).1)
  have HR5 : Hid (r5 = frameOf l) := by
    show _ = _
    rw [hr5.out, hr4.out, ← HC.out, HR3.out]
    rfl
  clear hr5 hg5 hr4 HR3 HC
  go_wp2
  go_ret2
  exact ⟨a5, cap5, r5, rfl, HR5, ho5, hb5⟩
#print axioms rframe_ok
end Go.Proofs.Ythpalohjjkmhdaa
