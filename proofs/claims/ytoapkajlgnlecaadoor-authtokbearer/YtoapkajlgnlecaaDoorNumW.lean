/-
  THE WALKS of wire's numbers: bytesBehind, highestFirst.
-/
import Derived.Test.YtoapkajlgnlecaaDoorLenW
set_option linter.unusedVariables false
namespace Go.Proofs.YtoapkajlgnlecaaDoor
open Go.RowKit

theorem behind_low (x : Int) (w : World) (_h0 : 0 ≤ x) (h1 : x ≤ 247) :
    Calls Tryd.prog 45 #[.int .u64 x] w fun e w' => e = .returned (.int .i64 0) ∧ w' = w := by
  go_enter Tryd.func45, Tryd.ntmps45
  go_wp2
  go_ret
  exact ⟨rfl, rfl⟩
set_option maxHeartbeats 400000 in
theorem behind_high (x : Int) (w : World) (h0 : 248 ≤ x) (h1 : x ≤ 18446744073709551615) :
    Calls Tryd.prog 45 #[.int .u64 x] w fun e w' => e = .returned (.int .i64 (nb x.toNat : Nat)) ∧ w' = w := by
  go_enter Tryd.func45, Tryd.ntmps45
  go_wp2_with fail
  refine (len64_any x w (by omega) h1).mono ?_
  rintro e w' ⟨r, rfl, ⟨hr1, hr2, hr3⟩, rfl⟩
  have HR : Hid ((r + 7) / 8 = (nb x.toNat : Nat)) := hr3
  clear hr3
  go_wp2
  go_ret
  exact ⟨ret_int (by have := HR.out; omega), rfl⟩

theorem shr_byte (n j : Nat) : (((UInt8.ofNat (n / 256 ^ j)).toNat : Nat) : Int) = ((n : Int) / (2 : Int) ^ (8 * j)) % 256 := by
  have e : (2 : Int) ^ (8 * j) = ((256 ^ j : Nat) : Int) := by
    rw [Int.pow_mul]
    simp
  rw [e]
  simp

set_option maxHeartbeats 400000 in
theorem highest_any (a : Option Addr) (cap : Nat) (l : List UInt8) (n k : Nat) (base : Nat) (w : World) (ho : OwnB w base a cap l) (hn : n ≤ 18446744073709551615) (hk : k ≤ 8) (hl : l.length ≤ 1000000) (hb : base ≤ w.heap.size) :
    Calls Tryd.prog 46 #[.slice a l.length cap, .int .u64 (n : Int), .int .i64 (k : Int)] w fun e w' => ∃ a' cap' r, e = .returned (.slice a' r.length cap') ∧ Hid (r = l ++ be k n) ∧ OwnB w' base a' cap' r ∧ Below base w w' := by
  go_enter Tryd.func46, Tryd.ntmps46
  go_wp2
  go_loopw [0, 7] (fun v i wr => ∃ (j : Nat) (a' : Option Addr) (cap' : Nat) (r : List UInt8), j ≤ k ∧ i = .int .i64 ((j : Int) - 1) ∧ v = .slice a' r.length cap' ∧ Hid (r = l ++ be (k - j) (n / 256 ^ j)) ∧ OwnB wr base a' cap' r ∧ Below base w wr) (fun _ i _ => (intOf i + 1).toNat)
  case atStart =>
    refine ⟨k, a, cap, l, Nat.le_refl _, rfl, rfl, ?_, ho, Below.refl _ _⟩
    show _ = _
    simp [be]
  case round =>
    obtain ⟨j, a', cap', r, hj, rfl, rfl, hr, ho', hbl⟩ := hrel
    have hrl : r.length ≤ 1000008 := by rw [hr.out]; simp [be_length]; omega
    by_cases hj0 : j = 0
    · subst hj0
      go_wp2
      go_ret
      refine ⟨a', cap', r, rfl, ?_, ho', hbl⟩
      show _ = _
      rw [hr.out]
      simp
    · obtain ⟨m, rfl⟩ : ∃ m, j = m + 1 := ⟨j - 1, by omega⟩
      clear hj0
      go_wp2_with (at_builtin; refine wp_app _ rfl _ _ rfl base a' cap' r rfl (ho'.alloc _) (some ⟨wr.heap.size, 0, none⟩) 1 [UInt8.ofNat (n / 256 ^ m)] 1 rfl rfl (row_lit _ _ _ ?c1) (fun h => by cases h) ?c2 ?c3 ?_)
      case c1 => exact (shr_byte n m).symm
      case c2 => simp; omega
      case c3 => have := hbl.size; simp; omega
      intro a2 cap2 r2 w2 hr2 ho2 hg2
      have hlt := ho'.lt
      have hbl2 : Below base w w2 := below_grown (hbl.alloc (by have := hbl.size; omega) _) hg2 hb (fun k hk => (hlt k hk).1)
      have HR : Hid (r2 = l ++ be (k - m) (n / 256 ^ m)) := by
        show _ = _
        have := be_step k (m + 1) n (by omega) hj
        rw [Nat.add_sub_cancel] at this
        rw [hr2.out, hr.out, this, List.append_assoc]
      clear hr2 hr hg2 hlt ho'
      go_wp2
      go_roundw
      case rel => exact ⟨m, a2, cap2, r2, by omega, by go_num, rfl, HR, ho2, hbl2⟩
      case measure => simp [intOf]
#print axioms highest_any
end Go.Proofs.YtoapkajlgnlecaaDoor
