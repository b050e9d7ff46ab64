/-
  THE WALKS of the two sums: wire.Sum and the document's answer blotterref01.Sum return the same number, and change nothing.
-/
import Derived.Test.YtmcgghjeocnpnaaGreatDoorPkKewsab
import Derived.Test.YtmcgghjeocnpnaaGreatDoorPkKewsao
import Derived.WalkKit
import Derived.WalkSpells
import Derived.WalkLawsBesides
section
set_option linter.unusedVariables false
namespace Go.Proofs.YtmcgghjeocnpnaaGreatDoor
open Go.RowKit

theorem u32_and1 (N : Nat) (h : N < 4294967296) : bits .and .u32 (N : Int) 1 = ((N % 2 : Nat) : Int) := by
  have := u32_and_nat N 1 h (by decide)
  rw [nat_mask1] at this
  exact this
theorem u32_half (N : Nat) (h : N < 4294967296) : bits .xor .u32 ((N : Int) / 2) 2197175160 = ((N / 2 ^^^ 2197175160 : Nat) : Int) := by
  have := u32_xor_nat (N / 2) 2197175160 (by omega) (by decide)
  exact this
theorem bit1_odd {N : Nat} (h : N % 2 = 1) : bit1 N = N / 2 ^^^ 2197175160 := by simp [bit1, h]
theorem bit1_even {N : Nat} (h : N % 2 = 0) : bit1 N = N / 2 := by simp [bit1, h]
theorem u32_byte (N : Nat) (h : N < 4294967296) (x : UInt8) : bits .xor .u32 (N : Int) ((x.toNat : Int) % 4294967296) = ((N ^^^ x.toNat : Nat) : Int) := by
  have hx := x.toNat_lt
  have := u32_xor_nat N x.toNat h (by omega)
  rw [← this]
  congr 1
  omega
theorem u32_flip (l : List UInt8) : bits .xor .u32 4294967295 (crcS l : Nat) = ((crc l : Nat) : Int) := by
  have := u32_xor_nat 4294967295 (crcS l) (by decide) (crcS_lt l)
  rw [Nat.xor_comm] at this
  exact this

set_option maxHeartbeats 400000 in
theorem wsum_some (b off cap : Nat) (l : List UInt8) (w : World) (hl : l.length ≤ maxLen)
    (hc : ∀ i, i < l.length → w.cell? ⟨b, off + i, none⟩ = some (.int .u8 ((l.getD i 0).toNat : Int))) :
    Calls Tryz.prog 127 #[.slice (some ⟨b, off, none⟩) l.length cap] w fun e w' => e = .returned (.int .u32 (crc l : Nat)) ∧ w' = w := by
  unfold maxLen at hl
  go_enter Tryz.func127, Tryz.ntmps127
  go_wp2
  go_loop [3, 9] (fun c i => ∃ k : Nat, k ≤ l.length ∧ i = .int .i64 k ∧ c = .int .u32 (crcS (l.take k) : Nat)) (fun _ i => l.length - (intOf i).toNat)
  case atStart => exact ⟨0, Nat.zero_le _, rfl, rfl⟩
  case round =>
    obtain ⟨k, hk, rfl, rfl⟩ := hrel
    by_cases hlt : k < l.length
    · have hcell := hc k hlt
      have hlt0 := crcS_lt (l.take k)
      have hx0 := xor8_lt hlt0 l[k]
      have HS : Hid (rep 8 (crcS (l.take k) ^^^ l[k].toNat) = crcS (l.take (k + 1))) := by
        show _ = _
        rw [crcS_take l k hlt]; simp [byte1, hlt]
      have hxb := u32_byte (crcS (l.take k)) hlt0 l[k]
      go_wp2
      go_loop [3, 17] (fun c i => ∃ j : Nat, j ≤ 8 ∧ i = .int .i64 j ∧ c = .int .u32 (rep j (crcS (l.take k) ^^^ l[k].toNat) : Nat)) (fun _ i => 8 - (intOf i).toNat)
      case atStart => exact ⟨0, Nat.zero_le _, rfl, rfl⟩
      case round =>
        obtain ⟨j, hj, rfl, rfl⟩ := hrel
        have hN := rep_lt hx0 j
        have HR : Hid (rep (j + 1) (crcS (l.take k) ^^^ l[k].toNat) = bit1 (rep j (crcS (l.take k) ^^^ l[k].toNat))) := rfl
        by_cases hj8 : j < 8
        · generalize hNN : rep j (crcS (l.take k) ^^^ l[k].toNat) = N at *
          clear hNN
          have hand := u32_and1 N hN
          have hhalf := u32_half N hN
          rcases Nat.mod_two_eq_zero_or_one N with h2 | h2
          · have H2 : Hid (bit1 N = N / 2) := bit1_even h2
            have hb : (((N % 2 : Nat) : Int) == 1) = false := by simp [h2]
            clear h2
            go_wp2
            go_round
            case rel => exact ⟨j + 1, by omega, by go_num, int_eq (by rw [HR.out, H2.out]; omega)⟩
            case measure => simp [intOf]; omega
          · have H2 : Hid (bit1 N = N / 2 ^^^ 2197175160) := bit1_odd h2
            have hb : (((N % 2 : Nat) : Int) == 1) = true := by simp [h2]
            clear h2
            go_wp2
            go_round
            case rel => exact ⟨j + 1, by omega, by go_num, int_eq (by rw [HR.out, H2.out])⟩
            case measure => simp [intOf]; omega
        · have h8 : j = 8 := by omega
          subst h8
          go_wp2
          go_round
          case rel => exact ⟨k + 1, by omega, by go_num, int_eq (by rw [HS.out])⟩
          case measure => simp [intOf]; omega
    · have e : l.take k = l := List.take_of_length_le (by omega)
      rw [e]
      have hcr := u32_flip l
      go_wp2
      go_ret
      exact ⟨ret_int (by first | rfl | exact u32_flip l), rfl⟩

set_option maxHeartbeats 400000 in
theorem wsum_none (a : Option Addr) (cap : Nat) (w : World) :
    Calls Tryz.prog 127 #[.slice a 0 cap] w fun e w' => e = .returned (.int .u32 (crc [] : Nat)) ∧ w' = w := by
  have hcr := u32_flip []
  go_enter Tryz.func127, Tryz.ntmps127
  go_wp2
  refine wp_loop_rounds 1 ?_
  rw [rounds_succ]
  go_wp2
  go_ret
  exact ⟨ret_int (by first | rfl | exact u32_flip []), rfl⟩

theorem wsum (a : Option Addr) (cap : Nat) (l : List UInt8) (w : World) (hl : l.length ≤ maxLen) (hr : Row w a l) :
    Calls Tryz.prog 127 #[.slice a l.length cap] w fun e w' => e = .returned (.int .u32 (crc l : Nat)) ∧ w' = w := by
  by_cases h : l = []
  · subst h; exact wsum_none a cap w
  · obtain ⟨b, off, rfl, hc⟩ := hr h
    exact wsum_some b off cap l w hl hc

#print axioms wsum
end Go.Proofs.YtmcgghjeocnpnaaGreatDoor
end
