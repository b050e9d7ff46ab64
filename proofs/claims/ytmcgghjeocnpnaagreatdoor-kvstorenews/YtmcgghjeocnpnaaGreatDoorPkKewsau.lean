/-
  THE WALKS of wire's fromHighest, sumBytes.
-/
import Derived.Test.YtmcgghjeocnpnaaGreatDoorPkKewsao
import Derived.Test.YtmcgghjeocnpnaaGreatDoorPkKewsat
import Derived.Test.YtmcgghjeocnpnaaGreatDoorPkKewsae
section
set_option linter.unusedVariables false
namespace Go.Proofs.YtmcgghjeocnpnaaGreatDoor
open Go.RowKit

theorem shl_or (N : Nat) (c : UInt8) (h : N < 72057594037927936) : bits .or .u64 ((N : Int) * 256) (c.toNat : Int) = ((N * 256 + c.toNat : Nat) : Int) := by
  have hc : c.toNat < 256 := c.toNat_lt
  have e := u64_or_nat (N * 256) c.toNat (by omega) (by omega)
  have e2 : N * 256 ||| c.toNat = N * 256 + c.toNat := nat_join 8 _ _ (by omega) (by omega)
  rw [e2] at e
  rw [← e]
  congr 1

set_option maxHeartbeats 1000000 in
theorem fromHighest_any (a : Option Addr) (n cap : Nat) (l : List UInt8) (w : World) (hr : Row w a l) (hn : n = l.length) (hl : l.length ≤ 8) :
    Calls Tryz.prog 162 #[.slice a n cap] w fun e w' => e = .returned (.int .u64 (ofBe l : Nat)) ∧ w' = w := by
  subst hn
  by_cases hne : l = []
  · subst hne
    go_enter Tryz.func162, Tryz.ntmps162
    go_wp2
    refine wp_loop_rounds 1 ?_
    rw [rounds_succ]
    go_wp2
    go_ret
    exact ⟨rfl, rfl⟩
  · obtain ⟨b, off, rfl, hc⟩ := hr hne
    go_enter Tryz.func162, Tryz.ntmps162
    go_wp2
    go_loop [3, 8] (fun c i => ∃ k : Nat, k ≤ l.length ∧ i = .int .i64 k ∧ c = .int .u64 (ofBe (l.take k) : Nat)) (fun _ i => l.length - (intOf i).toNat)
    case atStart => exact ⟨0, Nat.zero_le _, rfl, rfl⟩
    case round =>
      obtain ⟨k, hk, rfl, rfl⟩ := hrel
      by_cases hlt : k < l.length
      · have hcell := hc k hlt
        have hN : ofBe (l.take k) < 72057594037927936 := by
          have h1 := ofBe_lt (l.take k)
          have h2 : (l.take k).length ≤ 7 := by simp; omega
          have h3 := Nat.pow_le_pow_right (show 0 < 256 by decide) h2
          have h4 : (256 : Nat) ^ 7 = 72057594037927936 := by decide
          omega
        have HS : Hid (ofBe (l.take (k + 1)) = ofBe (l.take k) * 256 + l[k].toNat) := by
          show _ = _
          rw [ofBe_take l k hlt]
          simp [hlt]
        have hbk : l[k].toNat < 256 := l[k].toNat_lt
        have hor := shl_or (ofBe (l.take k)) l[k] hN
        generalize hNN : ofBe (l.take k) = N at *
        clear hNN
        go_wp2
        go_round
        case rel => exact ⟨k + 1, by omega, by go_num, int_eq (by rw [HS.out]; omega)⟩
        case measure => simp [intOf]; omega
      · have e : l.take k = l := List.take_of_length_le (by omega)
        rw [e]
        go_wp2
        go_ret
        exact ⟨rfl, rfl⟩

theorem be4 (C : Nat) : be 4 C = [UInt8.ofNat (C / 16777216), UInt8.ofNat (C / 65536), UInt8.ofNat (C / 256), UInt8.ofNat C] := by
  simp [be, Nat.div_div_eq_div_mul]
theorem byte_of (n : Nat) : ((UInt8.ofNat n).toNat : Int) = (n : Int) % 256 := by simp

set_option maxHeartbeats 1000000 in
theorem sumBytes_any (a : Option Addr) (n cap : Nat) (l : List UInt8) (w : World) (hr : Row w a l) (hn : n = l.length) (hl : l.length ≤ 1000000) :
    Calls Tryz.prog 95 #[.slice a n cap] w fun e w' => ∃ c0 c1 c2 c3 : UInt8, Hid ([c0, c1, c2, c3] = be 4 (crc l)) ∧
      e = .returned (.agg #[.int .u8 (c0.toNat : Int), .int .u8 (c1.toNat : Int), .int .u8 (c2.toNat : Int), .int .u8 (c3.toNat : Int)]) ∧
      w' = w.alloc (.cells #[.int .u8 (c0.toNat : Int), .int .u8 (c1.toNat : Int), .int .u8 (c2.toNat : Int), .int .u8 (c3.toNat : Int)] 152) := by
  subst hn
  have hc := crc_lt l
  have hs := fun wx (hrx : Row wx a l) => wsum a cap l wx (by unfold maxLen; omega) hrx
  generalize crc l = C at hc hs ⊢
  have HS : Hid (∀ wx, Row wx a l → Calls Tryz.prog 127 #[.slice a l.length cap] wx fun e w' => e = .returned (.int .u32 (C : Nat)) ∧ w' = wx) := hs
  clear hs
  have q0 : (C : Int) / 16777216 = ((UInt8.ofNat (C / 16777216)).toNat : Int) := by rw [byte_of]; omega
  have q1 : (C : Int) / 65536 % 256 = ((UInt8.ofNat (C / 65536)).toNat : Int) := by rw [byte_of]; omega
  have q2 : (C : Int) / 256 % 256 = ((UInt8.ofNat (C / 256)).toNat : Int) := by rw [byte_of]; omega
  have q3 : (C : Int) % 256 = ((UInt8.ofNat C).toNat : Int) := by rw [byte_of]
  have QQ : Hid ((C : Int) / 16777216 = ((UInt8.ofNat (C / 16777216)).toNat : Int) ∧ (C : Int) / 65536 % 256 = ((UInt8.ofNat (C / 65536)).toNat : Int) ∧ (C : Int) / 256 % 256 = ((UInt8.ofNat (C / 256)).toNat : Int) ∧ (C : Int) % 256 = ((UInt8.ofNat C).toNat : Int)) := ⟨q0, q1, q2, q3⟩
  clear q0 q1 q2 q3
  go_enter Tryz.func95, Tryz.ntmps95
  go_wp2_with fail
  refine (HS.out _ (hr.alloc _)).mono ?_
  rintro e w' ⟨rfl, rfl⟩
  go_wp2
  obtain ⟨q0, q1, q2, q3⟩ := QQ.out
  rw [q0, q1, q2, q3]
  refine bodyPost_ret (v := .agg #[.int .u8 ((UInt8.ofNat (C / 16777216)).toNat : Int), .int .u8 ((UInt8.ofNat (C / 65536)).toNat : Int), .int .u8 ((UInt8.ofNat (C / 256)).toNat : Int), .int .u8 ((UInt8.ofNat C).toNat : Int)]) ?_ rfl ⟨_, _, _, _, (be4 C).symm, rfl, rfl⟩
  generalize ((UInt8.ofNat (C / 16777216)).toNat : Int) = z0
  generalize ((UInt8.ofNat (C / 65536)).toNat : Int) = z1
  generalize ((UInt8.ofNat (C / 256)).toNat : Int) = z2
  generalize ((UInt8.ofNat C).toNat : Int) = z3
  simp [results, Tryz.results95, go_sem]

theorem row_four (w : World) (c0 c1 c2 c3 : UInt8) (t : TypeId) (fr : Nat × Nat) : Row (w.alloc (.cells #[.int .u8 (c0.toNat : Int), .int .u8 (c1.toNat : Int), .int .u8 (c2.toNat : Int), .int .u8 (c3.toNat : Int)] t fr)) (some ⟨w.heap.size, 0, none⟩) [c0, c1, c2, c3] := by
  intro _
  refine ⟨w.heap.size, 0, rfl, fun i hi => ?_⟩
  have hi' : i < 4 := hi
  rw [cell_of_row _ w.heap.size _ _ _ _ (heap_alloc_new w _)]
  match i, hi' with
  | 0, _ => rfl
  | 1, _ => rfl
  | 2, _ => rfl
  | 3, _ => rfl

theorem frame_big (a : Option Addr) (n cap : Nat) (w : World) (hb : 65536 < n) :
    Calls Tryz.prog 63 #[.slice a n cap] w fun e w' => e = .returned (.tuple #[.slice none 0 0, .int .i64 4]) ∧ w' = w := by
  go_enter Tryz.func63, Tryz.ntmps63
  go_wp2
  go_ret2
  exact ⟨rfl, rfl⟩
#print axioms sumBytes_any
end Go.Proofs.YtmcgghjeocnpnaaGreatDoor
end
