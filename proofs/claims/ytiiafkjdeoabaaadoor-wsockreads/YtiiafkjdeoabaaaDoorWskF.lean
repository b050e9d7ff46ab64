/-
  wsock: fromHighest, readSize.
-/
import Derived.Test.YtiiafkjdeoabaaaDoorWskB
set_option linter.unusedVariables false
namespace Go.Proofs.YtiiafkjdeoabaaaDoor
open Go.RowKit

/-- The number of bytes of which the highest stands first. -/
def fh (l : List UInt8) : Nat := l.foldl (fun a c => a * 256 + c.toNat) 0
theorem fh_snoc (l : List UInt8) (c : UInt8) : fh (l ++ [c]) = fh l * 256 + c.toNat := by simp [fh]
theorem fh_lt' : ∀ (l : List UInt8) (a : Nat), l.foldl (fun a c => a * 256 + c.toNat) a < (a + 1) * 256 ^ l.length
  | [], a => by simp
  | c :: r, a => by
    have ih := fh_lt' r (a * 256 + c.toNat)
    have hc := c.toNat_lt
    rw [List.length_cons, Nat.pow_succ]
    have h1 : (a * 256 + c.toNat + 1) * 256 ^ r.length ≤ ((a + 1) * 256) * 256 ^ r.length := Nat.mul_le_mul_right _ (by omega)
    have h2 : (a + 1) * (256 ^ r.length * 256) = ((a + 1) * 256) * 256 ^ r.length := by rw [Nat.mul_comm (256 ^ r.length) 256, Nat.mul_assoc]
    rw [h2]
    exact Nat.lt_of_lt_of_le ih h1
theorem fh_lt (l : List UInt8) : fh l < 256 ^ l.length := by
  have := fh_lt' l 0
  simpa [fh] using this
theorem fh_take (l : List UInt8) (k : Nat) (h : k < l.length) : fh (l.take (k + 1)) = fh (l.take k) * 256 + l[k].toNat := by
  rw [List.take_add_one, List.getElem?_eq_getElem h]
  exact fh_snoc _ _
theorem shl_orw (N : Nat) (c : UInt8) (h : N < 72057594037927936) : bits .or .u64 ((N : Int) * 256) (c.toNat : Int) = ((N * 256 + c.toNat : Nat) : Int) := by
  have hc : c.toNat < 256 := c.toNat_lt
  have e := u64_or_nat (N * 256) c.toNat (by omega) (by omega)
  have e2 : N * 256 ||| c.toNat = N * 256 + c.toNat := nat_join 8 _ _ (by omega) (by omega)
  rw [e2] at e
  rw [← e]
  congr 1

set_option maxHeartbeats 1000000 in
theorem fh_any (a : Option Addr) (n cap : Nat) (l : List UInt8) (w : World) (hr : Row w a l) (hn : n = l.length) (hl : l.length ≤ 8) :
    Calls Tryd.prog 20 #[.slice a n cap] w fun e w' => e = .returned (.int .u64 (fh l : Nat)) ∧ w' = w := by
  subst hn
  by_cases hne : l = []
  · subst hne
    go_enter Tryd.func20, Tryd.ntmps20
    go_wp2
    refine wp_loop_rounds 1 ?_
    rw [rounds_succ]
    go_wp2
    go_ret
    exact ⟨rfl, rfl⟩
  · obtain ⟨b, off, rfl, hc⟩ := hr hne
    go_enter Tryd.func20, Tryd.ntmps20
    go_wp2
    go_loop [3, 8] (fun c i => ∃ k : Nat, k ≤ l.length ∧ i = .int .i64 k ∧ c = .int .u64 (fh (l.take k) : Nat)) (fun _ i => l.length - (intOf i).toNat)
    case atStart => exact ⟨0, Nat.zero_le _, rfl, rfl⟩
    case round =>
      obtain ⟨k, hk, rfl, rfl⟩ := hrel
      by_cases hlt : k < l.length
      · have hcell := hc k hlt
        have hN : fh (l.take k) < 72057594037927936 := by
          have h1 := fh_lt (l.take k)
          have h2 : (l.take k).length ≤ 7 := by simp; omega
          have h3 := Nat.pow_le_pow_right (show 0 < 256 by decide) h2
          have h4 : (256 : Nat) ^ 7 = 72057594037927936 := by decide
          omega
        have HS : Hid (fh (l.take (k + 1)) = fh (l.take k) * 256 + l[k].toNat) := fh_take l k hlt
        have hgd : l.getD k 0 = l[k] := by simp [hlt]
        rw [hgd] at hcell
        have hbk : l[k].toNat < 256 := l[k].toNat_lt
        have hor := shl_orw (fh (l.take k)) l[k] hN
        generalize hNN : fh (l.take k) = N at *
        clear hNN hgd
        go_wp2
        go_round
        case rel => exact ⟨k + 1, by omega, by go_num, int_eq (by rw [HS.out]; omega)⟩
        case measure => simp [intOf]; omega
      · have e : l.take k = l := List.take_of_length_le (by omega)
        rw [e]
        go_wp2
        go_ret
        exact ⟨rfl, rfl⟩
#print axioms fh_any

/-! ### readSize -/
theorem and127 : ∀ k : Fin 256, bits .and .u8 (k.val : Int) 127 = ((k.val % 128 : Nat) : Int) := by decide +kernel
def szAt (s : Nat) : Nat := if s = 126 then 4 else if s = 127 then 10 else 2
def szLe (s : Nat) : Nat := if s = 126 then 126 else if s = 127 then 65536 else 0
/-- What the second byte says, and those behind it. -/
def szN (B : List UInt8) : Nat := let s := (B.getD 1 0).toNat % 128; if szAt s = 2 then s else fh ((B.take (szAt s)).drop 2)
/-- Why no size is read (0: it is). -/
def szY (B : List UInt8) : Nat := let s := (B.getD 1 0).toNat % 128; if B.length < szAt s then 1 else if szN B < szLe s ∨ 9223372036854775808 ≤ szN B then 1002 else if 16384 < szN B then 1009 else 0
def szA (B : List UInt8) : Nat := if szY B = 0 then szAt ((B.getD 1 0).toNat % 128) else 0
def szS (B : List UInt8) : Nat := if szY B = 0 then szN B else 0
/-- The last part of readSize: of a number. -/
theorem mid_row (a : Option Addr) (cap E H : Nat) (B : List UInt8) (hle : B.length ≤ cap) (h1 : E < H) (h2 : H ≤ B.length) (hrow : ∃ b off, a = some ⟨b, off, none⟩) :
    ∃ a', (∀ w, (Instr.slice 22 (.slice a B.length cap) (some (.int .i64 (E : Int))) (some (.int .i64 (H : Int))) none).run Tryd.prog w = .ok (.slice a' (H - E) (cap - E)) w) ∧ (∀ w, Row w a B → Row w a' ((B.take H).drop E)) ∧ blk a' = blk a := by
  obtain ⟨b, off, rfl⟩ := hrow
  refine ⟨some ⟨b, off + E, none⟩, fun w => slice_mid b off B.length cap E H _ _ w rfl rfl (by omega) (by omega) (by omega), fun w hR => ?_, rfl⟩
  exact (hR.take H).drop E
#print axioms mid_row

/-- What the number says: (size, place, why). -/
def numY (N least : Nat) : Nat := if N < least ∨ 9223372036854775808 ≤ N then 1002 else if 16384 < N then 1009 else 0

set_option maxHeartbeats 2000000 in
theorem rs_any (a : Option Addr) (cap : Nat) (B : List UInt8) (w : World) (hB : Bs w a cap B) (h2 : 2 ≤ B.length) :
    Calls Tryd.prog 13 #[.slice a B.length cap] w fun e w' => e = .returned (.tuple #[.int .i64 (szS B : Nat), .int .i64 (szA B : Nat), .int .i64 (szY B : Nat)]) ∧ w' = w := by
  obtain ⟨b, off, rfl, hc⟩ := hB.row (by intro e; subst e; simp at h2)
  have hle := hB.le
  have hmost := hB.most
  unfold maxLen at hmost
  have c1 := hc 1 (by omega)
  obtain ⟨y, hyy⟩ : ∃ y, B.getD 1 0 = y := ⟨_, rfl⟩
  rw [hyy] at c1
  obtain ⟨s, hs⟩ : ∃ s, s = y.toNat % 128 := ⟨_, rfl⟩
  have hs128 : s < 128 := by rw [hs]; omega
  have ha : bits .and .u8 (y.toNat : Int) 127 = (s : Int) := by rw [hs]; exact and127 ⟨y.toNat, y.toNat_lt⟩
  have HS := hide hs
  have hlen2 : ¬ (B.length : Int) < 2 := by omega
  clear hs hc
  by_cases e6 : s = 126
  · subst e6
    have ha' : bits .and .u8 (y.toNat : Int) 127 = 126 := ha
    have hat : szAt 126 = 4 := rfl
    clear ha
    by_cases h4 : B.length < 4
    · have h4' : (B.length : Int) < 4 := by omega
      have HY : Hid (szY B = 1) := by show _ = _; unfold szY; rw [hyy, ← unhide HS]; simp only [hat]; rw [if_pos h4]
      have HA : Hid (szA B = 0 ∧ szS B = 0) := by show _ ∧ _; unfold szA szS; rw [unhide HY]; exact ⟨rfl, rfl⟩
      clear h4 hyy
      go_enter Tryd.func13, Tryd.ntmps13
      go_wp2
      go_ret3
      exact ⟨by rw [(unhide HA).1, (unhide HA).2, unhide HY]; rfl, rfl⟩
    · have h4' : ¬ (B.length : Int) < 4 := by omega
      obtain ⟨a', hsl, hrw, -⟩ := mid_row (some ⟨b, off, none⟩) cap 2 4 B hle (by omega) (by omega) ⟨b, off, rfl⟩
      have hsl' : (Instr.slice 22 (.slice (some ⟨b, off, none⟩) B.length cap) (some (.int .i64 2)) (some (.int .i64 4)) none).run Tryd.prog w = .ok (.slice a' (4 - 2) (cap - 2)) w := hsl w
      have HRW := hide (hrw w hB.row)
      obtain ⟨N, hN⟩ : ∃ N, N = fh ((B.take 4).drop 2) := ⟨_, rfl⟩
      have HSN : Hid (szN B = N) := by show _ = _; unfold szN; rw [hyy, ← unhide HS]; simp only [hat]; rw [if_neg (by omega)]; exact hN.symm
      have HYN : Hid (szY B = numY N 126) := by show _ = _; unfold szY; rw [hyy, ← unhide HS, unhide HSN]; simp only [hat]; rw [if_neg h4]; rfl
      have hN2 : N < 65536 := by
        have h := fh_lt ((B.take 4).drop 2)
        rw [← hN, show ((B.take 4).drop 2).length = 2 by simp; omega] at h
        simpa using h
      have HNN := hide hN
      clear hN h4 hsl hrw
      go_enter Tryd.func13, Tryd.ntmps13
      go_wp2_with fail
      refine (fh_any a' 2 (cap - 2) ((B.take 4).drop 2) w (unhide HRW) (by simp; omega) (by simp; omega)).mono ?_
      rintro e w1 ⟨rfl, rfl⟩
      rw [← unhide HNN]
      clear HNN HRW
      by_cases n1 : N < 126
      · have n1d : decide ((N : Int) < 126) = true := decide_eq_true (by omega)
        have HY : Hid (szY B = 1002) := by show _ = _; rw [unhide HYN]; unfold numY; rw [if_pos (by omega)]
        have HA : Hid (szA B = 0 ∧ szS B = 0) := by show _ ∧ _; unfold szA szS; rw [unhide HY]; exact ⟨rfl, rfl⟩
        clear HYN HSN hyy
        go_wp2
        go_ret3
        exact ⟨by rw [(unhide HA).1, (unhide HA).2, unhide HY]; rfl, rfl⟩
      · have n1d : decide ((N : Int) < 126) = false := decide_eq_false (by omega)
        have n2d : decide ((9223372036854775808 : Int) ≤ (N : Int)) = false := decide_eq_false (by omega)
        by_cases n3 : 16384 < N
        · have n3d : decide ((16384 : Int) < (N : Int)) = true := decide_eq_true (by omega)
          have HY : Hid (szY B = 1009) := by show _ = _; rw [unhide HYN]; unfold numY; rw [if_neg (by omega), if_pos (by omega)]
          have HA : Hid (szA B = 0 ∧ szS B = 0) := by show _ ∧ _; unfold szA szS; rw [unhide HY]; exact ⟨rfl, rfl⟩
          clear HYN HSN hyy
          go_wp2
          go_ret3
          exact ⟨by rw [(unhide HA).1, (unhide HA).2, unhide HY]; rfl, rfl⟩
        · have n3d : decide ((16384 : Int) < (N : Int)) = false := decide_eq_false (by omega)
          have HY : Hid (szY B = 0) := by show _ = _; rw [unhide HYN]; unfold numY; rw [if_neg (by omega), if_neg (by omega)]
          have HA : Hid (szA B = 4 ∧ szS B = N) := by show _ ∧ _; unfold szA szS; rw [unhide HY, hyy, ← unhide HS, unhide HSN]; exact ⟨rfl, rfl⟩
          clear HYN HSN hyy
          go_wp2
          go_ret3
          exact ⟨by rw [(unhide HA).1, (unhide HA).2, unhide HY]; rfl, rfl⟩
  · by_cases e7 : s = 127
    · subst e7
      have ha' : bits .and .u8 (y.toNat : Int) 127 = 127 := ha
      have hat : szAt 127 = 10 := rfl
      clear ha
      by_cases h4 : B.length < 10
      · have h4' : (B.length : Int) < 10 := by omega
        have HY : Hid (szY B = 1) := by show _ = _; unfold szY; rw [hyy, ← unhide HS]; simp only [hat]; rw [if_pos h4]
        have HA : Hid (szA B = 0 ∧ szS B = 0) := by show _ ∧ _; unfold szA szS; rw [unhide HY]; exact ⟨rfl, rfl⟩
        clear h4 hyy
        go_enter Tryd.func13, Tryd.ntmps13
        go_wp2
        go_ret3
        exact ⟨by rw [(unhide HA).1, (unhide HA).2, unhide HY]; rfl, rfl⟩
      · have h4' : ¬ (B.length : Int) < 10 := by omega
        obtain ⟨a', hsl, hrw, -⟩ := mid_row (some ⟨b, off, none⟩) cap 2 10 B hle (by omega) (by omega) ⟨b, off, rfl⟩
        have hsl' : (Instr.slice 22 (.slice (some ⟨b, off, none⟩) B.length cap) (some (.int .i64 2)) (some (.int .i64 10)) none).run Tryd.prog w = .ok (.slice a' (10 - 2) (cap - 2)) w := hsl w
        have HRW := hide (hrw w hB.row)
        obtain ⟨N, hN⟩ : ∃ N, N = fh ((B.take 10).drop 2) := ⟨_, rfl⟩
        have HSN : Hid (szN B = N) := by show _ = _; unfold szN; rw [hyy, ← unhide HS]; simp only [hat]; rw [if_neg (by omega)]; exact hN.symm
        have HYN : Hid (szY B = numY N 65536) := by show _ = _; unfold szY; rw [hyy, ← unhide HS, unhide HSN]; simp only [hat]; rw [if_neg h4]; rfl
        have hN2 : N < 18446744073709551616 := by
          have h := fh_lt ((B.take 10).drop 2)
          rw [← hN, show ((B.take 10).drop 2).length = 8 by simp; omega] at h
          simpa using h
        have HNN := hide hN
        clear hN h4 hsl hrw
        go_enter Tryd.func13, Tryd.ntmps13
        go_wp2_with fail
        refine (fh_any a' 8 (cap - 2) ((B.take 10).drop 2) w (unhide HRW) (by simp; omega) (by simp; omega)).mono ?_
        rintro e w1 ⟨rfl, rfl⟩
        rw [← unhide HNN]
        clear HNN HRW
        by_cases n1 : N < 65536
        · have n1d : decide ((N : Int) < 65536) = true := decide_eq_true (by omega)
          have HY : Hid (szY B = 1002) := by show _ = _; rw [unhide HYN]; unfold numY; rw [if_pos (by omega)]
          have HA : Hid (szA B = 0 ∧ szS B = 0) := by show _ ∧ _; unfold szA szS; rw [unhide HY]; exact ⟨rfl, rfl⟩
          clear HYN HSN hyy
          go_wp2
          go_ret3
          exact ⟨by rw [(unhide HA).1, (unhide HA).2, unhide HY]; rfl, rfl⟩
        · have n1d : decide ((N : Int) < 65536) = false := decide_eq_false (by omega)
          by_cases n2 : 9223372036854775808 ≤ N
          · have n2d : decide ((9223372036854775808 : Int) ≤ (N : Int)) = true := decide_eq_true (by omega)
            have HY : Hid (szY B = 1002) := by show _ = _; rw [unhide HYN]; unfold numY; rw [if_pos (by omega)]
            have HA : Hid (szA B = 0 ∧ szS B = 0) := by show _ ∧ _; unfold szA szS; rw [unhide HY]; exact ⟨rfl, rfl⟩
            clear HYN HSN hyy
            go_wp2
            go_ret3
            exact ⟨by rw [(unhide HA).1, (unhide HA).2, unhide HY]; rfl, rfl⟩
          · have n2d : decide ((9223372036854775808 : Int) ≤ (N : Int)) = false := decide_eq_false (by omega)
            have n3d : decide ((16384 : Int) < (N : Int)) = true := decide_eq_true (by omega)
            have HY : Hid (szY B = 1009) := by show _ = _; rw [unhide HYN]; unfold numY; rw [if_neg (by omega), if_pos (by omega)]
            have HA : Hid (szA B = 0 ∧ szS B = 0) := by show _ ∧ _; unfold szA szS; rw [unhide HY]; exact ⟨rfl, rfl⟩
            clear HYN HSN hyy
            go_wp2
            go_ret3
            exact ⟨by rw [(unhide HA).1, (unhide HA).2, unhide HY]; rfl, rfl⟩
    · have hat : szAt s = 2 := by unfold szAt; rw [if_neg e6, if_neg e7]
      have hls : szLe s = 0 := by unfold szLe; rw [if_neg e6, if_neg e7]
      have b6 : ((s : Int) == 126) = false := by simp; omega
      have b7 : ((s : Int) == 127) = false := by simp; omega
      have HSN : Hid (szN B = s) := by show _ = _; unfold szN; rw [hyy, ← unhide HS]; simp only [hat]; rfl
      have HY : Hid (szY B = 0) := by show _ = _; unfold szY; rw [hyy, ← unhide HS, unhide HSN]; simp only [hat, hls]; rw [if_neg (by omega), if_neg (by omega), if_neg (by omega)]
      have HA : Hid (szA B = 2 ∧ szS B = s) := by show _ ∧ _; unfold szA szS; rw [unhide HY, hyy, ← unhide HS, unhide HSN]; exact ⟨hat, rfl⟩
      clear HSN hyy e6 e7 hat hls
      go_enter Tryd.func13, Tryd.ntmps13
      go_wp2
      go_ret3
      exact ⟨by rw [(unhide HA).1, (unhide HA).2, unhide HY]; rfl, rfl⟩
#print axioms rs_any
end Go.Proofs.YtiiafkjdeoabaaaDoor
