/-
  THE WALKS of wire's cursor: its parts.; THE WALKS of wire's cursor: From, Number, Text, Rest, End, At, Byte.; THE WALKS of the reference's Read and of its cursor.; THE WALKS of the reference's cursor.
-/
import Derived.Test.YthhcaalafacjlaaDoorPkAadsal
import Derived.Test.YthhcaalafacjlaaDoorPkAadsam
import Derived.Test.YthhcaalafacjlaaDoorPkAadsan
import Derived.Test.YthhcaalafacjlaaDoorPkAadsad
import Derived.Deep.QuietTactic
import Derived.BigQuiet
section
set_option linter.unusedVariables false
namespace Go.Proofs.YthhcaalafacjlaaDoor
open Go.RowKit

/-- A cursor in block C over the bytes l, of which so many were read. -/
structure Cur (w : World) (C : Nat) (a : Option Addr) (cap : Nat) (l : List UInt8) (at' : Nat) : Prop where
  hp : w.heap[C]? = some (.cells #[.int .i64 (at' : Int), .slice a l.length cap, .bool true] 106 (0, 0))
  bs : Bs w a cap l
  le : at' ≤ l.length
  ne : l ≠ [] → blk a ≠ some C
  small : l.length ≤ 100000000

theorem Cur.c0 {w : World} {C : Nat} {a : Option Addr} {cap : Nat} {l : List UInt8} {at' : Nat} (h : Cur w C a cap l at') : w.cell? ⟨C, 0, none⟩ = some (.int .i64 (at' : Int)) := by
  rw [cell_of_row w C 0 _ _ _ h.hp]; rfl
theorem Cur.c1 {w : World} {C : Nat} {a : Option Addr} {cap : Nat} {l : List UInt8} {at' : Nat} (h : Cur w C a cap l at') : w.cell? ⟨C, 1, none⟩ = some (.slice a l.length cap) := by
  rw [cell_of_row w C 1 _ _ _ h.hp]; rfl
theorem Cur.c2 {w : World} {C : Nat} {a : Option Addr} {cap : Nat} {l : List UInt8} {at' : Nat} (h : Cur w C a cap l at') : w.cell? ⟨C, 2, none⟩ = some (.bool true) := by
  rw [cell_of_row w C 2 _ _ _ h.hp]; rfl
theorem Cur.fr {w : World} {C : Nat} {a : Option Addr} {cap : Nat} {l : List UInt8} {at' : Nat} (h : Cur w C a cap l at') (i : Nat) : w.frozen? ⟨C, i, none⟩ = false := frozen_of_row w C i _ _ h.hp

set_option maxHeartbeats 400000 in
theorem unmade_made (C : Nat) (a : Option Addr) (cap : Nat) (l : List UInt8) (at' : Nat) (w : World) (hC : Cur w C a cap l at') :
    Calls Tryd.prog 66 #[.pointer (some ⟨C, 0, none⟩)] w fun e w' => e = .returned (.bool false) ∧ w' = w := by
  have h2 := hC.c2
  go_enter Tryd.func66, Tryd.ntmps66
  go_wp2
  go_ret
  exact ⟨rfl, rfl⟩

theorem drewN_bs {w : World} {a : Option Addr} {cap : Nat} {l : List UInt8} (h : Bs w a cap l) (n : Nat) : Bs (w.drewN n) a cap l := h.below (below_drewN (Below.refl w.heap.size w) n) (Nat.le_refl _)

set_option maxHeartbeats 1000000 in
theorem left_any (C : Nat) (a : Option Addr) (cap : Nat) (l : List UInt8) (at' : Nat) (w : World) (hC : Cur w C a cap l at') :
    Calls Tryd.prog 68 #[.pointer (some ⟨C, 0, none⟩)] w fun e w' => ∃ a' n, e = .returned (.slice a' (l.drop at').length (cap - at')) ∧ Bs w' a' (cap - at') (l.drop at') ∧ blk a' = blk a ∧ w' = w.drewN n := by
  have h0 := hC.c0
  have h1 := hC.c1
  have hle := hC.le
  have hcap := hC.bs.le
  have hm := hC.bs.most
  unfold maxLen at hm
  have hB := hide hC.bs
  rw [List.length_drop]
  by_cases hne : cap = at'
  · have hd : l.drop at' = [] := List.drop_of_length_le (by omega)
    rw [hd, show l.length - at' = 0 by omega, show cap - at' = 0 by omega]
    have hnz := hC.bs.nz
    subst hne
    go_enter Tryd.func68, Tryd.ntmps68
    go_wp2
    go_quiet (fail)
    go_wp2
    go_ret
    refine ⟨a, nq, rfl, ⟨fun h => absurd rfl h, by simp, by unfold maxLen; omega, fun h => rfl⟩, rfl, rfl⟩
  · cases a with
    | none => exact absurd (show cap = at' by have := hC.bs.nz rfl; omega) hne
    | some ad =>
      by_cases hl : l = []
      · subst hl
        have ha0 : at' = 0 := by simp at hle; exact hle
        subst ha0
        go_enter Tryd.func68, Tryd.ntmps68
        go_wp2
        go_quiet (fail)
        go_wp2
        go_ret
        refine ⟨_, nq, rfl, ⟨fun h => absurd rfl h, by simp, by unfold maxLen; omega, fun h => by cases h⟩, rfl, rfl⟩
      · obtain ⟨b, off, hh, hc⟩ := hC.bs.row hl
        obtain rfl := Option.some.inj hh
        go_enter Tryd.func68, Tryd.ntmps68
        go_wp2
        go_quiet (fail)
        go_wp2
        go_ret
        refine ⟨some ⟨b, off + at', none⟩, nq, rfl, ⟨(drewN_bs (unhide hB) nq).row.drop at', by simp; omega, by unfold maxLen; omega, fun h => by cases h⟩, rfl, rfl⟩

set_option maxHeartbeats 400000 in
theorem forward_any (C : Nat) (x n : Int) (w : World) (h0 : w.cell? ⟨C, 0, none⟩ = some (.int .i64 x)) (hf : w.frozen? ⟨C, 0, none⟩ = false) (hx0 : 0 ≤ x) (hn0 : 0 ≤ n) (hx : x ≤ 1000000000) (hn : n ≤ 1000000000) :
    Calls Tryd.prog 69 #[.pointer (some ⟨C, 0, none⟩), .int .i64 n] w fun e w' => e = .returned (.tuple #[]) ∧ w' = w.setCell ⟨C, 0, none⟩ (.int .i64 (x + n)) := by
  go_enter Tryd.func69, Tryd.ntmps69
  go_wp2
  go_end0
  exact ⟨rfl, rfl⟩

set_option maxHeartbeats 1000000 in
theorem first_none (a : Option Addr) (cap : Nat) (w : World) :
    Calls Tryd.prog 67 #[.slice a 0 cap] w fun e w' => e = .returned (.tuple #[.int .i64 0, .int .i64 0, .int .i64 2]) ∧ w' = w := by
  go_enter Tryd.func67, Tryd.ntmps67
  go_wp2
  go_ret3
  exact ⟨rfl, rfl⟩

set_option maxHeartbeats 1000000 in
theorem first_low (b off n cap : Nat) (c : UInt8) (w : World) (hn : 1 ≤ n) (h0 : w.cell? ⟨b, off, none⟩ = some (.int .u8 (c.toNat : Int))) (hc : c.toNat ≤ 247) :
    Calls Tryd.prog 67 #[.slice (some ⟨b, off, none⟩) n cap] w fun e w' => e = .returned (.tuple #[.int .i64 (c.toNat : Int), .int .i64 1, .int .i64 0]) ∧ w' = w := by
  have hnz : ((n : Int) == 0) = false := by simp; omega
  have hnp : (0 : Int) < (n : Int) := by omega
  generalize c.toNat = x at *
  go_enter Tryd.func67, Tryd.ntmps67
  go_wp2
  go_ret3
  exact ⟨rfl, rfl⟩

set_option maxHeartbeats 1000000 in
theorem first_short (b off n cap : Nat) (c : UInt8) (w : World) (hn : 1 ≤ n) (h0 : w.cell? ⟨b, off, none⟩ = some (.int .u8 (c.toNat : Int))) (hc : 248 ≤ c.toNat) (hs : n < 1 + (c.toNat - 247)) :
    Calls Tryd.prog 67 #[.slice (some ⟨b, off, none⟩) n cap] w fun e w' => e = .returned (.tuple #[.int .i64 0, .int .i64 0, .int .i64 2]) ∧ w' = w := by
  have hnz : ((n : Int) == 0) = false := by simp; omega
  have hnp : (0 : Int) < (n : Int) := by omega
  have hc256 : c.toNat < 256 := c.toNat_lt
  obtain ⟨k, hk⟩ : ∃ k, c.toNat = 247 + k := ⟨c.toNat - 247, by omega⟩
  have hk1 : 1 ≤ k := by omega
  have hk2 : k ≤ 8 := by omega
  have hs2 : n < 1 + k := by omega
  obtain ⟨x, hx⟩ : ∃ x : Int, x = (c.toNat : Int) := ⟨_, rfl⟩
  rw [← hx] at h0
  have hx1 : 248 ≤ x := by omega
  have hx2 : x ≤ 255 := by omega
  have hxk : x - 247 = (k : Int) := by omega
  clear hx hk hs hc hc256
  go_enter Tryd.func67, Tryd.ntmps67
  go_wp2
  go_ret3
  exact ⟨rfl, rfl⟩

theorem behind_any (N : Nat) (w : World) (h : N ≤ 18446744073709551615) :
    Calls Tryd.prog 56 #[.int .u64 (N : Int)] w fun e w' => e = .returned (.int .i64 (bb N : Nat)) ∧ w' = w := by
  by_cases h1 : N ≤ 247
  · rw [bb, if_pos h1]
    exact behind_low _ _ (by omega) (by omega)
  · rw [bb, if_neg h1]
    have := behind_high (N : Int) w (by omega) (by omega)
    rw [Int.toNat_natCast] at this
    exact this

/-- What stands behind the first byte is there: the answer hangs on the number. -/
def rdk (N k : Nat) : Nat × Nat × Nat := if bb N < k then (0, 0, 10) else if 9223372036854775807 < N then (0, 0, 5) else (N, k + 1, 0)

set_option maxHeartbeats 1000000 in
theorem first_high (b off cap : Nat) (l : List UInt8) (c : UInt8) (k : Nat) (w : World) (hB : Bs w (some ⟨b, off, none⟩) cap l) (h0 : w.cell? ⟨b, off, none⟩ = some (.int .u8 (c.toNat : Int))) (hk : c.toNat = 247 + k) (hk1 : 1 ≤ k) (hs : ¬ l.length < 1 + k) :
    Calls Tryd.prog 67 #[.slice (some ⟨b, off, none⟩) l.length cap] w fun e w' => e = .returned (.tuple #[.int .i64 ((rdk (ofBe ((l.drop 1).take k)) k).1 : Nat), .int .i64 ((rdk (ofBe ((l.drop 1).take k)) k).2.1 : Nat), .int .i64 ((rdk (ofBe ((l.drop 1).take k)) k).2.2 : Nat)]) ∧ w' = w := by
  have hle := hB.le
  have hm := hB.most
  unfold maxLen at hm
  have hnz : ((l.length : Int) == 0) = false := by rw [beq_eq_false_iff_ne]; omega
  have hnp : (0 : Int) < (l.length : Int) := by omega
  have hc256 : c.toNat < 256 := c.toNat_lt
  have hk2 : k ≤ 8 := by omega
  obtain ⟨x, hx⟩ : ∃ x : Int, x = (c.toNat : Int) := ⟨_, rfl⟩
  rw [← hx] at h0
  have hx1 : 248 ≤ x := by omega
  have hx2 : x ≤ 255 := by omega
  have hxk : x - 247 = (k : Int) := by omega
  have hcap : 1 + k ≤ cap := by omega
  have hcap1 : ¬ cap = 1 := by omega
  have hlen : k = ((l.drop 1).take k).length := by rw [List.length_take, List.length_drop]; omega
  have hrow : Row w (some ⟨b, off + 1, none⟩) ((l.drop 1).take k) := (hB.row.drop 1).take k
  have hf := fromHighest_any (some ⟨b, off + 1, none⟩) k (cap - 1) ((l.drop 1).take k) w hrow hlen (by rw [← hlen]; omega)
  have hN : ofBe ((l.drop 1).take k) ≤ 18446744073709551615 := by
    have h1 := ofBe_lt ((l.drop 1).take k)
    rw [← hlen] at h1
    have h2 := Nat.pow_le_pow_right (show 0 < 256 by decide) hk2
    have h4 : (256 : Nat) ^ 8 = 18446744073709551616 := by decide
    omega
  generalize ofBe ((l.drop 1).take k) = N at *
  have hbv := behind_any N w hN
  have hfh := hide hf
  have hbh := hide hbv
  have hN' : (N : Int) ≤ 18446744073709551615 := by omega
  have hN0 : (0 : Int) ≤ (N : Int) := by omega
  obtain ⟨y, hy⟩ : ∃ y : Int, y = (N : Int) := ⟨_, rfl⟩
  rw [← hy] at hfh hbh hN' hN0
  have HY := hide hy
  have hbbl : bb N ≤ 8 := by
    have := nb_pos N
    unfold bb
    split <;> omega
  clear hf hbv hrow hlen hx hk hc256 hN hy
  by_cases h1 : bb N < k
  · rw [rdk, if_pos h1]
    go_enter Tryd.func67, Tryd.ntmps67
    go_wp2_with fail
    refine (unhide hfh).mono ?_
    rintro e w1 ⟨rfl, rfl⟩
    go_wp2_with fail
    refine (unhide hbh).mono ?_
    rintro e w1 ⟨rfl, rfl⟩
    go_wp2
    go_ret3
    exact ⟨rfl, rfl⟩
  · by_cases h2 : 9223372036854775807 < N
    · have h2' : 9223372036854775807 < y := by have := HY.out; omega
      rw [rdk, if_neg h1, if_pos h2]
      clear h2
      go_enter Tryd.func67, Tryd.ntmps67
      go_wp2_with fail
      refine (unhide hfh).mono ?_
      rintro e w1 ⟨rfl, rfl⟩
      go_wp2_with fail
      refine (unhide hbh).mono ?_
      rintro e w1 ⟨rfl, rfl⟩
      go_wp2
      go_ret3
      exact ⟨rfl, rfl⟩
    · have h2' : ¬ 9223372036854775807 < y := by have := HY.out; omega
      rw [rdk, if_neg h1, if_neg h2]
      clear h2
      go_enter Tryd.func67, Tryd.ntmps67
      go_wp2_with fail
      refine (unhide hfh).mono ?_
      rintro e w1 ⟨rfl, rfl⟩
      go_wp2_with fail
      refine (unhide hbh).mono ?_
      rintro e w1 ⟨rfl, rfl⟩
      go_wp2
      go_ret3
      refine ⟨?_, rfl⟩
      have e1 : (1 : Int) + (k : Int) = ((k + 1 : Nat) : Int) := by omega
      have e2 := HY.out
      simp [e2]
      try omega

/-- wire.firstNumber. -/
theorem first_any (a : Option Addr) (n cap : Nat) (l : List UInt8) (w : World) (hB : Bs w a cap l) (hn : n = l.length) :
    Calls Tryd.prog 67 #[.slice a n cap] w fun e w' => ∃ N S E : Nat, e = .returned (.tuple #[.int .i64 (N : Int), .int .i64 (S : Int), .int .i64 (E : Int)]) ∧ Hid ((N, S, E) = rd l) ∧ w' = w := by
  subst hn
  cases l with
  | nil =>
    refine (first_none a cap w).mono ?_
    rintro e w' ⟨rfl, rfl⟩
    exact ⟨0, 0, 2, rfl, rfl, rfl⟩
  | cons c t =>
    obtain ⟨b, off, rfl, hc⟩ := hB.row (by simp)
    have h0 : w.cell? ⟨b, off, none⟩ = some (.int .u8 (c.toNat : Int)) := by simpa using hc 0 (by simp)
    by_cases h1 : c.toNat ≤ 247
    · refine (first_low b off _ cap c w (by simp) h0 h1).mono ?_
      rintro e w' ⟨rfl, rfl⟩
      exact ⟨c.toNat, 1, 0, rfl, by show _ = _; simp only [rd, if_pos h1], rfl⟩
    · by_cases h2 : t.length < c.toNat - 247
      · refine (first_short b off _ cap c w (by simp) h0 (by omega) (by simp; omega)).mono ?_
        rintro e w' ⟨rfl, rfl⟩
        exact ⟨0, 0, 2, rfl, by show _ = _; simp only [rd, if_neg h1, if_pos h2], rfl⟩
      · refine (first_high b off cap (c :: t) c (c.toNat - 247) w hB h0 (by omega) (by omega) (by simp; omega)).mono ?_
        rintro e w' ⟨rfl, rfl⟩
        refine ⟨_, _, _, rfl, ?_, rfl⟩
        show _ = _
        simp only [rd, if_neg h1, if_neg h2, rdk, List.drop_succ_cons, List.drop_zero]

#print axioms first_any
#print axioms left_any
end Go.Proofs.YthhcaalafacjlaaDoor
end
section
set_option linter.unusedVariables false
namespace Go.Proofs.YthhcaalafacjlaaDoor
open Go.RowKit

theorem grownBy_drewN (w : World) (n : Nat) (row : Option Nat) : w.grownBy (w.drewN n) row := ⟨rfl, rfl, rfl, Nat.le_refl _, fun _ _ _ => rfl⟩
theorem grownBy_trans {a b c : World} {row : Option Nat} (h : a.grownBy b row) (k : b.grownBy c row) : a.grownBy c row :=
  ⟨k.os.trans h.os, k.tape.trans h.tape, k.output.trans h.output, Nat.le_trans h.size k.size, fun i hi hne => (k.block i (Nat.lt_of_lt_of_le hi h.size) hne).trans (h.block i hi hne)⟩
theorem grownBy_set (w : World) (p : Addr) (u : Value) : w.grownBy (w.setCell p u) (some p.block) :=
  ⟨rfl, rfl, rfl, by simp [World.setCell], fun k hk hne => Below.heap_setCell w p u k (by intro h; subst h; exact hne rfl)⟩

theorem Cur.below {w w' : World} {C B : Nat} {a : Option Addr} {cap : Nat} {l : List UInt8} {at' : Nat} (h : Cur w C a cap l at') (hb : Below B w w') (hB : w.heap.size ≤ B) : Cur w' C a cap l at' := by
  have hC : C < w.heap.size := (Array.getElem?_eq_some_iff.1 h.hp).1
  exact ⟨by rw [hb.block C (by omega)]; exact h.hp, h.bs.below hb hB, h.le, h.ne, h.small⟩

theorem Cur.drewN {w : World} {C : Nat} {a : Option Addr} {cap : Nat} {l : List UInt8} {at' : Nat} (h : Cur w C a cap l at') (n : Nat) : Cur (w.drewN n) C a cap l at' := h.below (below_drewN (Below.refl w.heap.size w) n) (Nat.le_refl _)

theorem Cur.moved {w : World} {C : Nat} {a : Option Addr} {cap : Nat} {l : List UInt8} {at' : Nat} (h : Cur w C a cap l at') (n : Nat) (hn : n ≤ l.length) (x : Int) (hx : x = (n : Int)) : Cur (w.setCell ⟨C, 0, none⟩ (.int .i64 x)) C a cap l n := by
  subst hx
  refine ⟨?_, ?_, hn, h.ne, h.small⟩
  · have hC : C < w.heap.size := (Array.getElem?_eq_some_iff.1 h.hp).1
    simp only [World.setCell, Array.getElem?_modify]
    rw [if_pos trivial, h.hp]
    rfl
  · by_cases hl : l = []
    · subst hl
      exact ⟨fun q => absurd rfl q, h.bs.le, h.bs.most, h.bs.nz⟩
    · exact h.bs.grown (grownBy_set w ⟨C, 0, none⟩ _) (.inr (h.ne hl))

theorem rd_zero (l : List UInt8) (N S E : Nat) (h : (N, S, E) = rd l) (hE : E ≠ 0) : S = 0 ∧ N = 0 := by
  have hE2 : (rd l).2.2 ≠ 0 := by rw [← h]; exact hE
  revert hE2 h
  cases l with
  | nil => intro h1 h2; simp [rd] at h1; omega
  | cons c t =>
    intro h1 h2
    unfold rd at h1 h2
    simp only at h1 h2
    split at h1
    · rename_i q; rw [if_pos q] at h2; exact absurd rfl h2
    · split at h1
      · simp at h1; omega
      · split at h1
        · simp at h1; omega
        · split at h1
          · simp at h1; omega
          · rename_i q1 q2 q3 q4; rw [if_neg q1, if_neg q2, if_neg q3, if_neg q4] at h2; exact absurd rfl h2

/-- What Text answers: the text, the error's number, how many bytes were read. -/
def tx (l : List UInt8) (m : Int) : List UInt8 × Nat × Nat :=
  if (rd l).2.2 ≠ 0 then ([], (rd l).2.2, 0)
  else if max m 0 < ((rd l).1 : Int) then ([], 4, 0)
  else if l.length - (rd l).2.1 < (rd l).1 then ([], 2, 0)
  else ((l.drop (rd l).2.1).take (rd l).1, 0, (rd l).2.1 + (rd l).1)

set_option maxHeartbeats 1000000 in
/-- wire.From. -/
theorem from_any (a : Option Addr) (n cap : Nat) (l : List UInt8) (w : World) (hB : Bs w a cap l) (hn : n = l.length) (hl : l.length ≤ 100000000) :
    Calls Tryd.prog 48 #[.slice a n cap] w fun e w' => ∃ C a' cap', e = .returned (.pointer (some ⟨C, 0, none⟩)) ∧ Cur w' C a' cap' l 0 ∧ w.heap.size ≤ C ∧ (∀ k, blk a' = some k → w.heap.size ≤ k) ∧ Below w.heap.size w w' := by
  subst hn
  go_enter Tryd.func48, Tryd.ntmps48
  go_wp2_with fail
  refine (bclone_any a _ cap l w hB rfl hl).mono ?_
  rintro e w1 ⟨a1, cap1, r, rfl, hr, ho, hb⟩
  have er : l = r := hr.out.symm
  subst er
  have hs := hb.size
  have hcur : Cur (w1.alloc (.cells #[.int .i64 0, .slice a1 l.length cap1, .bool true] 106)) w1.heap.size a1 cap1 l 0 := by
    refine ⟨heap_alloc_new w1 _, ho.toBs.alloc _, Nat.zero_le _, fun hne h => ?_, hl⟩
    have := (ho.lt _ h).2
    omega
  have H := hide hcur
  clear hcur hr
  go_wp2
  go_ret
  exact ⟨w1.heap.size, a1, cap1, rfl, unhide H, hs, fun k hk => (ho.lt k hk).1, hb.alloc hs _⟩

set_option maxHeartbeats 1000000 in
/-- Cursor.Number. -/
theorem cnumber_any (C : Nat) (a : Option Addr) (cap : Nat) (l : List UInt8) (at' : Nat) (w : World) (hC : Cur w C a cap l at') :
    Calls Tryd.prog 49 #[.pointer (some ⟨C, 0, none⟩)] w fun e w' => ∃ N S E : Nat, e = .returned (.tuple #[.int .i64 (N : Int), .int .i64 (E : Int)]) ∧ Hid ((N, S, E) = rd (l.drop at')) ∧ Cur w' C a cap l (at' + S) ∧ w.grownBy w' (some C) := by
  go_enter Tryd.func49, Tryd.ntmps49
  go_wp2_with fail
  refine (unmade_made C a cap l at' w hC).mono ?_
  rintro e w0 ⟨rfl, rfl⟩
  go_wp2_with fail
  refine (left_any C a cap l at' _ hC).mono ?_
  rintro e w1 ⟨a1, nd, rfl, hB1, hba1, rfl⟩
  go_wp2_with fail
  refine (first_any a1 _ _ (l.drop at') _ hB1 (by rw [List.length_drop])).mono ?_
  rintro e w2 ⟨N, S, E, rfl, hrd, rfl⟩
  have hd := rd_le (l.drop at')
  rw [← hrd.out] at hd
  simp only [List.length_drop] at hd
  obtain ⟨hd1, hd2, hd3⟩ := hd
  have hsm := hC.small
  have hle := hC.le
  by_cases hE : E = 0
  · subst hE
    have hC1 := hC.drewN nd
    have h0 := hC1.c0
    have hf := hC1.fr 0
    have HM := hide (hC1.moved (at' + S) (by omega) ((at' : Int) + (S : Int)) (by omega))
    go_wp2_with fail
    refine (forward_any C (at' : Int) (S : Int) _ h0 hf (by omega) (by omega) (by omega) (by omega)).mono ?_
    rintro e w3 ⟨rfl, rfl⟩
    go_wp2
    go_ret2
    exact ⟨N, S, 0, rfl, hrd, unhide HM, grownBy_trans (grownBy_drewN w0 nd _) (grownBy_set _ ⟨C, 0, none⟩ _)⟩
  · have hne : ((E : Int) != 0) = true := by rw [bne_iff_ne]; omega
    have hS : S = 0 ∧ N = 0 := rd_zero _ N S E hrd.out hE
    obtain ⟨rfl, rfl⟩ := hS
    have hC1 := hC.drewN nd
    go_wp2
    go_ret2
    exact ⟨0, 0, E, rfl, hrd, hC1, grownBy_drewN _ nd _⟩

set_option maxHeartbeats 2000000 in
/-- Cursor.Text. -/
theorem ctext_any (C : Nat) (a : Option Addr) (cap : Nat) (l : List UInt8) (at' : Nat) (m : Int) (w : World) (hC : Cur w C a cap l at') (hm0 : -9223372036854775808 ≤ m) (hm1 : m ≤ 9223372036854775807) :
    Calls Tryd.prog 50 #[.pointer (some ⟨C, 0, none⟩), .int .i64 m] w fun e w' => ∃ t, ∃ E S : Nat, e = .returned (.tuple #[.string (str t), .int .i64 (E : Int)]) ∧ Hid ((t, E, S) = tx (l.drop at') m) ∧ Cur w' C a cap l (at' + S) ∧ w.grownBy w' (some C) := by
  obtain ⟨M, hM⟩ : ∃ M, max m 0 = M := ⟨_, rfl⟩
  go_enter Tryd.func50, Tryd.ntmps50
  go_wp2_with fail
  refine (unmade_made C a cap l at' w hC).mono ?_
  rintro e w0 ⟨rfl, rfl⟩
  go_wp2_with fail
  refine (left_any C a cap l at' _ hC).mono ?_
  rintro e w1 ⟨a1, nd, rfl, hB1, hba1, rfl⟩
  go_wp2_with fail
  refine (first_any a1 _ _ (l.drop at') _ hB1 (by rw [List.length_drop])).mono ?_
  rintro e w2 ⟨N, S, E, rfl, hrd, rfl⟩
  have hd := rd_le (l.drop at')
  rw [← hrd.out] at hd
  simp only [List.length_drop] at hd
  obtain ⟨hd1, hd2, hd3⟩ := hd
  have hsm := hC.small
  have hle := hC.le
  have hC1 := hC.drewN nd
  have r1 : (rd (l.drop at')).1 = N := by rw [← hrd.out]
  have r2 : (rd (l.drop at')).2.1 = S := by rw [← hrd.out]
  have r3 : (rd (l.drop at')).2.2 = E := by rw [← hrd.out]
  have hN' : (N : Int) ≤ 9223372036854775807 := by omega
  by_cases hE : E = 0
  · subst hE
    by_cases h1 : M < (N : Int)
    · have HX : Hid (([], 4, 0) = tx (l.drop at') m) := by show _ = _; rw [tx, r1, r2, r3, hM, if_neg (by simp), if_pos h1]
      clear r1 r2 r3 hrd
      go_wp2
      go_ret2
      exact ⟨[], 4, 0, rfl, HX, hC1, grownBy_drewN _ nd _⟩
    · by_cases h2 : (l.drop at').length - S < N
      · have HX : Hid (([], 2, 0) = tx (l.drop at') m) := by show _ = _; rw [tx, r1, r2, r3, hM, if_neg (by simp), if_neg h1, if_pos h2]
        rw [List.length_drop] at h2
        have h2' : (l.length : Int) - (at' : Int) - (S : Int) < (N : Int) := by omega
        have hsub : ((l.length - at' : Nat) : Int) = (l.length : Int) - (at' : Int) := by omega
        clear r1 r2 r3 hrd
        go_wp2
        go_ret2
        exact ⟨[], 2, 0, rfl, HX, hC1, grownBy_drewN _ nd _⟩
      · have HX : Hid ((((l.drop at').drop S).take N, 0, S + N) = tx (l.drop at') m) := by show _ = _; rw [tx, r1, r2, r3, hM, if_neg (by simp), if_neg h1, if_neg h2]
        rw [List.length_drop] at h2
        have h2' : ¬ ((l.length : Int) - (at' : Int) - (S : Int) < (N : Int)) := by omega
        have hsub : ((l.length - at' : Nat) : Int) = (l.length : Int) - (at' : Int) := by omega
        have hNs : N ≤ 100000000 := by omega
        have hSs : S ≤ 100000000 := by omega
        have h0 := hC1.c0
        have hf := hC1.fr 0
        have HM := hide (hC1.moved (at' + (S + N)) (by omega) ((at' : Int) + ((S : Int) + (N : Int))) (by omega))
        have hcap := hC.bs.le
        have hS1 : 1 ≤ S := hd3 rfl
        have hl1 : l ≠ [] := by intro e; subst e; simp at hd1; omega
        have hnC : blk a1 ≠ some C := by rw [hba1]; exact hC.ne hl1
        obtain ⟨b, off, rfl, _⟩ := hB1.row (by intro e; have := congrArg List.length e; simp at this; omega)
        have hBm := hide (hB1.grown (grownBy_set (w0.drewN nd) ⟨C, 0, none⟩ (.int .i64 ((at' : Int) + ((S : Int) + (N : Int))))) (.inr hnC))
        have hG := hide (grownBy_trans (grownBy_drewN w0 nd (some C)) (grownBy_set (w0.drewN nd) ⟨C, 0, none⟩ (.int .i64 ((at' : Int) + ((S : Int) + (N : Int))))))
        clear r1 r2 r3 hrd hnC hba1
        go_wp2_with fail
        refine (forward_any C (at' : Int) ((S : Int) + (N : Int)) _ h0 hf (by omega) (by omega) (by omega) (by omega)).mono ?_
        rintro e w3 ⟨rfl, hw3⟩
        have hBm2 := unhide hBm
        have hG2 := unhide hG
        have HM2 := unhide HM
        rw [← hw3] at hBm2 hG2 HM2
        clear hw3 h0 hf hC1 hB1 hBm hG HM
        obtain ⟨c', hc'⟩ : ∃ c', c' = cap - at' := ⟨_, rfl⟩
        have hc1 : S + N ≤ c' := by omega
        rw [← hc'] at hBm2
        have hcc := hide hc'
        have hcc2 : cap - at' = c' := hc'.symm
        clear hc'
        by_cases hcs : c' = S
        · have hN0 : N = 0 := by omega
          subst hN0
          subst hcs
          have k1 : ∀ c, (convert 40 9 (.slice (some ⟨b, off, none⟩) 0 c)).run Tryd.prog w3 = .ok (.string (str [])) w3 := fun c => run_str _ _ _ _ _ (fun h => absurd rfl h) rfl
          have HX2 : Hid (([], 0, c' + 0) = tx (l.drop at') m) := by show _ = _; rw [← HX.out]; simp
          clear HX
          go_wp2
          go_ret2
          exact ⟨[], 0, c' + 0, rfl, HX2, HM2, hG2⟩
        · obtain ⟨H, hH⟩ : ∃ H, H = S + N := ⟨_, rfl⟩
          have hHi : (S : Int) + (N : Int) = (H : Int) := by omega
          have hHN : H - S = N := by omega
          have hH1 : H ≤ c' := by omega
          have hH2 : S ≤ H := by omega
          have k1 : ∀ c, (convert 40 9 (.slice (some ⟨b, off + S, none⟩) N c)).run Tryd.prog w3 = .ok (.string (str (((l.drop at').drop S).take N))) w3 := fun c => run_str _ _ _ _ _ ((hBm2.row.drop S).take N) (by simp; omega)
          generalize ((l.drop at').drop S).take N = t at *
          have hHh := hide hH
          clear hH
          go_wp2
          go_ret2
          exact ⟨t, 0, S + N, rfl, HX, HM2, hG2⟩
  · have hne : ((E : Int) != 0) = true := by rw [bne_iff_ne]; omega
    have HX : Hid (([], E, 0) = tx (l.drop at') m) := by show _ = _; rw [tx, r3, if_pos hE]
    clear r1 r2 r3 hrd
    go_wp2
    go_ret2
    exact ⟨[], E, 0, rfl, HX, hC1, grownBy_drewN _ nd _⟩



#print axioms cnumber_any
#print axioms ctext_any
end Go.Proofs.YthhcaalafacjlaaDoor
end
section
set_option linter.unusedVariables false
namespace Go.Proofs.YthhcaalafacjlaaDoor
open Go.RowKit

theorem fold_from (t : List UInt8) : ∀ n : Nat, t.foldl (fun n c => n * 256 + c.toNat) n = n * 256 ^ t.length + ofBe t := by
  induction t with
  | nil => intro n; simp [ofBe]
  | cons y t ih =>
    intro n
    have h2 : ofBe (y :: t) = (0 * 256 + y.toNat) * 256 ^ t.length + ofBe t := ih (0 * 256 + y.toNat)
    rw [List.foldl_cons, ih, h2, List.length_cons, Nat.pow_succ, Nat.add_mul, Nat.zero_mul, Nat.zero_add]
    have : n * 256 * 256 ^ t.length = n * (256 ^ t.length * 256) := by rw [Nat.mul_assoc, Nat.mul_comm 256]
    omega
theorem ofBe_cons (x : UInt8) (t : List UInt8) : ofBe (x :: t) = x.toNat * 256 ^ t.length + ofBe t := by
  have h : ofBe (x :: t) = t.foldl (fun n c => n * 256 + c.toNat) (0 * 256 + x.toNat) := rfl
  rw [h, fold_from, Nat.zero_mul, Nat.zero_add]
theorem ofBe_take_le (t : List UInt8) (k : Nat) : ofBe (t.take k) ≤ ofBe t := by
  have e : ofBe t = (ofBe (t.take k)) * 256 ^ (t.drop k).length + ofBe (t.drop k) := by
    rw [← fold_from]
    have : ofBe (t.take k ++ t.drop k) = (t.drop k).foldl (fun n c => n * 256 + c.toNat) (ofBe (t.take k)) := by
      unfold ofBe
      rw [List.foldl_append]
    rw [← this, List.take_append_drop]
  have h1 : 1 ≤ 256 ^ (t.drop k).length := Nat.pow_pos (by decide)
  have h2 := Nat.le_mul_of_pos_right (ofBe (t.take k)) h1
  omega

/-- When a form is not the least one, and when it is too great, by its second byte. -/
theorem form_bad (x : UInt8) (t : List UInt8) (k : Nat) (hk : k = t.length + 1) (hk8 : k ≤ 8) : (bb (ofBe (x :: t)) < k) ↔ (x.toNat = 0 ∨ (k = 1 ∧ x.toNat < 248)) := by
  have hx := x.toNat_lt
  have hl := ofBe_lt t
  have hc := ofBe_cons x t
  have hlen : (x :: t).length ≤ 8 := by simp; omega
  have hlt := ofBe_lt (x :: t)
  have hp8 : 256 ^ (x :: t).length ≤ 256 ^ 8 := Nat.pow_le_pow_right (by decide) hlen
  have h256 : (256 : Nat) ^ 8 = 18446744073709551616 := by decide
  by_cases h1 : k = 1
  · have ht : t = [] := List.eq_nil_of_length_eq_zero (by omega)
    subst ht
    have e : ofBe [x] = x.toNat := by rw [hc]; simp [ofBe]
    rw [e]
    unfold bb
    by_cases h : x.toNat ≤ 247
    · rw [if_pos h]; omega
    · rw [if_neg h]
      have := nb_pos x.toNat
      omega
  · have hp : 1 ≤ t.length := by omega
    have hpw : 256 ≤ 256 ^ t.length := by
      have := Nat.pow_le_pow_right (show 0 < 256 by decide) hp
      simpa using this
    by_cases h0 : x.toNat = 0
    · rw [h0, Nat.zero_mul, Nat.zero_add] at hc
      refine ⟨fun _ => .inl h0, fun _ => ?_⟩
      rw [hc]
      unfold bb
      by_cases h : ofBe t ≤ 247
      · rw [if_pos h]; omega
      · rw [if_neg h]
        by_cases hn : nb (ofBe t) < k
        · exact hn
        · exfalso
          have h2 := nb_lo (ofBe t) (by omega)
          have h3 := Nat.pow_le_pow_right (show 0 < 256 by decide) (show t.length ≤ nb (ofBe t) - 1 by omega)
          omega
    · have h2 : 256 ^ t.length ≤ ofBe (x :: t) := by
        have := Nat.le_mul_of_pos_left (256 ^ t.length) (show 0 < x.toNat by omega)
        omega
      refine ⟨fun h => ?_, fun h => by omega⟩
      exfalso
      unfold bb at h
      rw [if_neg (by omega)] at h
      have h3 := nb_hi (ofBe (x :: t)) (by omega)
      have h4 := Nat.pow_le_pow_right (show 0 < 256 by decide) (show nb (ofBe (x :: t)) ≤ t.length by omega)
      omega
theorem form_big (x : UInt8) (t : List UInt8) (k : Nat) (hk : k = t.length + 1) (hk8 : k ≤ 8) : (9223372036854775807 < ofBe (x :: t)) ↔ (k = 8 ∧ 128 ≤ x.toNat) := by
  have hx := x.toNat_lt
  have hl := ofBe_lt t
  have hc := ofBe_cons x t
  by_cases h8 : k = 8
  · have ht : t.length = 7 := by omega
    rw [ht] at hc hl
    have e : (256 : Nat) ^ 7 = 72057594037927936 := by decide
    rw [e] at hc hl
    omega
  · have hlt := ofBe_lt (x :: t)
    have hp := Nat.pow_le_pow_right (show 0 < 256 by decide) (show (x :: t).length ≤ 7 by simp; omega)
    have e : (256 : Nat) ^ 7 = 72057594037927936 := by decide
    omega

set_option maxRecDepth 20000 in
set_option maxHeartbeats 2000000 in
theorem rread_any (a : Option Addr) (n cap : Nat) (l : List UInt8) (w : World) (hB : Bs w a cap l) (hn : n = l.length) :
    Calls Tryd.prog 55 #[.slice a n cap] w fun e w' => ∃ N S E : Nat, e = .returned (.tuple #[.int .i64 (N : Int), .int .i64 (S : Int), .int .i64 (E : Int)]) ∧ Hid ((N, S, E) = rd l) ∧ w' = w := by
  subst hn
  have hle := hB.le
  have hm := hB.most
  unfold maxLen at hm
  cases l with
  | nil =>
    go_enter Tryd.func55, Tryd.ntmps55
    go_wp2
    go_ret3
    exact ⟨0, 0, 2, rfl, rfl, rfl⟩
  | cons c t =>
    obtain ⟨b, off, rfl, hc⟩ := hB.row (by simp)
    have h0 : w.cell? ⟨b, off, none⟩ = some (.int .u8 (c.toNat : Int)) := by simpa using hc 0 (by simp)
    have hcl := c.toNat_lt
    have hlen : (c :: t).length = t.length + 1 := by simp
    obtain ⟨L, hL⟩ : ∃ L, L = (c :: t).length := ⟨_, rfl⟩
    have hL1 : 1 ≤ L := by omega
    have hLz : ((L : Int) == 0) = false := by simp; omega
    have HL := hide (show L = t.length + 1 by omega)
    rw [← hL]
    have hcap : L ≤ cap := by omega
    have Hc := hide hc
    have hLm : L ≤ 9223372036854775807 := by omega
    clear hL hlen hle hc
    obtain ⟨x, hx⟩ : ∃ x, x = c.toNat := ⟨_, rfl⟩
    have Hx := hide hx
    rw [← hx] at h0 hcl
    clear hx
    by_cases h1 : x ≤ 247
    · have hk : (x : Int) - 247 ≤ 0 := by omega
      go_enter Tryd.func55, Tryd.ntmps55
      go_wp2
      go_ret3
      exact ⟨x, 1, 0, rfl, by show _ = _; rw [unhide Hx] at h1 ⊢; simp only [rd, if_pos h1], rfl⟩
    · obtain ⟨k, hk⟩ : ∃ k, k = x - 247 := ⟨_, rfl⟩
      have hki : (x : Int) - 247 = (k : Int) := by omega
      have hk1 : 1 ≤ k := by omega
      have hk8 : k ≤ 8 := by omega
      have hkd : decide ((k : Int) ≤ 0) = false := by simp; omega
      have Hk := hide (show c.toNat - 247 = k by rw [← unhide Hx]; omega)
      have Hx2 := hide (show ¬ c.toNat ≤ 247 by rw [← unhide Hx]; omega)
      clear hk h1
      by_cases h2 : L < k + 1
      · have h2i : (L : Int) < (k : Int) + 1 := by omega
        go_enter Tryd.func55, Tryd.ntmps55
        go_wp2
        go_ret3
        exact ⟨0, 0, 2, rfl, by show _ = _; simp only [rd, if_neg (unhide Hx2), unhide Hk]; rw [if_pos (by have := unhide HL; omega)], rfl⟩
      · cases t with
        | nil => exfalso; have := unhide HL; simp at this; omega
        | cons y t' =>
          have h1c : w.cell? ⟨b, off + 1, none⟩ = some (.int .u8 (y.toNat : Int)) := by simpa using unhide Hc 1 (by simp)
          have hyl := y.toNat_lt
          obtain ⟨u, hu⟩ : ∃ u, u = (y :: t').take k := ⟨_, rfl⟩
          have hul : u.length = k := by rw [hu, List.length_take]; have := unhide HL; simp at this ⊢; omega
          have hu2 : u = y :: t'.take (k - 1) := by
            rw [hu]
            obtain ⟨k', rfl⟩ : ∃ k', k = k' + 1 := ⟨k - 1, by omega⟩
            simp
          have hkl : k = (t'.take (k - 1)).length + 1 := by
            have := hul
            rw [hu2] at this
            simp only [List.length_cons] at this
            omega
          have HF := hide (form_bad y (t'.take (k - 1)) k hkl hk8)
          have HG := hide (form_big y (t'.take (k - 1)) k hkl hk8)
          rw [← hu2] at HF HG
          have HR : Hid (rd (c :: y :: t') = if bb (ofBe u) < k then (0, 0, 10) else if 9223372036854775807 < ofBe u then (0, 0, 5) else (ofBe u, k + 1, 0)) := by
            show _ = _
            have hx2 := unhide Hx2
            have hkk := unhide Hk
            simp only [rd, if_neg hx2, hkk]
            rw [if_neg (by have := unhide HL; simp at this ⊢; omega), ← hu]
          have HC : Hid (∀ j, j < k → w.cell? ⟨b, off + (j + 1), none⟩ = some (.int .u8 ((u.getD j 0).toNat : Int))) := by
            intro j hj
            have := unhide Hc (j + 1) (by have := unhide HL; simp at this ⊢; omega)
            rw [this, hu]
            simp [hj]
          have Hul := hide hul
          have h2i : ¬ (L : Int) < (k : Int) + 1 := by omega
          have hL2 : 2 ≤ L := by omega
          clear hu hu2 hkl Hc hul
          obtain ⟨z, hz⟩ : ∃ z, z = y.toNat := ⟨_, rfl⟩
          rw [← hz] at h1c hyl HF HG
          clear hz
          by_cases hz0 : z = 0
          · subst hz0
            have hb : bb (ofBe u) < k := (unhide HF).2 (.inl rfl)
            have HRR : Hid (rd (c :: y :: t') = (0, 0, 10)) := by show _ = _; rw [unhide HR, if_pos hb]
            clear hb HR HF HG HC
            go_enter Tryd.func55, Tryd.ntmps55
            go_wp2
            go_ret3
            exact ⟨0, 0, 10, rfl, (unhide HRR).symm, rfl⟩
          · have hz0d : ((z : Int) == 0) = false := by simp; omega
            by_cases hk1' : k = 1
            · subst hk1'
              by_cases hz2 : z < 248
              · have hb : bb (ofBe u) < 1 := (unhide HF).2 (.inr ⟨rfl, hz2⟩)
                have HRR : Hid (rd (c :: y :: t') = (0, 0, 10)) := by show _ = _; rw [unhide HR, if_pos hb]
                have hz2i : (z : Int) < 248 := by omega
                clear hb HR HF HG HC hz0
                go_enter Tryd.func55, Tryd.ntmps55
                go_wp2
                go_ret3
                exact ⟨0, 0, 10, rfl, (unhide HRR).symm, rfl⟩
              · have hb : ¬ bb (ofBe u) < 1 := fun h => by rcases (unhide HF).1 h with h | h <;> omega
                have hg : ¬ 9223372036854775807 < ofBe u := fun h => by have := (unhide HG).1 h; omega
                have HRR : Hid (rd (c :: y :: t') = (ofBe u, 2, 0)) := by show _ = _; rw [unhide HR, if_neg hb, if_neg hg]
                have hz2i : ¬ (z : Int) < 248 := by omega
                have hz2d : decide ((z : Int) < 248) = false := by simp; omega
                obtain ⟨v, hv⟩ : ∃ v, u = [v] := by
                  match u, unhide Hul with
                  | [v], _ => exact ⟨v, rfl⟩
                subst hv
                have hc0 := unhide HC 0 (by omega)
                simp at hc0
                rw [h1c] at hc0
                have hvz : v.toNat = z := by simp at hc0; omega
                have HN : Hid (ofBe [v] = z) := by show _ = _; rw [← hvz]; simp [ofBe]
                clear hb hg HR HF HG HC hz0 hz2 hc0 hvz
                go_enter Tryd.func55, Tryd.ntmps55
                go_wp2
                refine wp_loop_rounds 2 ?_
                rw [rounds_succ]
                go_wp2
                rw [rounds_succ]
                go_wp2
                go_ret3
                exact ⟨z, 2, 0, rfl, by show _ = _; rw [unhide HRR, unhide HN], rfl⟩
            · have hk1d : ((k : Int) == 1) = false := by simp; omega
              have hb : ¬ bb (ofBe u) < k := fun h => by rcases (unhide HF).1 h with h | h <;> omega
              by_cases hg : 9223372036854775807 < ofBe u
              · have HRR : Hid (rd (c :: y :: t') = (0, 0, 5)) := by show _ = _; rw [unhide HR, if_neg hb, if_pos hg]
                obtain ⟨hk8', hz128⟩ := (unhide HG).1 hg
                subst hk8'
                have hz128i : (128 : Int) ≤ (z : Int) := by omega
                clear hb hg HR HF HG HC hz0
                go_enter Tryd.func55, Tryd.ntmps55
                go_wp2
                go_ret3
                exact ⟨0, 0, 5, rfl, (unhide HRR).symm, rfl⟩
              · have HRR : Hid (rd (c :: y :: t') = (ofBe u, k + 1, 0)) := by show _ = _; rw [unhide HR, if_neg hb, if_neg hg]
                have hgl : ofBe u ≤ 9223372036854775807 := by omega
                have hcond : ¬ (k = 8 ∧ 128 ≤ z) := fun h => hg ((unhide HG).2 h)
                have hpick : (((k : Int) == 8) && decide ((128 : Int) ≤ (z : Int))) = false := by
                  by_cases h8 : k = 8
                  · have : ¬ 128 ≤ z := fun h => hcond ⟨h8, h⟩
                    simp; omega
                  · simp; omega
                have HW : Hid (∀ Q : Prop, (k = 8 → ¬ 128 ≤ z → Q) → (¬ k = 8 → Q) → Q) := fun Q h1 h2 => by
                  by_cases h8 : k = 8
                  · exact h1 h8 (fun h => hcond ⟨h8, h⟩)
                  · exact h2 h8
                clear hb hg HR HF HG hz0 hcond hpick
                by_cases h8 : k = 8
                · have h8d : ((k : Int) == 8) = true := by simp; omega
                  have hz128 : decide ((128 : Int) ≤ (z : Int)) = false := by
                    have : ¬ 128 ≤ z := unhide HW _ (fun _ h => h) (fun h => absurd h8 h)
                    simp; omega
                  clear h8 HW
                  go_enter Tryd.func55, Tryd.ntmps55
                  go_wp2
                  go_loop [6, 7] (fun n i => ∃ J : Nat, 1 ≤ J ∧ J ≤ k + 1 ∧ i = .int .i64 (J : Int) ∧ n = .int .i64 ((ofBe (u.take (J - 1)) : Nat) : Int)) (fun _ i => k + 1 - (intOf i).toNat)
                  case atStart => exact ⟨1, Nat.le_refl _, by omega, rfl, by simp [ofBe]⟩
                  case round =>
                    obtain ⟨J, hJ1, hJ2, rfl, rfl⟩ := hrel
                    by_cases hJk : J ≤ k
                    · have hcj := unhide HC (J - 1) (by omega)
                      rw [show J - 1 + 1 = J by omega] at hcj
                      have HS : Hid (ofBe (u.take (J + 1 - 1)) = ofBe (u.take (J - 1)) * 256 + (u.getD (J - 1) 0).toNat) := by
                        show _ = _
                        rw [show J + 1 - 1 = (J - 1) + 1 by omega]
                        exact ofBe_take u (J - 1) (by have := unhide Hul; omega)
                      have hle2 : ofBe (u.take (J + 1 - 1)) ≤ 9223372036854775807 := Nat.le_trans (ofBe_take_le u _) hgl
                      have hyy := (u.getD (J - 1) 0).toNat_lt
                      rw [unhide HS] at hle2
                      generalize (u.getD (J - 1) 0).toNat = Y at *
                      generalize ofBe (u.take (J - 1)) = A at *
                      have hJL : J < L := by omega
                      have hJLi : (J : Int) < (L : Int) := by omega
                      go_wp2
                      go_round
                      case rel => exact ⟨J + 1, by omega, by omega, by go_num, by rw [unhide HS]; go_num⟩
                      case measure => simp [intOf]; omega
                    · obtain rfl : J = k + 1 := by omega
                      have HT : Hid (u.take (k + 1 - 1) = u) := by show _ = _; exact List.take_of_length_le (by have := unhide Hul; omega)
                      rw [unhide HT]
                      go_wp2
                      go_ret3
                      exact ⟨ofBe u, k + 1, 0, rfl, (unhide HRR).symm, rfl⟩
                · have h8d : ((k : Int) == 8) = false := by simp; omega
                  clear h8 HW
                  go_enter Tryd.func55, Tryd.ntmps55
                  go_wp2
                  go_loop [6, 7] (fun n i => ∃ J : Nat, 1 ≤ J ∧ J ≤ k + 1 ∧ i = .int .i64 (J : Int) ∧ n = .int .i64 ((ofBe (u.take (J - 1)) : Nat) : Int)) (fun _ i => k + 1 - (intOf i).toNat)
                  case atStart => exact ⟨1, Nat.le_refl _, by omega, rfl, by simp [ofBe]⟩
                  case round =>
                    obtain ⟨J, hJ1, hJ2, rfl, rfl⟩ := hrel
                    by_cases hJk : J ≤ k
                    · have hcj := unhide HC (J - 1) (by omega)
                      rw [show J - 1 + 1 = J by omega] at hcj
                      have HS : Hid (ofBe (u.take (J + 1 - 1)) = ofBe (u.take (J - 1)) * 256 + (u.getD (J - 1) 0).toNat) := by
                        show _ = _
                        rw [show J + 1 - 1 = (J - 1) + 1 by omega]
                        exact ofBe_take u (J - 1) (by have := unhide Hul; omega)
                      have hle2 : ofBe (u.take (J + 1 - 1)) ≤ 9223372036854775807 := Nat.le_trans (ofBe_take_le u _) hgl
                      have hyy := (u.getD (J - 1) 0).toNat_lt
                      rw [unhide HS] at hle2
                      generalize (u.getD (J - 1) 0).toNat = Y at *
                      generalize ofBe (u.take (J - 1)) = A at *
                      have hJL : J < L := by omega
                      have hJLi : (J : Int) < (L : Int) := by omega
                      go_wp2
                      go_round
                      case rel => exact ⟨J + 1, by omega, by omega, by go_num, by rw [unhide HS]; go_num⟩
                      case measure => simp [intOf]; omega
                    · obtain rfl : J = k + 1 := by omega
                      have HT : Hid (u.take (k + 1 - 1) = u) := by show _ = _; exact List.take_of_length_le (by have := unhide Hul; omega)
                      rw [unhide HT]
                      go_wp2
                      go_ret3
                      exact ⟨ofBe u, k + 1, 0, rfl, (unhide HRR).symm, rfl⟩
#print axioms rread_any
end Go.Proofs.YthhcaalafacjlaaDoor
end
section
set_option linter.unusedVariables false
namespace Go.Proofs.YthhcaalafacjlaaDoor
open Go.RowKit

/-- The reference's cursor in block X over the bytes l, of which so many were read. -/
structure RC (w : World) (X : Nat) (a : Option Addr) (cap : Nat) (l : List UInt8) (at' : Nat) : Prop where
  hp : w.heap[X]? = some (.cells #[.slice a l.length cap, .int .i64 (at' : Int)] 64 (0, 0))
  bs : Bs w a cap l
  le : at' ≤ l.length
  ne : l ≠ [] → blk a ≠ some X
  small : l.length ≤ 100000000
theorem RC.c0 {w : World} {X : Nat} {a : Option Addr} {cap : Nat} {l : List UInt8} {at' : Nat} (h : RC w X a cap l at') : w.cell? ⟨X, 0, none⟩ = some (.slice a l.length cap) := by rw [cell_of_row w X 0 _ _ _ h.hp]; rfl
theorem RC.c1 {w : World} {X : Nat} {a : Option Addr} {cap : Nat} {l : List UInt8} {at' : Nat} (h : RC w X a cap l at') : w.cell? ⟨X, 1, none⟩ = some (.int .i64 (at' : Int)) := by rw [cell_of_row w X 1 _ _ _ h.hp]; rfl
theorem RC.fr {w : World} {X : Nat} {a : Option Addr} {cap : Nat} {l : List UInt8} {at' : Nat} (h : RC w X a cap l at') (i : Nat) : w.frozen? ⟨X, i, none⟩ = false := frozen_of_row w X i _ _ h.hp
theorem RC.below {w w' : World} {X B : Nat} {a : Option Addr} {cap : Nat} {l : List UInt8} {at' : Nat} (h : RC w X a cap l at') (hb : Below B w w') (hB : w.heap.size ≤ B) : RC w' X a cap l at' :=
  ⟨by rw [hb.block X (by have := (Array.getElem?_eq_some_iff.1 h.hp).1; omega)]; exact h.hp, h.bs.below hb hB, h.le, h.ne, h.small⟩
theorem RC.drewN {w : World} {X : Nat} {a : Option Addr} {cap : Nat} {l : List UInt8} {at' : Nat} (h : RC w X a cap l at') (n : Nat) : RC (w.drewN n) X a cap l at' := h.below (below_drewN (Below.refl w.heap.size w) n) (Nat.le_refl _)
theorem RC.moved {w : World} {X : Nat} {a : Option Addr} {cap : Nat} {l : List UInt8} {at' : Nat} (h : RC w X a cap l at') (n : Nat) (hn : n ≤ l.length) (x : Int) (hx : x = (n : Int)) : RC (w.setCell ⟨X, 1, none⟩ (.int .i64 x)) X a cap l n := by
  subst hx
  refine ⟨?_, ?_, hn, h.ne, h.small⟩
  · simp only [World.setCell, Array.getElem?_modify]
    rw [if_pos trivial, h.hp]
    rfl
  · by_cases hl : l = []
    · subst hl; exact ⟨fun h => absurd rfl h, h.bs.le, h.bs.most, h.bs.nz⟩
    · exact h.bs.grown (grownBy_set w ⟨X, 1, none⟩ _) (.inr (h.ne hl))
theorem RC.kept {w w' : World} {X : Nat} {a : Option Addr} {cap : Nat} {l : List UInt8} {at' : Nat} (h : RC w X a cap l at') {row : Option Nat} (hg : w.grownBy w' row) (hX : some X ≠ row) (ha : l ≠ [] → blk a ≠ row) : RC w' X a cap l at' := by
  refine ⟨by rw [hg.block X (Array.getElem?_eq_some_iff.1 h.hp).1 hX]; exact h.hp, ?_, h.le, h.ne, h.small⟩
  by_cases hl : l = []
  · subst hl; exact ⟨fun h => absurd rfl h, h.bs.le, h.bs.most, h.bs.nz⟩
  · exact h.bs.grown hg (.inr (ha hl))

theorem slice_tail (a : Option Addr) (cap E : Nat) (l : List UInt8) (hle : l.length ≤ cap) (h1 : E ≤ l.length) (hrow : l ≠ [] → ∃ b off, a = some ⟨b, off, none⟩) :
    ∃ a', (∀ w, (Instr.slice 40 (.slice a l.length cap) (some (.int .i64 (E : Int))) none none).run Tryd.prog w = .ok (.slice a' (l.drop E).length (cap - E)) w) ∧ ∀ w, Bs w a cap l → Bs w a' (cap - E) (l.drop E) := by
  refine ⟨if cap = E then a else a.map (·.add (E * 1)), fun w => ?_, fun w hB => ?_⟩
  · rw [run_slice_l (P := Tryd.prog) w 40 _ _ cap Tryd.elemB .i64 (E : Int) (by omega) (by omega), Tryd.sizeB]
    simp only [Result.andThen, sliced, Int.toNat_natCast, List.length_drop]
  · refine ⟨?_, by simp; have := hB.le; omega, by have := hB.most; omega, ?_⟩
    · by_cases hc : cap = E
      · intro h; exact absurd (List.drop_eq_nil_of_le (by omega)) h
      · rw [if_neg hc]
        by_cases hl : l = []
        · subst hl; intro h; simp at h
        · obtain ⟨b, off, rfl⟩ := hrow hl
          rw [Option.map_some, Nat.mul_one, addr_add]
          exact hB.row.drop E
    · intro h
      by_cases hc : cap = E
      · omega
      · rw [if_neg hc] at h
        have := hB.nz (by cases a <;> simp_all)
        omega
set_option maxHeartbeats 2000000 in
theorem rnumber_any' (X : Nat) (a : Option Addr) (cap : Nat) (l : List UInt8) (at' : Nat) (w : World) (h : RC w X a cap l at') :
    Calls Tryd.prog 33 #[.pointer (some ⟨X, 0, none⟩)] w fun e w' => ∃ N S E : Nat, e = .returned (.tuple #[.int .i64 (N : Int), .int .i64 (E : Int)]) ∧ Hid ((N, S, E) = rd (l.drop at')) ∧ RC w' X a cap l (at' + S) ∧ w.grownBy w' (some X) := by
  have c0 := h.c0
  have c1 := h.c1
  have hsm := h.small
  have hle := h.le
  have f1 := h.fr 1
  have hcl := h.bs.le
  obtain ⟨a', hsl, hBt⟩ := slice_tail a cap at' l hcl hle (fun hne => by obtain ⟨b, off, e, _⟩ := h.bs.row hne; exact ⟨b, off, e⟩)
  have hrdl := rd_le (l.drop at')
  obtain ⟨N, S, E, hr⟩ : ∃ N S E, (N, S, E) = rd (l.drop at') := ⟨_, _, _, rfl⟩
  rw [← hr] at hrdl
  simp only [List.length_drop] at hrdl
  have hcall : ∀ n, Calls Tryd.prog 55 #[.slice a' (l.length - at') (cap - at')] (w.drewN n) fun e w' => e = .returned (.tuple #[.int .i64 (N : Int), .int .i64 (S : Int), .int .i64 (E : Int)]) ∧ w' = w.drewN n := by
    intro n
    refine (rread_any a' (l.length - at') (cap - at') (l.drop at') _ (hBt _ (h.drewN n).bs) (by simp)).mono ?_
    rintro e w' ⟨N', S', E', rfl, hr', rfl⟩
    have := (unhide hr').trans hr.symm
    simp only [Prod.mk.injEq] at this
    obtain ⟨rfl, rfl, rfl⟩ := this
    exact ⟨rfl, rfl⟩
  have Hcall := hide hcall
  have HR := hide hr
  have H := hide h
  simp only [List.length_drop] at hsl
  clear hcall hr hBt h
  go_enter Tryd.func33, Tryd.ntmps33
  go_wp2_with fail
  go_quiet (first | (go_at_call 55; refine Calls.quiet_of_same (unhide Hcall _)))
  go_wp2
  go_ret2
  exact ⟨N, S, E, rfl, HR, ((unhide H).drewN nq).moved (at' + S) (by omega) _ (by omega), grownBy_trans (grownBy_drewN _ _ _) (grownBy_set _ ⟨X, 1, none⟩ _)⟩

theorem cut_mid (a : Option Addr) (n cap E K : Nat) (l : List UInt8) (h1 : E ≤ K) (h2 : K ≤ l.length) (hle : l.length ≤ cap) (hrow : l ≠ [] → ∃ b off, a = some ⟨b, off, none⟩) :
    ∃ a', (∀ w, (Instr.slice 40 (.slice a n cap) (some (.int .i64 (E : Int))) (some (.int .i64 (K : Int))) none).run Tryd.prog w = .ok (.slice a' (K - E) (cap - E)) w) ∧ ∀ w, Bs w a cap l → Row w a' ((l.drop E).take (K - E)) := by
  refine ⟨if cap = E then a else a.map (·.add (E * 1)), fun w => ?_, fun w hB => ?_⟩
  · rw [run_slice_lh (P := Tryd.prog) w 40 _ n cap Tryd.elemB .i64 .i64 (E : Int) (K : Int) (by omega) (by omega) (by omega), Tryd.sizeB]
    simp only [Result.andThen, sliced, Int.toNat_natCast]
  · by_cases hc : cap = E
    · intro h
      exfalso
      apply h
      rw [show K - E = 0 by omega]
      simp
    · rw [if_neg hc]
      by_cases hl : l = []
      · subst hl; intro h; simp at h
      · obtain ⟨b, off, rfl⟩ := hrow hl
        rw [Option.map_some, Nat.mul_one, addr_add]
        exact (hB.row.drop E).take (K - E)

set_option maxHeartbeats 4000000 in
theorem rtext_any' (X : Nat) (a : Option Addr) (cap : Nat) (l : List UInt8) (at' : Nat) (m : Int) (w : World) (h : RC w X a cap l at') (hm0 : -9223372036854775808 ≤ m) (hm1 : m ≤ 9223372036854775807) :
    Calls Tryd.prog 34 #[.pointer (some ⟨X, 0, none⟩), .int .i64 m] w fun e w' => ∃ t, ∃ E S : Nat, e = .returned (.tuple #[.string (str t), .int .i64 (E : Int)]) ∧ Hid ((t, E, S) = tx (l.drop at') m) ∧ RC w' X a cap l (at' + S) ∧ w.grownBy w' (some X) := by
  have c0 := h.c0
  have c1 := h.c1
  have hsm := h.small
  have hle := h.le
  have f1 := h.fr 1
  have hcl := h.bs.le
  have hrow0 : l ≠ [] → ∃ b off, a = some ⟨b, off, none⟩ := fun hne => by obtain ⟨b, off, e, _⟩ := h.bs.row hne; exact ⟨b, off, e⟩
  obtain ⟨a', hsl, hBt⟩ := slice_tail a cap at' l hcl hle hrow0
  have hrdl := rd_le (l.drop at')
  obtain ⟨N, S, E, hr⟩ : ∃ N S E, (N, S, E) = rd (l.drop at') := ⟨_, _, _, rfl⟩
  rw [← hr] at hrdl
  simp only [List.length_drop] at hrdl
  have hcall : ∀ n, Calls Tryd.prog 55 #[.slice a' (l.length - at') (cap - at')] (w.drewN n) fun e w' => e = .returned (.tuple #[.int .i64 (N : Int), .int .i64 (S : Int), .int .i64 (E : Int)]) ∧ w' = w.drewN n := by
    intro n
    refine (rread_any a' (l.length - at') (cap - at') (l.drop at') _ (hBt _ (h.drewN n).bs) (by simp)).mono ?_
    rintro e w' ⟨N', S', E', rfl, hr', rfl⟩
    have := (unhide hr').trans hr.symm
    simp only [Prod.mk.injEq] at this
    obtain ⟨rfl, rfl, rfl⟩ := this
    exact ⟨rfl, rfl⟩
  have Hcall := hide hcall
  have H := hide h
  have HTX : Hid (tx (l.drop at') m = if E ≠ 0 then ([], E, 0) else if max m 0 < (N : Int) then ([], 4, 0) else if l.length - at' - S < N then ([], 2, 0) else (((l.drop at').drop S).take N, 0, S + N)) := by
    show _ = _
    rw [tx, ← hr]
    simp only [List.length_drop]
  simp only [List.length_drop] at hsl
  obtain ⟨hS, hNl, _⟩ := hrdl
  clear hcall hr hBt h
  by_cases hE : E = 0
  · subst hE
    by_cases hL : max m 0 < (N : Int)
    · have HT : Hid (([], 4, 0) = tx (l.drop at') m) := by show _ = _; rw [unhide HTX, if_neg (by simp), if_pos hL]
      have hN0 : (0 : Int) < (N : Int) := by omega
      have hNm : m < (N : Int) := by omega
      clear HTX hL
      go_enter Tryd.func34, Tryd.ntmps34
      go_wp2_with fail
      go_quiet (first | (go_at_call 55; refine Calls.quiet_of_same (unhide Hcall _)))
      go_wp2
      go_ret2
      exact ⟨[], 4, 0, rfl, HT, (unhide H).drewN nq, grownBy_drewN _ _ _⟩
    · have hpick : ¬ (m < (N : Int) ∧ (0 : Int) < (N : Int)) := by omega
      have hcases : decide (m < (N : Int)) = false ∨ (decide (m < (N : Int)) = true ∧ decide ((0 : Int) < (N : Int)) = false) := by
        by_cases h1 : m < (N : Int)
        · exact .inr ⟨by simp [h1], by simp; omega⟩
        · exact .inl (by simp; omega)
      clear hpick
      obtain ⟨D1, hD1⟩ : ∃ D1 : Nat, D1 = l.length - at' := ⟨_, rfl⟩
      obtain ⟨D2, hD2⟩ : ∃ D2 : Nat, D2 = D1 - S := ⟨_, rfl⟩
      have hD1i : (l.length : Int) - (at' : Int) = (D1 : Int) := by omega
      have hD2i : (D1 : Int) - (S : Int) = (D2 : Int) := by omega
      have hD1w : IntKind.i64.wrap ((l.length : Int) - (at' : Int)) = (D1 : Int) := by rw [hD1i, IntKind.wrap_i64]; omega
      have hD2w : IntKind.i64.wrap ((D1 : Int) - (S : Int)) = (D2 : Int) := by rw [hD2i, IntKind.wrap_i64]; omega
      have hD2l : D2 ≤ 100000000 := by omega
      by_cases hSh : D2 < N
      · have HT : Hid (([], 2, 0) = tx (l.drop at') m) := by show _ = _; rw [unhide HTX, if_neg (by simp), if_neg hL, if_pos (by omega)]
        have hShi : (D2 : Int) < (N : Int) := by omega
        clear HTX hL hD1 hD2
        rcases hcases with h1 | ⟨h1, h2⟩
        · go_enter Tryd.func34, Tryd.ntmps34
          go_wp2_with fail
          go_quiet (first | (go_at_call 55; refine Calls.quiet_of_same (unhide Hcall _)))
          go_wp2_with fail
          go_quiet (fail)
          go_wp2
          go_ret2
          exact ⟨[], 2, 0, rfl, HT, ((unhide H).drewN _).drewN _, grownBy_trans (grownBy_drewN _ _ _) (grownBy_drewN _ _ _)⟩
        · have h2n : decide (0 < N) = false := by simp at h2 ⊢; omega
          go_enter Tryd.func34, Tryd.ntmps34
          go_wp2_with fail
          go_quiet (first | (go_at_call 55; refine Calls.quiet_of_same (unhide Hcall _)))
          go_wp2_with fail
          go_quiet (fail)
          go_wp2
          go_ret2
          exact ⟨[], 2, 0, rfl, HT, ((unhide H).drewN _).drewN _, grownBy_trans (grownBy_drewN _ _ _) (grownBy_drewN _ _ _)⟩
      · have HT : Hid ((((l.drop at').drop S).take N, 0, S + N) = tx (l.drop at') m) := by show _ = _; rw [unhide HTX, if_neg (by simp), if_neg hL, if_neg (by omega)]
        have hShi : ¬ (D2 : Int) < (N : Int) := by omega
        have hShd : decide ((D2 : Int) < (N : Int)) = false := by simp; omega
        obtain ⟨E1, hE1⟩ : ∃ E1 : Nat, E1 = at' + S := ⟨_, rfl⟩
        obtain ⟨K1, hK1⟩ : ∃ K1 : Nat, K1 = E1 + N := ⟨_, rfl⟩
        have hE1i : (at' : Int) + (S : Int) = (E1 : Int) := by omega
        have hK1i : (E1 : Int) + (N : Int) = (K1 : Int) := by omega
        have hE1w : IntKind.i64.wrap ((at' : Int) + (S : Int)) = (E1 : Int) := by rw [hE1i, IntKind.wrap_i64]; omega
        have hK1w : IntKind.i64.wrap ((E1 : Int) + (N : Int)) = (K1 : Int) := by rw [hK1i, IntKind.wrap_i64]; omega
        have hNi : N ≤ 100000000 := by omega
        obtain ⟨am, hslm, hrm⟩ := cut_mid a l.length cap E1 K1 l (by omega) (by omega) hcl hrow0
        have hKE : K1 - E1 = N := by omega
        rw [hKE] at hslm hrm
        have hcv : ∀ n, (convert 40 9 (.slice am N (cap - E1))).run Tryd.prog (w.drewN n) = .ok (.string (str ((l.drop E1).take N))) (w.drewN n) := fun n => run_str _ _ _ _ _ (hrm _ ((unhide H).drewN n).bs) (by simp; omega)
        have HT2 : Hid (((l.drop E1).take N, 0, S + N) = tx (l.drop at') m) := by show _ = _; rw [← unhide HT, List.drop_drop, hE1]
        have HE1 := hide hE1
        have hK1l : K1 ≤ l.length := by omega
        have hE1l : E1 ≤ K1 := by omega
        have HK : Hid (K1 = at' + (S + N)) := by show _ = _; omega
        clear HTX hL hD1 hD2 HT hE1 hK1 hrm hKE hrow0
        rcases hcases with h1 | ⟨h1, h2⟩
        · go_enter Tryd.func34, Tryd.ntmps34
          go_wp2_with fail
          go_quiet (first | (go_at_call 55; refine Calls.quiet_of_same (unhide Hcall _)))
          go_wp2_with fail
          go_quiet (fail)
          go_wp2_with fail
          go_quiet (fail)
          go_wp2
          go_ret2
          exact ⟨(l.drop E1).take N, 0, S + N, rfl, HT2, ((unhide H).drewN _).moved (at' + (S + N)) (by have := unhide HK; omega) _ (by omega), grownBy_trans (grownBy_drewN _ _ _) (grownBy_set _ ⟨X, 1, none⟩ _)⟩
        · have h2n : decide (0 < N) = false := by simp at h2 ⊢; omega
          go_enter Tryd.func34, Tryd.ntmps34
          go_wp2_with fail
          go_quiet (first | (go_at_call 55; refine Calls.quiet_of_same (unhide Hcall _)))
          go_wp2_with fail
          go_quiet (fail)
          go_wp2_with fail
          go_quiet (fail)
          go_wp2
          go_ret2
          exact ⟨(l.drop E1).take N, 0, S + N, rfl, HT2, ((unhide H).drewN _).moved (at' + (S + N)) (by have := unhide HK; omega) _ (by omega), grownBy_trans (grownBy_drewN _ _ _) (grownBy_set _ ⟨X, 1, none⟩ _)⟩
  · have HT : Hid (([], E, 0) = tx (l.drop at') m) := by show _ = _; rw [unhide HTX, if_pos hE]
    have hEd : ((E : Int) != 0) = true := by simp; omega
    clear HTX
    go_enter Tryd.func34, Tryd.ntmps34
    go_wp2_with fail
    go_quiet (first | (go_at_call 55; refine Calls.quiet_of_same (unhide Hcall _)))
    go_wp2
    go_ret2
    exact ⟨[], E, 0, rfl, HT, (unhide H).drewN nq, grownBy_drewN _ _ _⟩
#print axioms rtext_any'
end Go.Proofs.YthhcaalafacjlaaDoor
end
