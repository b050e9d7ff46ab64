/-
  THE WALKS of wire's cursor: its parts.; THE WALKS of wire's cursor: From, Number, Text, Rest, End, At, Byte.
-/
import Derived.Test.YtmcgghjeocnpnaaGreatDoorPkKewsao
import Derived.Test.YtmcgghjeocnpnaaGreatDoorPkKewsau
import Derived.Test.YtmcgghjeocnpnaaGreatDoorPkKewsas
import Derived.Test.YtmcgghjeocnpnaaGreatDoorPkKewsad
import Derived.Deep.QuietTactic
import Derived.BigQuiet
section
set_option linter.unusedVariables false
namespace Go.Proofs.YtmcgghjeocnpnaaGreatDoor
open Go.RowKit

/-- A cursor in block C over the bytes l, of which so many were read. -/
structure Cur (w : World) (C : Nat) (a : Option Addr) (cap : Nat) (l : List UInt8) (at' : Nat) : Prop where
  hp : w.heap[C]? = some (.cells #[.int .i64 (at' : Int), .slice a l.length cap, .bool true] 192 (0, 0))
  bs : Bs w a cap l
  le : at' ≤ l.length
  ne : l ≠ [] → blk a ≠ some C
  small : l.length ≤ 100000000

theorem Cur.c0 {w : World} {C : Nat} {a : Option Addr} {cap : Nat} {l : List UInt8} {at' : Nat} (h : Cur w C a cap l at') : w.cell? ⟨C, 0, none⟩ = some (.int .i64 (at' : Int)) := by
  rw [cell_of_row w C 0 _ _ _ h.hp]; rfl
theorem Cur.c1 {w : World} {C : Nat} {a : Option Addr} {cap : Nat} {l : List UInt8} {at' : Nat} (h : Cur w C a cap l at') : w.cell? ⟨C, 1, none⟩ = some (.slice a l.length cap) := by
  rw [cell_of_row w C 1 _ _ _ h.hp]; rfl
theorem Cur.c2 {w : World} {C : Nat} {a : Option Addr} {cap : Nat} {l : List UInt8} {at' : Nat} (h : Cur w C a cap l at') : w.cell? ⟨C, 2, none⟩ = some (.bool true) := by
  rw [cell_of_row w C 2 _ _ _ h.hp]; rfl
theorem Cur.fr {w : World} {C : Nat} {a : Option Addr} {cap : Nat} {l : List UInt8} {at' : Nat} (h : Cur w C a cap l at') (i : Nat) : w.frozen? ⟨C, i, none⟩ = false := frozen_of_row w C i _ _ h.hp

set_option maxHeartbeats 400000 in
theorem unmade_made (C : Nat) (a : Option Addr) (cap : Nat) (l : List UInt8) (at' : Nat) (w : World) (hC : Cur w C a cap l at') :
    Calls Tryz.prog 136 #[.pointer (some ⟨C, 0, none⟩)] w fun e w' => e = .returned (.bool false) ∧ w' = w := by
  have h2 := hC.c2
  go_enter Tryz.func136, Tryz.ntmps136
  go_wp2
  go_ret
  exact ⟨rfl, rfl⟩

theorem drewN_bs {w : World} {a : Option Addr} {cap : Nat} {l : List UInt8} (h : Bs w a cap l) (n : Nat) : Bs (w.drewN n) a cap l := h.below (below_drewN (Below.refl w.heap.size w) n) (Nat.le_refl _)

set_option maxHeartbeats 1000000 in
theorem left_any (C : Nat) (a : Option Addr) (cap : Nat) (l : List UInt8) (at' : Nat) (w : World) (hC : Cur w C a cap l at') :
    Calls Tryz.prog 137 #[.pointer (some ⟨C, 0, none⟩)] w fun e w' => ∃ a' n, e = .returned (.slice a' (l.drop at').length (cap - at')) ∧ Bs w' a' (cap - at') (l.drop at') ∧ blk a' = blk a ∧ w' = w.drewN n := by
  have h0 := hC.c0
  have h1 := hC.c1
  have hle := hC.le
  have hcap := hC.bs.le
  have hm := hC.bs.most
  unfold maxLen at hm
  have hB := hide hC.bs
  rw [List.length_drop]
  by_cases hne : cap = at'
  · have hd : l.drop at' = [] := List.drop_of_length_le (by omega)
    rw [hd, show l.length - at' = 0 by omega, show cap - at' = 0 by omega]
    have hnz := hC.bs.nz
    subst hne
    go_enter Tryz.func137, Tryz.ntmps137
    go_wp2
    go_quiet (fail)
    go_wp2
    go_ret
    refine ⟨a, nq, rfl, ⟨fun h => absurd rfl h, by simp, by unfold maxLen; omega, fun h => rfl⟩, rfl, rfl⟩
  · cases a with
    | none => exact absurd (show cap = at' by have := hC.bs.nz rfl; omega) hne
    | some ad =>
      by_cases hl : l = []
      · subst hl
        have ha0 : at' = 0 := by simp at hle; exact hle
        subst ha0
        go_enter Tryz.func137, Tryz.ntmps137
        go_wp2
        go_quiet (fail)
        go_wp2
        go_ret
        refine ⟨_, nq, rfl, ⟨fun h => absurd rfl h, by simp, by unfold maxLen; omega, fun h => by cases h⟩, rfl, rfl⟩
      · obtain ⟨b, off, hh, hc⟩ := hC.bs.row hl
        obtain rfl := Option.some.inj hh
        go_enter Tryz.func137, Tryz.ntmps137
        go_wp2
        go_quiet (fail)
        go_wp2
        go_ret
        refine ⟨some ⟨b, off + at', none⟩, nq, rfl, ⟨(drewN_bs (unhide hB) nq).row.drop at', by simp; omega, by unfold maxLen; omega, fun h => by cases h⟩, rfl, rfl⟩

set_option maxHeartbeats 400000 in
theorem forward_any (C : Nat) (x n : Int) (w : World) (h0 : w.cell? ⟨C, 0, none⟩ = some (.int .i64 x)) (hf : w.frozen? ⟨C, 0, none⟩ = false) (hx0 : 0 ≤ x) (hn0 : 0 ≤ n) (hx : x ≤ 1000000000) (hn : n ≤ 1000000000) :
    Calls Tryz.prog 138 #[.pointer (some ⟨C, 0, none⟩), .int .i64 n] w fun e w' => e = .returned (.tuple #[]) ∧ w' = w.setCell ⟨C, 0, none⟩ (.int .i64 (x + n)) := by
  go_enter Tryz.func138, Tryz.ntmps138
  go_wp2
  go_end0
  exact ⟨rfl, rfl⟩

set_option maxHeartbeats 1000000 in
theorem first_none (a : Option Addr) (cap : Nat) (w : World) :
    Calls Tryz.prog 163 #[.slice a 0 cap] w fun e w' => e = .returned (.tuple #[.int .i64 0, .int .i64 0, .int .i64 2]) ∧ w' = w := by
  go_enter Tryz.func163, Tryz.ntmps163
  go_wp2
  go_ret3
  exact ⟨rfl, rfl⟩

set_option maxHeartbeats 1000000 in
theorem first_low (b off n cap : Nat) (c : UInt8) (w : World) (hn : 1 ≤ n) (h0 : w.cell? ⟨b, off, none⟩ = some (.int .u8 (c.toNat : Int))) (hc : c.toNat ≤ 247) :
    Calls Tryz.prog 163 #[.slice (some ⟨b, off, none⟩) n cap] w fun e w' => e = .returned (.tuple #[.int .i64 (c.toNat : Int), .int .i64 1, .int .i64 0]) ∧ w' = w := by
  have hnz : ((n : Int) == 0) = false := by simp; omega
  have hnp : (0 : Int) < (n : Int) := by omega
  generalize c.toNat = x at *
  go_enter Tryz.func163, Tryz.ntmps163
  go_wp2
  go_ret3
  exact ⟨rfl, rfl⟩

set_option maxHeartbeats 1000000 in
theorem first_short (b off n cap : Nat) (c : UInt8) (w : World) (hn : 1 ≤ n) (h0 : w.cell? ⟨b, off, none⟩ = some (.int .u8 (c.toNat : Int))) (hc : 248 ≤ c.toNat) (hs : n < 1 + (c.toNat - 247)) :
    Calls Tryz.prog 163 #[.slice (some ⟨b, off, none⟩) n cap] w fun e w' => e = .returned (.tuple #[.int .i64 0, .int .i64 0, .int .i64 2]) ∧ w' = w := by
  have hnz : ((n : Int) == 0) = false := by simp; omega
  have hnp : (0 : Int) < (n : Int) := by omega
  have hc256 : c.toNat < 256 := c.toNat_lt
  obtain ⟨k, hk⟩ : ∃ k, c.toNat = 247 + k := ⟨c.toNat - 247, by omega⟩
  have hk1 : 1 ≤ k := by omega
  have hk2 : k ≤ 8 := by omega
  have hs2 : n < 1 + k := by omega
  obtain ⟨x, hx⟩ : ∃ x : Int, x = (c.toNat : Int) := ⟨_, rfl⟩
  rw [← hx] at h0
  have hx1 : 248 ≤ x := by omega
  have hx2 : x ≤ 255 := by omega
  have hxk : x - 247 = (k : Int) := by omega
  clear hx hk hs hc hc256
  go_enter Tryz.func163, Tryz.ntmps163
  go_wp2
  go_ret3
  exact ⟨rfl, rfl⟩

theorem behind_any (N : Nat) (w : World) (h : N ≤ 18446744073709551615) :
    Calls Tryz.prog 92 #[.int .u64 (N : Int)] w fun e w' => e = .returned (.int .i64 (bb N : Nat)) ∧ w' = w := by
  by_cases h1 : N ≤ 247
  · rw [bb, if_pos h1]
    exact behind_low _ _ (by omega) (by omega)
  · rw [bb, if_neg h1]
    have := behind_high (N : Int) w (by omega) (by omega)
    rw [Int.toNat_natCast] at this
    exact this

/-- What stands behind the first byte is there: the answer hangs on the number. -/
def rdk (N k : Nat) : Nat × Nat × Nat := if bb N < k then (0, 0, 10) else if 9223372036854775807 < N then (0, 0, 5) else (N, k + 1, 0)

set_option maxHeartbeats 1000000 in
theorem first_high (b off cap : Nat) (l : List UInt8) (c : UInt8) (k : Nat) (w : World) (hB : Bs w (some ⟨b, off, none⟩) cap l) (h0 : w.cell? ⟨b, off, none⟩ = some (.int .u8 (c.toNat : Int))) (hk : c.toNat = 247 + k) (hk1 : 1 ≤ k) (hs : ¬ l.length < 1 + k) :
    Calls Tryz.prog 163 #[.slice (some ⟨b, off, none⟩) l.length cap] w fun e w' => e = .returned (.tuple #[.int .i64 ((rdk (ofBe ((l.drop 1).take k)) k).1 : Nat), .int .i64 ((rdk (ofBe ((l.drop 1).take k)) k).2.1 : Nat), .int .i64 ((rdk (ofBe ((l.drop 1).take k)) k).2.2 : Nat)]) ∧ w' = w := by
  have hle := hB.le
  have hm := hB.most
  unfold maxLen at hm
  have hnz : ((l.length : Int) == 0) = false := by rw [beq_eq_false_iff_ne]; omega
  have hnp : (0 : Int) < (l.length : Int) := by omega
  have hc256 : c.toNat < 256 := c.toNat_lt
  have hk2 : k ≤ 8 := by omega
  obtain ⟨x, hx⟩ : ∃ x : Int, x = (c.toNat : Int) := ⟨_, rfl⟩
  rw [← hx] at h0
  have hx1 : 248 ≤ x := by omega
  have hx2 : x ≤ 255 := by omega
  have hxk : x - 247 = (k : Int) := by omega
  have hcap : 1 + k ≤ cap := by omega
  have hcap1 : ¬ cap = 1 := by omega
  have hlen : k = ((l.drop 1).take k).length := by rw [List.length_take, List.length_drop]; omega
  have hrow : Row w (some ⟨b, off + 1, none⟩) ((l.drop 1).take k) := (hB.row.drop 1).take k
  have hf := fromHighest_any (some ⟨b, off + 1, none⟩) k (cap - 1) ((l.drop 1).take k) w hrow hlen (by rw [← hlen]; omega)
  have hN : ofBe ((l.drop 1).take k) ≤ 18446744073709551615 := by
    have h1 := ofBe_lt ((l.drop 1).take k)
    rw [← hlen] at h1
    have h2 := Nat.pow_le_pow_right (show 0 < 256 by decide) hk2
    have h4 : (256 : Nat) ^ 8 = 18446744073709551616 := by decide
    omega
  generalize ofBe ((l.drop 1).take k) = N at *
  have hbv := behind_any N w hN
  have hfh := hide hf
  have hbh := hide hbv
  have hN' : (N : Int) ≤ 18446744073709551615 := by omega
  have hN0 : (0 : Int) ≤ (N : Int) := by omega
  obtain ⟨y, hy⟩ : ∃ y : Int, y = (N : Int) := ⟨_, rfl⟩
  rw [← hy] at hfh hbh hN' hN0
  have HY := hide hy
  have hbbl : bb N ≤ 8 := by
    have := nb_pos N
    unfold bb
    split <;> omega
  clear hf hbv hrow hlen hx hk hc256 hN hy
  by_cases h1 : bb N < k
  · rw [rdk, if_pos h1]
    go_enter Tryz.func163, Tryz.ntmps163
    go_wp2_with fail
    refine (unhide hfh).mono ?_
    rintro e w1 ⟨rfl, rfl⟩
    go_wp2_with fail
    refine (unhide hbh).mono ?_
    rintro e w1 ⟨rfl, rfl⟩
    go_wp2
    go_ret3
    exact ⟨rfl, rfl⟩
  · by_cases h2 : 9223372036854775807 < N
    · have h2' : 9223372036854775807 < y := by have := HY.out; omega
      rw [rdk, if_neg h1, if_pos h2]
      clear h2
      go_enter Tryz.func163, Tryz.ntmps163
      go_wp2_with fail
      refine (unhide hfh).mono ?_
      rintro e w1 ⟨rfl, rfl⟩
      go_wp2_with fail
      refine (unhide hbh).mono ?_
      rintro e w1 ⟨rfl, rfl⟩
      go_wp2
      go_ret3
      exact ⟨rfl, rfl⟩
    · have h2' : ¬ 9223372036854775807 < y := by have := HY.out; omega
      rw [rdk, if_neg h1, if_neg h2]
      clear h2
      go_enter Tryz.func163, Tryz.ntmps163
      go_wp2_with fail
      refine (unhide hfh).mono ?_
      rintro e w1 ⟨rfl, rfl⟩
      go_wp2_with fail
      refine (unhide hbh).mono ?_
      rintro e w1 ⟨rfl, rfl⟩
      go_wp2
      go_ret3
      refine ⟨?_, rfl⟩
      have e1 : (1 : Int) + (k : Int) = ((k + 1 : Nat) : Int) := by omega
      have e2 := HY.out
      simp [e2]
      try omega

/-- wire.firstNumber. -/
theorem first_any (a : Option Addr) (n cap : Nat) (l : List UInt8) (w : World) (hB : Bs w a cap l) (hn : n = l.length) :
    Calls Tryz.prog 163 #[.slice a n cap] w fun e w' => ∃ N S E : Nat, e = .returned (.tuple #[.int .i64 (N : Int), .int .i64 (S : Int), .int .i64 (E : Int)]) ∧ Hid ((N, S, E) = rd l) ∧ w' = w := by
  subst hn
  cases l with
  | nil =>
    refine (first_none a cap w).mono ?_
    rintro e w' ⟨rfl, rfl⟩
    exact ⟨0, 0, 2, rfl, rfl, rfl⟩
  | cons c t =>
    obtain ⟨b, off, rfl, hc⟩ := hB.row (by simp)
    have h0 : w.cell? ⟨b, off, none⟩ = some (.int .u8 (c.toNat : Int)) := by simpa using hc 0 (by simp)
    by_cases h1 : c.toNat ≤ 247
    · refine (first_low b off _ cap c w (by simp) h0 h1).mono ?_
      rintro e w' ⟨rfl, rfl⟩
      exact ⟨c.toNat, 1, 0, rfl, by show _ = _; simp only [rd, if_pos h1], rfl⟩
    · by_cases h2 : t.length < c.toNat - 247
      · refine (first_short b off _ cap c w (by simp) h0 (by omega) (by simp; omega)).mono ?_
        rintro e w' ⟨rfl, rfl⟩
        exact ⟨0, 0, 2, rfl, by show _ = _; simp only [rd, if_neg h1, if_pos h2], rfl⟩
      · refine (first_high b off cap (c :: t) c (c.toNat - 247) w hB h0 (by omega) (by omega) (by simp; omega)).mono ?_
        rintro e w' ⟨rfl, rfl⟩
        refine ⟨_, _, _, rfl, ?_, rfl⟩
        show _ = _
        simp only [rd, if_neg h1, if_neg h2, rdk, List.drop_succ_cons, List.drop_zero]

#print axioms first_any
#print axioms left_any
end Go.Proofs.YtmcgghjeocnpnaaGreatDoor
end
section
set_option linter.unusedVariables false
namespace Go.Proofs.YtmcgghjeocnpnaaGreatDoor
open Go.RowKit

theorem grownBy_drewN (w : World) (n : Nat) (row : Option Nat) : w.grownBy (w.drewN n) row := ⟨rfl, rfl, rfl, Nat.le_refl _, fun _ _ _ => rfl⟩
theorem grownBy_trans {a b c : World} {row : Option Nat} (h : a.grownBy b row) (k : b.grownBy c row) : a.grownBy c row :=
  ⟨k.os.trans h.os, k.tape.trans h.tape, k.output.trans h.output, Nat.le_trans h.size k.size, fun i hi hne => (k.block i (Nat.lt_of_lt_of_le hi h.size) hne).trans (h.block i hi hne)⟩
theorem grownBy_set (w : World) (p : Addr) (u : Value) : w.grownBy (w.setCell p u) (some p.block) :=
  ⟨rfl, rfl, rfl, by simp [World.setCell], fun k hk hne => Below.heap_setCell w p u k (by intro h; subst h; exact hne rfl)⟩

theorem Cur.below {w w' : World} {C B : Nat} {a : Option Addr} {cap : Nat} {l : List UInt8} {at' : Nat} (h : Cur w C a cap l at') (hb : Below B w w') (hB : w.heap.size ≤ B) : Cur w' C a cap l at' := by
  have hC : C < w.heap.size := (Array.getElem?_eq_some_iff.1 h.hp).1
  exact ⟨by rw [hb.block C (by omega)]; exact h.hp, h.bs.below hb hB, h.le, h.ne, h.small⟩

theorem Cur.drewN {w : World} {C : Nat} {a : Option Addr} {cap : Nat} {l : List UInt8} {at' : Nat} (h : Cur w C a cap l at') (n : Nat) : Cur (w.drewN n) C a cap l at' := h.below (below_drewN (Below.refl w.heap.size w) n) (Nat.le_refl _)

theorem Cur.moved {w : World} {C : Nat} {a : Option Addr} {cap : Nat} {l : List UInt8} {at' : Nat} (h : Cur w C a cap l at') (n : Nat) (hn : n ≤ l.length) (x : Int) (hx : x = (n : Int)) : Cur (w.setCell ⟨C, 0, none⟩ (.int .i64 x)) C a cap l n := by
  subst hx
  refine ⟨?_, ?_, hn, h.ne, h.small⟩
  · have hC : C < w.heap.size := (Array.getElem?_eq_some_iff.1 h.hp).1
    simp only [World.setCell, Array.getElem?_modify]
    rw [if_pos trivial, h.hp]
    rfl
  · by_cases hl : l = []
    · subst hl
      exact ⟨fun q => absurd rfl q, h.bs.le, h.bs.most, h.bs.nz⟩
    · exact h.bs.grown (grownBy_set w ⟨C, 0, none⟩ _) (.inr (h.ne hl))

theorem rd_zero (l : List UInt8) (N S E : Nat) (h : (N, S, E) = rd l) (hE : E ≠ 0) : S = 0 ∧ N = 0 := by
  have hE2 : (rd l).2.2 ≠ 0 := by rw [← h]; exact hE
  revert hE2 h
  cases l with
  | nil => intro h1 h2; simp [rd] at h1; omega
  | cons c t =>
    intro h1 h2
    unfold rd at h1 h2
    simp only at h1 h2
    split at h1
    · rename_i q; rw [if_pos q] at h2; exact absurd rfl h2
    · split at h1
      · simp at h1; omega
      · split at h1
        · simp at h1; omega
        · split at h1
          · simp at h1; omega
          · rename_i q1 q2 q3 q4; rw [if_neg q1, if_neg q2, if_neg q3, if_neg q4] at h2; exact absurd rfl h2

/-- What Text answers: the text, the error's number, how many bytes were read. -/
def tx (l : List UInt8) (m : Int) : List UInt8 × Nat × Nat :=
  if (rd l).2.2 ≠ 0 then ([], (rd l).2.2, 0)
  else if max m 0 < ((rd l).1 : Int) then ([], 4, 0)
  else if l.length - (rd l).2.1 < (rd l).1 then ([], 2, 0)
  else ((l.drop (rd l).2.1).take (rd l).1, 0, (rd l).2.1 + (rd l).1)

set_option maxHeartbeats 1000000 in
/-- wire.From. -/
theorem from_any (a : Option Addr) (n cap : Nat) (l : List UInt8) (w : World) (hB : Bs w a cap l) (hn : n = l.length) (hl : l.length ≤ 100000000) :
    Calls Tryz.prog 106 #[.slice a n cap] w fun e w' => ∃ C a' cap', e = .returned (.pointer (some ⟨C, 0, none⟩)) ∧ Cur w' C a' cap' l 0 ∧ w.heap.size ≤ C ∧ (∀ k, blk a' = some k → w.heap.size ≤ k) ∧ Below w.heap.size w w' := by
  subst hn
  go_enter Tryz.func106, Tryz.ntmps106
  go_wp2_with fail
  refine (bclone_any a _ cap l w hB rfl hl).mono ?_
  rintro e w1 ⟨a1, cap1, r, rfl, hr, ho, hb⟩
  have er : l = r := hr.out.symm
  subst er
  have hs := hb.size
  have hcur : Cur (w1.alloc (.cells #[.int .i64 0, .slice a1 l.length cap1, .bool true] 192)) w1.heap.size a1 cap1 l 0 := by
    refine ⟨heap_alloc_new w1 _, ho.toBs.alloc _, Nat.zero_le _, fun hne h => ?_, hl⟩
    have := (ho.lt _ h).2
    omega
  have H := hide hcur
  clear hcur hr
  go_wp2
  go_ret
  exact ⟨w1.heap.size, a1, cap1, rfl, unhide H, hs, fun k hk => (ho.lt k hk).1, hb.alloc hs _⟩

set_option maxHeartbeats 1000000 in
/-- Cursor.Number. -/
theorem cnumber_any (C : Nat) (a : Option Addr) (cap : Nat) (l : List UInt8) (at' : Nat) (w : World) (hC : Cur w C a cap l at') :
    Calls Tryz.prog 134 #[.pointer (some ⟨C, 0, none⟩)] w fun e w' => ∃ N S E : Nat, e = .returned (.tuple #[.int .i64 (N : Int), .int .i64 (E : Int)]) ∧ Hid ((N, S, E) = rd (l.drop at')) ∧ Cur w' C a cap l (at' + S) ∧ w.grownBy w' (some C) := by
  go_enter Tryz.func134, Tryz.ntmps134
  go_wp2_with fail
  refine (unmade_made C a cap l at' w hC).mono ?_
  rintro e w0 ⟨rfl, rfl⟩
  go_wp2_with fail
  refine (left_any C a cap l at' _ hC).mono ?_
  rintro e w1 ⟨a1, nd, rfl, hB1, hba1, rfl⟩
  go_wp2_with fail
  refine (first_any a1 _ _ (l.drop at') _ hB1 (by rw [List.length_drop])).mono ?_
  rintro e w2 ⟨N, S, E, rfl, hrd, rfl⟩
  have hd := rd_le (l.drop at')
  rw [← hrd.out] at hd
  simp only [List.length_drop] at hd
  obtain ⟨hd1, hd2, hd3⟩ := hd
  have hsm := hC.small
  have hle := hC.le
  by_cases hE : E = 0
  · subst hE
    have hC1 := hC.drewN nd
    have h0 := hC1.c0
    have hf := hC1.fr 0
    have HM := hide (hC1.moved (at' + S) (by omega) ((at' : Int) + (S : Int)) (by omega))
    go_wp2_with fail
    refine (forward_any C (at' : Int) (S : Int) _ h0 hf (by omega) (by omega) (by omega) (by omega)).mono ?_
    rintro e w3 ⟨rfl, rfl⟩
    go_wp2
    go_ret2
    exact ⟨N, S, 0, rfl, hrd, unhide HM, grownBy_trans (grownBy_drewN w0 nd _) (grownBy_set _ ⟨C, 0, none⟩ _)⟩
  · have hne : ((E : Int) != 0) = true := by rw [bne_iff_ne]; omega
    have hS : S = 0 ∧ N = 0 := rd_zero _ N S E hrd.out hE
    obtain ⟨rfl, rfl⟩ := hS
    have hC1 := hC.drewN nd
    go_wp2
    go_ret2
    exact ⟨0, 0, E, rfl, hrd, hC1, grownBy_drewN _ nd _⟩

set_option maxHeartbeats 2000000 in
/-- Cursor.Text. -/
theorem ctext_any (C : Nat) (a : Option Addr) (cap : Nat) (l : List UInt8) (at' : Nat) (m : Int) (w : World) (hC : Cur w C a cap l at') (hm0 : -9223372036854775808 ≤ m) (hm1 : m ≤ 9223372036854775807) :
    Calls Tryz.prog 184 #[.pointer (some ⟨C, 0, none⟩), .int .i64 m] w fun e w' => ∃ t, ∃ E S : Nat, e = .returned (.tuple #[.string (str t), .int .i64 (E : Int)]) ∧ Hid ((t, E, S) = tx (l.drop at') m) ∧ Cur w' C a cap l (at' + S) ∧ w.grownBy w' (some C) := by
  obtain ⟨M, hM⟩ : ∃ M, max m 0 = M := ⟨_, rfl⟩
  go_enter Tryz.func184, Tryz.ntmps184
  go_wp2_with fail
  refine (unmade_made C a cap l at' w hC).mono ?_
  rintro e w0 ⟨rfl, rfl⟩
  go_wp2_with fail
  refine (left_any C a cap l at' _ hC).mono ?_
  rintro e w1 ⟨a1, nd, rfl, hB1, hba1, rfl⟩
  go_wp2_with fail
  refine (first_any a1 _ _ (l.drop at') _ hB1 (by rw [List.length_drop])).mono ?_
  rintro e w2 ⟨N, S, E, rfl, hrd, rfl⟩
  have hd := rd_le (l.drop at')
  rw [← hrd.out] at hd
  simp only [List.length_drop] at hd
  obtain ⟨hd1, hd2, hd3⟩ := hd
  have hsm := hC.small
  have hle := hC.le
  have hC1 := hC.drewN nd
  have r1 : (rd (l.drop at')).1 = N := by rw [← hrd.out]
  have r2 : (rd (l.drop at')).2.1 = S := by rw [← hrd.out]
  have r3 : (rd (l.drop at')).2.2 = E := by rw [← hrd.out]
  have hN' : (N : Int) ≤ 9223372036854775807 := by omega
  by_cases hE : E = 0
  · subst hE
    by_cases h1 : M < (N : Int)
    · have HX : Hid (([], 4, 0) = tx (l.drop at') m) := by show _ = _; rw [tx, r1, r2, r3, hM, if_neg (by simp), if_pos h1]
      clear r1 r2 r3 hrd
      go_wp2
      go_ret2
      exact ⟨[], 4, 0, rfl, HX, hC1, grownBy_drewN _ nd _⟩
    · by_cases h2 : (l.drop at').length - S < N
      · have HX : Hid (([], 2, 0) = tx (l.drop at') m) := by show _ = _; rw [tx, r1, r2, r3, hM, if_neg (by simp), if_neg h1, if_pos h2]
        rw [List.length_drop] at h2
        have h2' : (l.length : Int) - (at' : Int) - (S : Int) < (N : Int) := by omega
        have hsub : ((l.length - at' : Nat) : Int) = (l.length : Int) - (at' : Int) := by omega
        clear r1 r2 r3 hrd
        go_wp2
        go_ret2
        exact ⟨[], 2, 0, rfl, HX, hC1, grownBy_drewN _ nd _⟩
      · have HX : Hid ((((l.drop at').drop S).take N, 0, S + N) = tx (l.drop at') m) := by show _ = _; rw [tx, r1, r2, r3, hM, if_neg (by simp), if_neg h1, if_neg h2]
        rw [List.length_drop] at h2
        have h2' : ¬ ((l.length : Int) - (at' : Int) - (S : Int) < (N : Int)) := by omega
        have hsub : ((l.length - at' : Nat) : Int) = (l.length : Int) - (at' : Int) := by omega
        have hNs : N ≤ 100000000 := by omega
        have hSs : S ≤ 100000000 := by omega
        have h0 := hC1.c0
        have hf := hC1.fr 0
        have HM := hide (hC1.moved (at' + (S + N)) (by omega) ((at' : Int) + ((S : Int) + (N : Int))) (by omega))
        have hcap := hC.bs.le
        have hS1 : 1 ≤ S := hd3 rfl
        have hl1 : l ≠ [] := by intro e; subst e; simp at hd1; omega
        have hnC : blk a1 ≠ some C := by rw [hba1]; exact hC.ne hl1
        obtain ⟨b, off, rfl, _⟩ := hB1.row (by intro e; have := congrArg List.length e; simp at this; omega)
        have hBm := hide (hB1.grown (grownBy_set (w0.drewN nd) ⟨C, 0, none⟩ (.int .i64 ((at' : Int) + ((S : Int) + (N : Int))))) (.inr hnC))
        have hG := hide (grownBy_trans (grownBy_drewN w0 nd (some C)) (grownBy_set (w0.drewN nd) ⟨C, 0, none⟩ (.int .i64 ((at' : Int) + ((S : Int) + (N : Int))))))
        clear r1 r2 r3 hrd hnC hba1
        go_wp2_with fail
        refine (forward_any C (at' : Int) ((S : Int) + (N : Int)) _ h0 hf (by omega) (by omega) (by omega) (by omega)).mono ?_
        rintro e w3 ⟨rfl, hw3⟩
        have hBm2 := unhide hBm
        have hG2 := unhide hG
        have HM2 := unhide HM
        rw [← hw3] at hBm2 hG2 HM2
        clear hw3 h0 hf hC1 hB1 hBm hG HM
        obtain ⟨c', hc'⟩ : ∃ c', c' = cap - at' := ⟨_, rfl⟩
        have hc1 : S + N ≤ c' := by omega
        rw [← hc'] at hBm2
        have hcc := hide hc'
        have hcc2 : cap - at' = c' := hc'.symm
        clear hc'
        by_cases hcs : c' = S
        · have hN0 : N = 0 := by omega
          subst hN0
          subst hcs
          have k1 : ∀ c, (convert 86 9 (.slice (some ⟨b, off, none⟩) 0 c)).run Tryz.prog w3 = .ok (.string (str [])) w3 := fun c => run_str _ _ _ _ _ (fun h => absurd rfl h) rfl
          have HX2 : Hid (([], 0, c' + 0) = tx (l.drop at') m) := by show _ = _; rw [← HX.out]; simp
          clear HX
          go_wp2
          go_ret2
          exact ⟨[], 0, c' + 0, rfl, HX2, HM2, hG2⟩
        · obtain ⟨H, hH⟩ : ∃ H, H = S + N := ⟨_, rfl⟩
          have hHi : (S : Int) + (N : Int) = (H : Int) := by omega
          have hHN : H - S = N := by omega
          have hH1 : H ≤ c' := by omega
          have hH2 : S ≤ H := by omega
          have k1 : ∀ c, (convert 86 9 (.slice (some ⟨b, off + S, none⟩) N c)).run Tryz.prog w3 = .ok (.string (str (((l.drop at').drop S).take N))) w3 := fun c => run_str _ _ _ _ _ ((hBm2.row.drop S).take N) (by simp; omega)
          generalize ((l.drop at').drop S).take N = t at *
          have hHh := hide hH
          clear hH
          go_wp2
          go_ret2
          exact ⟨t, 0, S + N, rfl, HX, HM2, hG2⟩
  · have hne : ((E : Int) != 0) = true := by rw [bne_iff_ne]; omega
    have HX : Hid (([], E, 0) = tx (l.drop at') m) := by show _ = _; rw [tx, r3, if_pos hE]
    clear r1 r2 r3 hrd
    go_wp2
    go_ret2
    exact ⟨[], E, 0, rfl, HX, hC1, grownBy_drewN _ nd _⟩

set_option maxHeartbeats 1000000 in
/-- Cursor.Rest. -/
theorem crest_any (C : Nat) (a : Option Addr) (cap : Nat) (l : List UInt8) (at' : Nat) (w : World) (hC : Cur w C a cap l at') :
    Calls Tryz.prog 135 #[.pointer (some ⟨C, 0, none⟩)] w fun e w' => ∃ a' cap' r, e = .returned (.slice a' r.length cap') ∧ Hid (r = l.drop at') ∧ OwnB w' w.heap.size a' cap' r ∧ Cur w' C a cap l l.length ∧ w.grownBy w' (some C) := by
  have hsm := hC.small
  have hle := hC.le
  go_enter Tryz.func135, Tryz.ntmps135
  go_wp2_with fail
  refine (unmade_made C a cap l at' w hC).mono ?_
  rintro e w0 ⟨rfl, rfl⟩
  go_wp2_with fail
  refine (left_any C a cap l at' _ hC).mono ?_
  rintro e w1 ⟨a1, nd, rfl, hB1, hba1, rfl⟩
  have hC1 := hC.drewN nd
  have h0 := hC1.c0
  have hf := hC1.fr 0
  have hsub : ((l.length - at' : Nat) : Int) = (l.length : Int) - (at' : Int) := by omega
  have HM := hide (hC1.moved l.length (Nat.le_refl _) ((at' : Int) + ((l.length : Int) - (at' : Int))) (by omega))
  have hBm : Hid (Bs ((w0.drewN nd).setCell ⟨C, 0, none⟩ (.int .i64 ((at' : Int) + ((l.length : Int) - (at' : Int))))) a1 (cap - at') (l.drop at')) := by
    by_cases hl : l = []
    · subst hl
      simp only [List.drop_nil] at hB1 ⊢
      exact ⟨fun h => absurd rfl h, hB1.le, hB1.most, hB1.nz⟩
    · exact hB1.grown (grownBy_set (w0.drewN nd) ⟨C, 0, none⟩ _) (.inr (by rw [hba1]; exact hC.ne hl))
  have hG := hide (grownBy_trans (grownBy_drewN w0 nd (some C)) (grownBy_set (w0.drewN nd) ⟨C, 0, none⟩ (.int .i64 ((at' : Int) + ((l.length : Int) - (at' : Int))))))
  go_wp2_with fail
  refine (forward_any C (at' : Int) ((l.length : Int) - (at' : Int)) _ h0 hf (by omega) (by omega) (by omega) (by omega)).mono ?_
  rintro e w3 ⟨rfl, hw3⟩
  have hBm2 := unhide hBm
  have hG2 := unhide hG
  have HM2 := unhide HM
  rw [← hw3] at hBm2 hG2 HM2
  clear hw3 h0 hf hC1 hB1 hBm hG HM
  go_wp2_with fail
  refine (bclone_any a1 _ (cap - at') (l.drop at') w3 hBm2 (by rw [List.length_drop]) (by rw [List.length_drop]; omega)).mono ?_
  rintro e w4 ⟨a4, cap4, r4, rfl, hr4, ho4, hb4⟩
  have HM4 := HM2.below hb4 (Nat.le_refl _)
  have hG4 : w0.grownBy w4 (some C) := grownBy_trans hG2 ⟨hb4.os, hb4.tape, hb4.output, hb4.size, fun k hk _ => hb4.block k hk⟩
  go_wp2
  go_ret
  exact ⟨a4, cap4, r4, rfl, hr4, ho4.base hG2.size, HM4, hG4⟩


#print axioms crest_any
end Go.Proofs.YtmcgghjeocnpnaaGreatDoor
end
