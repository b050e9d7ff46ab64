/-
  THE WALK of wire.Unframe.
-/
import Derived.Test.YtmcgghjeocnpnaaGreatDoorPkKewsav
import Derived.Test.YtmcgghjeocnpnaaGreatDoorPkKewsad
import Derived.Deep.QuietTactic
import Derived.BigQuiet
import Derived.BigRegion
import Derived.Deep.RegionWith
section
set_option linter.unusedVariables false
namespace Go.Proofs.YtmcgghjeocnpnaaGreatDoor
open Go.RowKit

theorem unf_short (a : Option Addr) (n cap : Nat) (w : World) (hb : n < 3) :
    Calls Tryz.prog 133 #[.slice a n cap] w fun e w' => e = .returned (.tuple #[.slice none 0 0, .int .i64 0, .int .i64 2]) ∧ w' = w := by
  go_enter Tryz.func133, Tryz.ntmps133
  go_wp2
  go_ret3
  exact ⟨rfl, rfl⟩

set_option maxHeartbeats 1000000 in
theorem unf_long (a : Option Addr) (cap : Nat) (l : List UInt8) (w : World) (hB : Bs w a cap l) (h3 : 3 ≤ l.length) (hbig : 65536 < ofBe (l.take 3)) :
    Calls Tryz.prog 133 #[.slice a l.length cap] w fun e w' => e = .returned (.tuple #[.slice none 0 0, .int .i64 0, .int .i64 4]) ∧ w' = w := by
  have hle := hB.le
  have hm : l.length ≤ maxLen := Nat.le_trans hB.le hB.most
  unfold maxLen at hm
  have h3c : 3 ≤ cap := by omega
  have hS : ofBe (l.take 3) < 16777216 := by
    have h1 := ofBe_lt (l.take 3)
    have h2 : (l.take 3).length = 3 := by simp; omega
    rw [h2] at h1
    exact h1
  have hf := fromHighest_any a 3 cap (l.take 3) w (hB.row.take 3) (by simp; omega) (by simp; omega)
  generalize ofBe (l.take 3) = S at *
  have HF := hide hf
  clear hf
  go_enter Tryz.func133, Tryz.ntmps133
  go_wp2_with fail
  refine (unhide HF).mono ?_
  rintro e w' ⟨rfl, rfl⟩
  go_wp2
  go_ret3
  exact ⟨rfl, rfl⟩

set_option maxHeartbeats 1000000 in
theorem unf_ends (a : Option Addr) (cap : Nat) (l : List UInt8) (w : World) (hB : Bs w a cap l) (h3 : 3 ≤ l.length) (hbig : ¬ 65536 < ofBe (l.take 3)) (hsh : l.length < ofBe (l.take 3) + 7) :
    Calls Tryz.prog 133 #[.slice a l.length cap] w fun e w' => e = .returned (.tuple #[.slice none 0 0, .int .i64 0, .int .i64 2]) ∧ w' = w := by
  have hle := hB.le
  have h3c : 3 ≤ cap := by omega
  have hf := fromHighest_any a 3 cap (l.take 3) w (hB.row.take 3) (by simp; omega) (by simp; omega)
  generalize ofBe (l.take 3) = S at *
  have HF := hide hf
  clear hf
  go_enter Tryz.func133, Tryz.ntmps133
  go_wp2_with fail
  refine (unhide HF).mono ?_
  rintro e w' ⟨rfl, rfl⟩
  go_wp2
  go_ret3
  exact ⟨rfl, rfl⟩

theorem part0 (w : World) (a b c d : Int) : (part 5 #[.int .u8 a, .int .u8 b, .int .u8 c, .int .u8 d] 0).run Tryz.prog w = .ok (.int .u8 a) w := by kernel_rfl
theorem part1 (w : World) (a b c d : Int) : (part 5 #[.int .u8 a, .int .u8 b, .int .u8 c, .int .u8 d] 1).run Tryz.prog w = .ok (.int .u8 b) w := by kernel_rfl
theorem part2 (w : World) (a b c d : Int) : (part 5 #[.int .u8 a, .int .u8 b, .int .u8 c, .int .u8 d] 2).run Tryz.prog w = .ok (.int .u8 c) w := by kernel_rfl
theorem part3 (w : World) (a b c d : Int) : (part 5 #[.int .u8 a, .int .u8 b, .int .u8 c, .int .u8 d] 3).run Tryz.prog w = .ok (.int .u8 d) w := by kernel_rfl
theorem eq_four (w : World) (x0 x1 x2 x3 y0 y1 y2 y3 : Int) :
    (Op.equalIn 10000 152 (.agg #[.int .u8 x0, .int .u8 x1, .int .u8 x2, .int .u8 x3]) (.agg #[.int .u8 y0, .int .u8 y1, .int .u8 y2, .int .u8 y3])).run Tryz.prog w = .ok (x0 == y0 && (x1 == y1 && (x2 == y2 && x3 == y3))) w := by
  have hq := fun (a b : Int) => run_equalIn_int (P := Tryz.prog) w 9998 5 .u8 .u8 a b Tryz.underlying5
  rw [show (10000 : Nat) = 9998 + 1 + 1 from rfl]
  unfold Op.equalIn
  simp [run_underlying Tryz.underlying152, List.range', part0, part1, part2, part3, hq]
  by_cases h0 : x0 = y0
  · subst h0
    by_cases h1 : x1 = y1
    · subst h1
      by_cases h2 : x2 = y2
      · subst h2
        by_cases h3 : x3 = y3
        · subst h3; simp
        · simp [h3]
      · simp [h2]
    · simp [h1]
  · simp [h0]

theorem eq_four' (w : World) (x0 x1 x2 x3 y0 y1 y2 y3 : UInt8) :
    (Op.equalIn 10000 152 (.agg #[.int .u8 (x0.toNat : Int), .int .u8 (x1.toNat : Int), .int .u8 (x2.toNat : Int), .int .u8 (x3.toNat : Int)]) (.agg #[.int .u8 (y0.toNat : Int), .int .u8 (y1.toNat : Int), .int .u8 (y2.toNat : Int), .int .u8 (y3.toNat : Int)])).run Tryz.prog w = .ok ([x0, x1, x2, x3] == [y0, y1, y2, y3]) w := by
  rw [eq_four]
  congr 1
  have h : ∀ a b : UInt8, (((a.toNat : Nat) : Int) == ((b.toNat : Nat) : Int)) = (a == b) := by
    intro a b
    rw [Bool.eq_iff_iff, beq_iff_eq, beq_iff_eq]
    constructor
    · intro h
      exact UInt8.toNat.inj (by omega)
    · intro h
      rw [h]
  simp [h]

theorem sumBytes_at (a : Option Addr) (n cap : Nat) (l : List UInt8) (c0 c1 c2 c3 : UInt8) (w : World) (hr : Row w a l) (hn : n = l.length) (hl : l.length ≤ 1000000) (hbe : [c0, c1, c2, c3] = be 4 (crc l)) :
    Calls Tryz.prog 95 #[.slice a n cap] w fun e w' => e = .returned (.agg #[.int .u8 (c0.toNat : Int), .int .u8 (c1.toNat : Int), .int .u8 (c2.toNat : Int), .int .u8 (c3.toNat : Int)]) ∧
      w' = w.alloc (.cells #[.int .u8 (c0.toNat : Int), .int .u8 (c1.toNat : Int), .int .u8 (c2.toNat : Int), .int .u8 (c3.toNat : Int)] 152) := by
  refine (sumBytes_any a n cap l w hr hn hl).mono ?_
  rintro e w' ⟨e0, e1, e2, e3, he, rfl, rfl⟩
  have := he.out.trans hbe.symm
  simp only [List.cons.injEq, and_true] at this
  obtain ⟨rfl, rfl, rfl, rfl⟩ := this
  exact ⟨rfl, rfl⟩

set_option maxHeartbeats 1000000 in
theorem unf_sum (b off cap : Nat) (l : List UInt8) (S E : Nat) (d0 d1 d2 d3 c0 c1 c2 c3 : UInt8) (w : World) (hB : Bs w (some ⟨b, off, none⟩) cap l) (hS : S = ofBe (l.take 3)) (hE : E = S + 3) (hbig : ¬ 65536 < S) (hsh : ¬ l.length < E + 4)
    (hd : (l.drop E).take 4 = [d0, d1, d2, d3]) (hbe : [c0, c1, c2, c3] = be 4 (crc (l.take E))) (hcmp : ([d0, d1, d2, d3] == [c0, c1, c2, c3]) = false) :
    Calls Tryz.prog 133 #[.slice (some ⟨b, off, none⟩) l.length cap] w fun e w' => e = .returned (.tuple #[.slice none 0 0, .int .i64 0, .int .i64 11]) ∧ Below w.heap.size w w' := by
  have hle := hB.le
  have hm : l.length ≤ maxLen := Nat.le_trans hB.le hB.most
  unfold maxLen at hm
  have h3c : 3 ≤ cap := by omega
  have hf := hide (fromHighest_any (some ⟨b, off, none⟩) 3 cap (l.take 3) w (hB.row.take 3) (by simp; omega) (by simp; omega))
  rw [← hS] at hf
  obtain ⟨b', off', hh, hc⟩ := hB.row (by intro e; subst e; simp at hsh)
  obtain ⟨rfl, rfl⟩ : b = b' ∧ off = off' := by simpa using Option.some.inj hh
  clear hh
  have hg : ∀ i, i < 4 → l.getD (E + i) 0 = [d0, d1, d2, d3].getD i 0 := by
    intro i hi
    rw [← hd]
    simp [List.getD, hi]
  have e0 := hc E (by omega)
  have e1 := hc (E + 1) (by omega)
  have e2 := hc (E + 2) (by omega)
  have e3 := hc (E + 3) (by omega)
  rw [show l.getD E 0 = d0 from hg 0 (by decide)] at e0
  rw [show l.getD (E + 1) 0 = d1 from hg 1 (by decide)] at e1
  rw [show l.getD (E + 2) 0 = d2 from hg 2 (by decide)] at e2
  rw [show l.getD (E + 3) 0 = d3 from hg 3 (by decide)] at e3
  have hblk : b < w.heap.size := World.block_lt_of_cell? w _ e0
  have hE' : 3 + (S : Int) = (E : Int) := by omega
  have hE2 : E + 4 ≤ cap := by omega
  have hE3 : ¬ cap = E := by omega
  have hE8 : ¬ cap = 3 := by omega
  have hE4 : (E : Int) + 4 ≤ (cap : Int) := by omega
  have hE5 : (E : Int) ≤ (cap : Int) := by omega
  have hE6 : ¬ ((l.length : Int) < (E : Int) + 4) := by omega
  have hE7 : E ≤ 65539 := by omega
  have hE9 : 3 ≤ E := by omega
  have hS1 : ¬ ((65536 : Int) < (S : Int)) := by omega
  have hl3 : ¬ ((l.length : Int) < 3) := by omega
  rw [← Nat.add_assoc] at e1 e2 e3
  have hsp : ∀ (wx : World) (a : Option Addr) (c : Nat), (Instr.arrayAt 152 (.slice a 4 c)).run Tryz.prog wx = .ok (.pointer a) wx := by
    intro wx a c
    simp [Instr.arrayAt, run_underlying Tryz.underlying152]
  obtain ⟨F, hF⟩ : ∃ F, F = E + 4 := ⟨_, rfl⟩
  have hwr : IntKind.i64.wrap ((E : Int) + 4) = (F : Int) := by rw [IntKind.wrap_i64]; omega
  have hF1 : F ≤ cap := by omega
  have hF2 : E ≤ F := by omega
  have hF3 : F - E = 4 := by omega
  have hrow := hide (hB.row.take E)
  have hrowd := hide ((hB.row.take E).drop 3)
  have hlen := hide (show E = (l.take E).length by simp; omega)
  have hlen2 : (l.take E).length ≤ 1000000 := by simp; omega
  have hbe := hide hbe
  have heq : ∀ wx : World, (Op.equalIn 10000 152 (.agg #[.int .u8 (d0.toNat : Int), .int .u8 (d1.toNat : Int), .int .u8 (d2.toNat : Int), .int .u8 (d3.toNat : Int)]) (.agg #[.int .u8 (c0.toNat : Int), .int .u8 (c1.toNat : Int), .int .u8 (c2.toNat : Int), .int .u8 (c3.toNat : Int)])).run Tryz.prog wx = .ok false wx := fun wx => by rw [eq_four', hcmp]
  clear hF hE hS hc hcmp hd hg
  go_enter Tryz.func133, Tryz.ntmps133
  go_wp2_with fail
  refine (unhide hf).mono ?_
  rintro e w1 ⟨rfl, rfl⟩
  go_wp2
  go_region_with (go_at_call 95; refine (sumBytes_at _ _ _ (l.take E) c0 c1 c2 c3 _ (by exact unhide hrow) (unhide hlen) hlen2 (unhide hbe)).mono ?_; rintro e w2 ⟨rfl, rfl⟩)
  all_goals (go_wp2; go_ret3; exact ⟨rfl, ((Below.refl _ _).alloc (Nat.le_refl _) _).drew⟩)

set_option maxHeartbeats 1000000 in
theorem unf_ok (b off cap : Nat) (l : List UInt8) (S E : Nat) (d0 d1 d2 d3 c0 c1 c2 c3 : UInt8) (w : World) (hB : Bs w (some ⟨b, off, none⟩) cap l) (hS : S = ofBe (l.take 3)) (hE : E = S + 3) (hbig : ¬ 65536 < S) (hsh : ¬ l.length < E + 4)
    (hd : (l.drop E).take 4 = [d0, d1, d2, d3]) (hbe : [c0, c1, c2, c3] = be 4 (crc (l.take E))) (hcmp : ([d0, d1, d2, d3] == [c0, c1, c2, c3]) = true) :
    Calls Tryz.prog 133 #[.slice (some ⟨b, off, none⟩) l.length cap] w fun e w' => ∃ a' cap' r, ∃ F : Nat, e = .returned (.tuple #[.slice a' r.length cap', .int .i64 (F : Int), .int .i64 0]) ∧ Hid (F = E + 4) ∧ Hid (r = (l.take E).drop 3) ∧ OwnB w' w.heap.size a' cap' r ∧ Below w.heap.size w w' := by
  have hle := hB.le
  have hm : l.length ≤ maxLen := Nat.le_trans hB.le hB.most
  unfold maxLen at hm
  have h3c : 3 ≤ cap := by omega
  have hf := hide (fromHighest_any (some ⟨b, off, none⟩) 3 cap (l.take 3) w (hB.row.take 3) (by simp; omega) (by simp; omega))
  rw [← hS] at hf
  obtain ⟨b', off', hh, hc⟩ := hB.row (by intro e; subst e; simp at hsh)
  obtain ⟨rfl, rfl⟩ : b = b' ∧ off = off' := by simpa using Option.some.inj hh
  clear hh
  have hg : ∀ i, i < 4 → l.getD (E + i) 0 = [d0, d1, d2, d3].getD i 0 := by
    intro i hi
    rw [← hd]
    simp [List.getD, hi]
  have e0 := hc E (by omega)
  have e1 := hc (E + 1) (by omega)
  have e2 := hc (E + 2) (by omega)
  have e3 := hc (E + 3) (by omega)
  rw [show l.getD E 0 = d0 from hg 0 (by decide)] at e0
  rw [show l.getD (E + 1) 0 = d1 from hg 1 (by decide)] at e1
  rw [show l.getD (E + 2) 0 = d2 from hg 2 (by decide)] at e2
  rw [show l.getD (E + 3) 0 = d3 from hg 3 (by decide)] at e3
  have hblk : b < w.heap.size := World.block_lt_of_cell? w _ e0
  have hE' : 3 + (S : Int) = (E : Int) := by omega
  have hE2 : E + 4 ≤ cap := by omega
  have hE3 : ¬ cap = E := by omega
  have hE8 : ¬ cap = 3 := by omega
  have hE4 : (E : Int) + 4 ≤ (cap : Int) := by omega
  have hE5 : (E : Int) ≤ (cap : Int) := by omega
  have hE6 : ¬ ((l.length : Int) < (E : Int) + 4) := by omega
  have hE7 : E ≤ 65539 := by omega
  have hE9 : 3 ≤ E := by omega
  have hS1 : ¬ ((65536 : Int) < (S : Int)) := by omega
  have hl3 : ¬ ((l.length : Int) < 3) := by omega
  rw [← Nat.add_assoc] at e1 e2 e3
  have hsp : ∀ (wx : World) (a : Option Addr) (c : Nat), (Instr.arrayAt 152 (.slice a 4 c)).run Tryz.prog wx = .ok (.pointer a) wx := by
    intro wx a c
    simp [Instr.arrayAt, run_underlying Tryz.underlying152]
  obtain ⟨F, hF⟩ : ∃ F, F = E + 4 := ⟨_, rfl⟩
  have hwr : IntKind.i64.wrap ((E : Int) + 4) = (F : Int) := by rw [IntKind.wrap_i64]; omega
  have hF1 : F ≤ cap := by omega
  have hF2 : E ≤ F := by omega
  have hF3 : F - E = 4 := by omega
  have hrow := hide (hB.row.take E)
  have hrowd := hide ((hB.row.take E).drop 3)
  have hlen := hide (show E = (l.take E).length by simp; omega)
  have hlen2 : (l.take E).length ≤ 1000000 := by simp; omega
  have hbe := hide hbe
  have hlen3 := hide (show E - 3 = ((l.take E).drop 3).length by simp; omega)
  have hbs : Hid (Bs w (some ⟨b, off + 3, none⟩) (cap - 3) ((l.take E).drop 3)) := ⟨unhide hrowd, by simp; omega, by unfold maxLen; have := hB.most; unfold maxLen at this; omega, fun h => by cases h⟩
  have heq : ∀ wx : World, (Op.equalIn 10000 152 (.agg #[.int .u8 (d0.toNat : Int), .int .u8 (d1.toNat : Int), .int .u8 (d2.toNat : Int), .int .u8 (d3.toNat : Int)]) (.agg #[.int .u8 (c0.toNat : Int), .int .u8 (c1.toNat : Int), .int .u8 (c2.toNat : Int), .int .u8 (c3.toNat : Int)])).run Tryz.prog wx = .ok true wx := fun wx => by rw [eq_four', hcmp]
  have HF := hide hF
  clear hF hE hS hc hcmp hd hg
  go_enter Tryz.func133, Tryz.ntmps133
  go_wp2_with fail
  refine (unhide hf).mono ?_
  rintro e w1 ⟨rfl, rfl⟩
  go_wp2
  go_region_with (go_at_call 95; refine (sumBytes_at _ _ _ (l.take E) c0 c1 c2 c3 _ (by exact unhide hrow) (unhide hlen) hlen2 (unhide hbe)).mono ?_; rintro e w2 ⟨rfl, rfl⟩)
  all_goals
    go_wp2_with fail
    refine (bclone_any (some ⟨b, off + 3, none⟩) _ (cap - 3) ((l.take E).drop 3) _ (by exact (unhide hbs).below ((Below.refl _ _).alloc (Nat.le_refl _) _).drew (Nat.le_refl _)) (unhide hlen3) (by simp; omega)).mono ?_
    rintro e w3 ⟨a3, cap3, r3, rfl, hr3, ho3, hb3⟩
    go_wp2
    go_ret3
    exact ⟨a3, cap3, r3, F, rfl, HF, hr3, ho3.base (by simp), ((Below.refl _ _).alloc (Nat.le_refl _) _).drew.trans (hb3.mono (by simp))⟩

theorem four_of (l : List UInt8) (h : l.length = 4) : ∃ a b c d, l = [a, b, c, d] := by
  match l, h with
  | [a, b, c, d], _ => exact ⟨a, b, c, d, rfl⟩

/-- wire.Unframe. -/
theorem unframe_any (a : Option Addr) (n cap : Nat) (l : List UInt8) (w : World) (hB : Bs w a cap l) (hn : n = l.length) :
    Calls Tryz.prog 133 #[.slice a n cap] w fun e w' => ∃ a' cap' r, ∃ N E : Nat, e = .returned (.tuple #[.slice a' r.length cap', .int .i64 (N : Int), .int .i64 (E : Int)]) ∧ Hid ((r, N, E) = unframe l) ∧ OwnB w' w.heap.size a' cap' r ∧ Below w.heap.size w w' := by
  subst hn
  by_cases h1 : l.length < 3
  · refine (unf_short a _ cap w h1).mono ?_
    rintro e w' ⟨rfl, rfl⟩
    exact ⟨none, 0, [], 0, 2, rfl, by show _ = _; rw [unframe, if_pos h1], OwnB.nil _ _, Below.refl _ _⟩
  · by_cases h2 : 65536 < ofBe (l.take 3)
    · refine (unf_long a cap l w hB (by omega) h2).mono ?_
      rintro e w' ⟨rfl, rfl⟩
      exact ⟨none, 0, [], 0, 4, rfl, by show _ = _; rw [unframe, if_neg h1, if_pos h2], OwnB.nil _ _, Below.refl _ _⟩
    · by_cases h3 : l.length < ofBe (l.take 3) + 7
      · refine (unf_ends a cap l w hB (by omega) h2 h3).mono ?_
        rintro e w' ⟨rfl, rfl⟩
        exact ⟨none, 0, [], 0, 2, rfl, by show _ = _; rw [unframe, if_neg h1, if_neg h2, if_pos h3], OwnB.nil _ _, Below.refl _ _⟩
      · obtain ⟨b, off, rfl, _⟩ := hB.row (by intro e; subst e; simp at h1)
        obtain ⟨S, hS⟩ : ∃ S, S = ofBe (l.take 3) := ⟨_, rfl⟩
        rw [← hS] at h2 h3
        obtain ⟨d0, d1, d2, d3, hd⟩ := four_of ((l.drop (S + 3)).take 4) (by simp; omega)
        obtain ⟨c0, c1, c2, c3, hc⟩ := four_of (be 4 (crc (l.take (S + 3)))) (be_length _ _)
        cases hcmp : ([d0, d1, d2, d3] == [c0, c1, c2, c3]) with
        | false =>
          refine (unf_sum b off cap l S (S + 3) d0 d1 d2 d3 c0 c1 c2 c3 w hB hS rfl h2 (by omega) hd hc.symm hcmp).mono ?_
          rintro e w' ⟨rfl, hb⟩
          refine ⟨none, 0, [], 0, 11, rfl, ?_, OwnB.nil _ _, hb⟩
          show _ = _
          rw [unframe, if_neg h1, ← hS, if_neg h2, if_neg h3, hd, hc, if_neg]
          intro he
          rw [he] at hcmp
          simp at hcmp
        | true =>
          refine (unf_ok b off cap l S (S + 3) d0 d1 d2 d3 c0 c1 c2 c3 w hB hS rfl h2 (by omega) hd hc.symm hcmp).mono ?_
          rintro e w' ⟨a', cap', r, F, rfl, hF, hr, ho, hb⟩
          refine ⟨a', cap', r, F, 0, rfl, ?_, ho, hb⟩
          show _ = _
          rw [unframe, if_neg h1, ← hS, if_neg h2, if_neg h3, hd, hc, if_pos (by simpa using hcmp), hr.out, hF.out]
          have e1 : (l.take (S + 3)).drop 3 = (l.drop 3).take S := by
            rw [List.drop_take]
            simp
          rw [e1]

#print axioms unframe_any
end Go.Proofs.YtmcgghjeocnpnaaGreatDoor
end
