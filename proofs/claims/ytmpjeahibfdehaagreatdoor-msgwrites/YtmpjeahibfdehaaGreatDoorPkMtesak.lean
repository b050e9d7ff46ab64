/-
  jsonx: strings.Builder's WriteRune.; jsonx: strings.Builder's WriteRune; a builder beside a parser.
-/
import Derived.Test.YtmpjeahibfdehaaGreatDoorPkMtesaj
import Derived.Test.YtmpjeahibfdehaaGreatDoorPkMtesaa
import Derived.Test.YtmpjeahibfdehaaGreatDoorPkMtesaf
section
set_option linter.unusedVariables false
set_option maxRecDepth 1000000
namespace Go.Proofs.YtmpjeahibfdehaaGreatDoor
open Go.RowKit

theorem bs_nat (a : Nat) (h : a < 256) (l : List UInt8) : bs (UInt8.ofNat a :: l) = .int .u8 (a : Int) :: bs l := by
 simp only [bs, List.map_cons]
 congr 2
 simp
 omega
theorem en_cells (n : Nat) (h : Rune n) : bs (enB n) = Lib.runeCells (n : Int) := by
 obtain ⟨h1, h2⟩ := h
 unfold enB Lib.runeCells
 by_cases c1 : n < 128
 ·rw [if_pos c1, Lib.encodeRuneZ_one (by omega) (by omega), bs_nat n (by omega)]; rfl
 rw [if_neg c1]
 by_cases c2 : n < 2048
 ·rw [if_pos c2, Lib.encodeRuneZ_two (by omega) (by omega), bs_nat _ (by omega), bs_nat _ (by omega)]
  simp only [List.map_cons, List.map_nil]
  exact congr (congrArg _ (int_eq (by omega))) (congr (congrArg _ (int_eq (by omega))) rfl)
 rw [if_neg c2]
 by_cases c3 : n < 65536
 ·rw [if_pos c3, Lib.encodeRuneZ_three (by omega), bs_nat _ (by omega), bs_nat _ (by omega), bs_nat _ (by omega)]
  simp only [List.map_cons, List.map_nil]
  exact congr (congrArg _ (int_eq (by omega))) (congr (congrArg _ (int_eq (by omega))) (congr (congrArg _ (int_eq (by omega))) rfl))
 ·rw [if_neg c3, Lib.encodeRuneZ_four (by omega) (by omega), bs_nat _ (by omega), bs_nat _ (by omega), bs_nat _ (by omega), bs_nat _ (by omega)]
  simp only [List.map_cons, List.map_nil]
  exact congr (congrArg _ (int_eq (by omega))) (congr (congrArg _ (int_eq (by omega))) (congr (congrArg _ (int_eq (by omega))) (congr (congrArg _ (int_eq (by omega))) rfl)))
theorem en_ne (n : Nat) : enB n ≠ [] ∧ (enB n).length ≤ 4 := by
 unfold enB
 repeat' split
 all_goals simp
theorem appendRune4 (base : Nat) (a : Option Addr) (cap : Nat) (l : List UInt8) (n : Nat) (hr : Rune n) (w : World) (h : OwnB w base a cap l) (hl : l.length ≤ 1000000) (hb : base ≤ w.heap.size) :
  Calls Tryz.prog 165 #[.slice a l.length cap, .int .i32 (n : Int)] w fun e w' => ∃ a' cap' r, e = .returned (.slice a' r.length cap') ∧ Hid (r = l ++ enB n) ∧ Hid (OwnB w' base a' cap' r) ∧ Hid (∃ o, (w.alloc o).grownBy w' (blk a)) := by
 have hru := hr
 obtain ⟨h1, h2⟩ := hr
 have := Any.utf8_AppendRune_plain (ρ := Tryz.lays242_ren) Tryz.lays242 (by kernel_rfl) base (.slice a l.length cap) l.length (bs l) (n : Int) (by omega) (by omega) w h (by omega) hb
 refine Calls.mono this ?_
 rintro e w' ⟨v', rfl, ho, o, hg⟩
 rw [← en_cells n hru, ← bs_append] at ho
 have hlen : l.length + (bs (enB n)).length = (l ++ enB n).length := by rw [bs_length]; simp
 have hb2 : (Value.slice a l.length cap).ownBlock = blk a := by cases a <;> rfl
 rw [hb2] at hg
 rw [hlen] at ho
 obtain ⟨a', cap', rfl⟩ : ∃ a' cap', v' = .slice a' (l ++ enB n).length cap' := by
  rcases ho.2 with ⟨hv, hn⟩ | ⟨g, cap', cur, hv, _⟩
  ·exact ⟨none, 0, by rw [hv, hn]⟩
  ·exact ⟨_, cap', hv⟩
 exact ⟨a', cap', l ++ enB n, rfl, rfl, ho, ⟨o, hg⟩⟩
end Go.Proofs.YtmpjeahibfdehaaGreatDoor
end
section
set_option linter.unusedVariables false
set_option maxRecDepth 1000000
namespace Go.Proofs.YtmpjeahibfdehaaGreatDoor
open Go.RowKit

set_option maxHeartbeats 1000000 in
theorem bwr_any (base b : Nat) (p : Value) (l : List UInt8) (w : World) (h : Bld w base b p l) (hp : p = .pointer none ∨ p = selfP b) (n : Nat) (hru : Rune n) (hlen : l.length ≤ 900000) (hbase : base ≤ w.heap.size) :
  Calls Tryz.prog 140 #[.pointer (some ⟨b, 0, none⟩), .int .i32 (n : Int)] w fun e w' => ∃ k : Int, e = .returned (.tuple #[.int .i64 k, .nilIface]) ∧ Hid (Bld w' base b (selfP b) (l ++ enB n)) ∧ Hid (Below base w w') := by
 have HC := hide (check_any base b p l w h hp)
 have HRU := hide hru
 have HB := hide hbase
 clear h hp hru hbase
 go_enter Tryz.func140, Tryz.ntmps140
 go_wp2_with fail
 refine (uh HC).mono ?_
 rintro e w1 ⟨rfl, HB1, HG1⟩
 obtain ⟨hbb, a1, c1, hC1, hO1, hn1, hz1⟩ := uh HB1
 have e1 := hC1.cell 1
 simp only [List.getElem?_cons_succ, List.getElem?_cons_zero] at e1
 have hb1 : base ≤ w1.heap.size := Nat.le_trans (uh HB) (uh HG1).size
 have HA := hide (appendRune4 base a1 c1 l n (uh HRU) w1 hO1 (by omega) hb1)
 have HC1 := hide hC1
 have HO1 := hide hO1
 have HN1 := hide hn1
 have HBB := hide hbb
 clear HC HB1 hC1 hO1 hn1 hz1 hbb
 go_wp2_with fail
 refine (uh HA).mono ?_
 rintro e w2 ⟨a2, c2, r, rfl, HR, HO2, HG2⟩
 obtain ⟨o, hg2⟩ := uh HG2
 have hlt : b < w1.heap.size := by
  have := uh HC1
  unfold Cel at this
  exact (aI this).1
 have hCa : Cel (w1.alloc o) b 168 [selfP b, .slice a1 l.length c1] := by
  have := uh HC1
  unfold Cel at this ⊢
  rw [heap_alloc_old _ _ hlt]; exact this
 have hC2 := hCa.grown hg2 (uh HN1)
 have f2 : w2.frozen? ⟨b, 1, none⟩ = false := hC2.fr 1
 have e2 := hC2.cell 1
 simp only [List.getElem?_cons_succ, List.getElem?_cons_zero] at e2
 have hrn : r ≠ [] := by rw [uh HR]; simp [(en_ne n).1]
 have hne : blk a2 ≠ some b := own_ne (uh HO2) hC2
 have HF : Hid (Bld (w2.setCell ⟨b, 1, none⟩ (.slice a2 r.length c2)) base b (selfP b) (l ++ enB n)) := by
  rw [← uh HR]
  exact ⟨uh HBB, a2, c2, hC2.set 1 _, (uh HO2).kept (cg_set w2 ⟨b, 1, none⟩ _) (.inr hne), hne, fun h => absurd h hrn⟩
 have HBe : Hid (Below base w (w2.setCell ⟨b, 1, none⟩ (.slice a2 r.length c2))) := by
  refine Below.setCell ?_ (uh HBB) _
  refine (((cg_to_below (uh HG1) (uh HBB) (uh HB)).alloc hb1 o).grown hg2 (by simp; omega) (fun k hk => ((uh HO1).lt k hk).1))
 have hcell : (w2.setCell ⟨b, 1, none⟩ (.slice a2 r.length c2)).cell? ⟨b, 1, none⟩ = some (.slice a2 r.length c2) := by
  obtain ⟨_, a3, c3, hC3, _⟩ := uh HF
  have := (hC2.set 1 (.slice a2 r.length c2)).cell 1
  simpa using this
 have hrl : r.length ≤ 900004 := by rw [uh HR]; have := (en_ne n).2; simp; omega
 clear HA HC1 HO1 HN1 HO2 HG2 hg2 hCa hC2 HR hrn hne
 go_wp2_with fail
 go_ret2
 exact ⟨_, rfl, HF, HBe⟩
end Go.Proofs.YtmpjeahibfdehaaGreatDoor
end
