/-
  jsonx: the parser's cells; next, take, blanks, what gives up.; jsonx: giveUp, isBlank, isDigit, take, word, blanks.; jsonx: word, digits.; jsonx: number.; jsonx: hexDigit; units: has, holds, meets.; jsonx: units: holds, meets, what hexCharacter asks of them.; jsonx: unit.; jsonx: hexCharacter.; jsonx: utf8.FullRuneInString.; jsonx: utf8.FullRuneInString of fewer bytes than there must be.
-/
import Derived.Test.YtmpjeahibfdehaaGreatDoorPkMtesae
import Derived.Test.YtmpjeahibfdehaaGreatDoorPkMtesac
import Derived.Deep.DeepCutAuto
import Derived.Deep.RegionHeld3
import Derived.Test.YtmpjeahibfdehaaGreatDoorPkMtesad
import Derived.Laws.Rows
import Derived.Shelf.Unicode.DecodeSlow
import Derived.Deep.QuietTactic
import Derived.BigQuiet
section
set_option linter.unusedVariables false
set_option maxRecDepth 1000000
namespace Go.Proofs.YtmpjeahibfdehaaGreatDoor
open Go.RowKit

/-- The two tables of unicode/utf8. -/
abbrev Tb4 (w : World) : Prop := Lib.Utf8Tabs 2 3 w
theorem Tb4.keep {w w' : World} (h : Tb4 w) (e : ∀ k, k = 2 ∨ k = 3 → w'.heap[k]? = w.heap[k]?) : Tb4 w' := by
 have e1 := e _ (.inl rfl)
 have e2 := e _ (.inr rfl)
 refine ⟨fun c hc => ?_, fun i hi => ⟨?_, ?_⟩⟩
 ·rw [← h.1 c hc]; simp only [World.cell?, e1]
 ·rw [← (h.2 i hi).1]; simp only [World.cell?, e2]
 ·rw [← (h.2 i hi).2]; simp only [World.cell?, e2]
theorem Tb4.lt {w : World} (h : Tb4 w) : 2 < w.heap.size ∧ 3 < w.heap.size :=
 ⟨World.block_lt_of_cell? w _ (h.1 0 (by omega)), World.block_lt_of_cell? w _ (h.2 0 (by omega)).1⟩
theorem Tb4.below {w w' : World} (h : Tb4 w) (hb : Below w.heap.size w w') : Tb4 w' := h.keep (fun k hk => by rcases hk with rfl | rfl; exact hb.block _ h.lt.1; exact hb.block _ h.lt.2)
/-- A parser in block P: of the text T so much is read, so many lists and objects are open. -/
structure Pa (w : World) (P : Nat) (T : List UInt8) (a d : Nat) : Prop where
 row : w.heap[P]? = some (.cells #[.string (str T), .int .i64 (a : Int), .int .i64 (d : Int)] 99 (0, 0))
 le : a ≤ T.length
 big : T.length ≤ 65536
 deep : d ≤ 16
 tb : Tb4 w
 gp : 2 < P ∧ 3 < P
theorem Pa.lt {w : World} {P : Nat} {T : List UInt8} {a d : Nat} (h : Pa w P T a d) : P < w.heap.size := (aI h.row).1
theorem Pa.cells {w : World} {P : Nat} {T : List UInt8} {a d : Nat} (h : Pa w P T a d) : w.cell? ⟨P, 0, none⟩ = some (.string (str T)) ∧ w.cell? ⟨P, 1, none⟩ = some (.int .i64 (a : Int)) ∧ w.cell? ⟨P, 2, none⟩ = some (.int .i64 (d : Int)) ∧ (∀ j, w.frozen? ⟨P, j, none⟩ = false) :=
 ⟨cR6 h.row, cR6 h.row, cR6 h.row, fun j => frozen_of_row _ _ _ _ _ h.row⟩
theorem Pa.below {w w' : World} {P : Nat} {T : List UInt8} {a d : Nat} (h : Pa w P T a d) (hb : Below w.heap.size w w') : Pa w' P T a d := { h with row := (hb.block P h.lt).trans h.row, tb := h.tb.below hb }
theorem Pa.grown {w w' : World} {P : Nat} {T : List UInt8} {a d : Nat} {row : Option Nat} (h : Pa w P T a d) (hg : w.grownBy w' row) (hn : row ≠ some P) (hg1 : row ≠ some 2) (hg2 : row ≠ some 3) : Pa w' P T a d := { h with row := (hg.block P h.lt (fun e => hn e.symm)).trans h.row, tb := h.tb.keep (fun k hk => by rcases hk with rfl | rfl; exact hg.block _ h.tb.lt.1 (fun e => hg1 e.symm); exact hg.block _ h.tb.lt.2 (fun e => hg2 e.symm)) }
theorem Pa.tbs {w : World} {P : Nat} {T : List UInt8} {a d : Nat} (h : Pa w P T a d) (j : Nat) (x : Value) : Tb4 (w.setCell ⟨P, j, none⟩ x) := h.tb.keep (fun k hk => Below.heap_setCell _ ⟨P, j, none⟩ _ k (by have := h.gp; rcases hk with rfl | rfl <;> (simp only; omega)))
/-- .. in a world in which all below B stands. -/
theorem Pa.bel {w w' : World} {P B : Nat} {T : List UInt8} {a d : Nat} (h : Pa w P T a d) (hb : Below B w w') (hB : P < B) : Pa w' P T a d :=
 { h with row := (hb.block P hB).trans h.row, tb := h.tb.keep (fun k hk => hb.block k (by have := h.gp; rcases hk with rfl | rfl <;> omega)) }
theorem Pa.to {w : World} {P : Nat} {T : List UInt8} {a d : Nat} (h : Pa w P T a d) (a' : Nat) (ha : a' ≤ T.length) : Pa (w.setCell ⟨P, 1, none⟩ (.int .i64 (a' : Int))) P T a' d :=
 ⟨hS6 h.row, ha, h.big, h.deep, h.tbs _ _, h.gp⟩
theorem Pa.around {w : World} {P : Nat} {T : List UInt8} {a d : Nat} (h : Pa w P T a d) (d' : Nat) (hd : d' ≤ 16) : Pa (w.setCell ⟨P, 2, none⟩ (.int .i64 (d' : Int))) P T a d' :=
 ⟨hS6 h.row, h.le, h.big, hd, h.tbs _ _, h.gp⟩
/-- The parser's own block alone changes, of those that were there. -/
abbrev Mv (w w' : World) (P : Nat) : Prop := w.grownBy w' (some P)
theorem Mv.refl (w : World) (P : Nat) : Mv w w P := ⟨rfl, rfl, rfl, Nat.le_refl _, fun _ _ _ => rfl⟩
theorem Mv.trans {a b c : World} {P : Nat} (x : Mv a b P) (y : Mv b c P) : Mv a c P :=
 ⟨y.os.trans x.os, y.tape.trans x.tape, y.output.trans x.output, Nat.le_trans x.size y.size, fun k hk hn => (y.block k (Nat.lt_of_lt_of_le hk x.size) hn).trans (x.block k hk hn)⟩
theorem Mv.ofB {w w' : World} {P : Nat} (h : Below w.heap.size w w') : Mv w w' P := ⟨h.os, h.tape, h.output, h.size, fun k hk _ => h.block k hk⟩
theorem Mv.set (w : World) (P j : Nat) (x : Value) : Mv w (w.setCell ⟨P, j, none⟩ x) P := grownBy_setCell w ⟨P, j, none⟩ x
theorem bdj {B : Nat} {a w : World} (h : Below B a w) (n : Nat) : Below B a (w.drewN n) := h.trans ⟨rfl, rfl, rfl, Nat.le_refl _, fun _ _ => rfl⟩
theorem Pa.inc {w : World} {P : Nat} {T : List UInt8} {a d : Nat} (h : Pa w P T a d) (hlt : a < T.length) : Pa (w.setCell ⟨P, 1, none⟩ (.int .i64 ((a : Int) + 1))) P T (a + 1) d ∧ Mv w (w.setCell ⟨P, 1, none⟩ (.int .i64 ((a : Int) + 1))) P := by
 have := h.to (a + 1) hlt
 rw [show ((a + 1 : Nat) : Int) = (a : Int) + 1 by omega] at this
 exact ⟨this, Mv.set _ _ _ _⟩
/-- The byte that comes next; -1 at the end. -/
def nxI (l : List UInt8) : Int := match l with | [] => -1 | c :: _ => (c.toNat : Int)
/-- A reading that was given up. -/
def flt (a y : Nat) : Ending := .panicked [{ v := .iface 64 (.agg #[.int .i64 (a : Int), .int .i64 (y : Int)]), recovered := false }]

set_option maxHeartbeats 1000000 in
theorem next_any (P : Nat) (T : List UInt8) (a d : Nat) (w : World) (h : Pa w P T a d) :
  Calls Tryz.prog 101 #[.pointer (some ⟨P, 0, none⟩)] w fun e w' => e = .returned (.int .i64 (nxI (T.drop a))) ∧ Hid (Pa w' P T a d) ∧ Hid (Below w.heap.size w w') := by
 obtain ⟨c0, c1, c2, cf⟩ := h.cells
 have hle := h.le
 have hbig := h.big
 have hsz : (str T).size = T.length := rfl
 have HH := hide h
 by_cases he : a = T.length
 ·subst he
  have hd : nxI (T.drop T.length) = -1 := by rw [List.drop_length]; rfl
  rw [hd]
  clear h hd cf c2
  go_enter Tryz.func101, Tryz.ntmps101
  go_wp2
  go_quiet (fail)
  go_wp2
  go_ret
  exact ⟨rfl, (uh HH).below (bdj (Below.refl _ _) nq), bdj (Below.refl _ _) nq⟩
 ·have hlt : a < T.length := by omega
  obtain ⟨c, hc⟩ : ∃ c, T[a]? = some c := ⟨_, List.getElem?_eq_getElem hlt⟩
  have hd : nxI (T.drop a) = (c.toNat : Int) := by
   have : T.drop a = c :: T.drop (a + 1) := by rw [List.drop_eq_getElem_cons hlt]; rw [List.getElem?_eq_getElem hlt] at hc; rw [Option.some.inj hc]
   rw [this]; rfl
  rw [hd]
  have hne : ((a : Int) == (T.length : Int)) = false := by simp; omega
  have hlt' : (a : Int) < (T.length : Int) := by omega
  have hgb : wrap64 (((str T)[a]'hlt).toNat : Int) = (c.toNat : Int) := by
   have e : (str T)[a]'hlt = c := by
    have : (str T)[a]'hlt = T[a] := by simp [str, ByteArray.getElem_eq_getElem_data]
    rw [this]; rw [List.getElem?_eq_getElem hlt] at hc; exact Option.some.inj hc
   rw [e]
   unfold wrap64
   have := c.toNat_lt
   omega
  have HGB := hide hgb
  have hc2 : c.toNat < 256 := c.toNat_lt
  clear h hd cf c2 hgb
  go_enter Tryz.func101, Tryz.ntmps101
  go_wp2
  go_quiet (fail)
  go_wp2
  revert nq
  intro nq1
  go_quiet (fail)
  go_wp2
  go_ret
  exact ⟨ret_int (uh HGB), (uh HH).below (bdj (bdj (Below.refl _ _) nq1) nq), bdj (bdj (Below.refl _ _) nq1) nq⟩
end Go.Proofs.YtmpjeahibfdehaaGreatDoor
end
section
set_option linter.unusedVariables false
set_option maxRecDepth 1000000
namespace Go.Proofs.YtmpjeahibfdehaaGreatDoor
open Go.RowKit

set_option maxHeartbeats 1000000 in
theorem giveUp_any (P : Nat) (T : List UInt8) (a d y : Nat) (w : World) (h : Pa w P T a d) :
  Calls Tryz.prog 75 #[.pointer (some ⟨P, 0, none⟩), .int .i64 (y : Int)] w fun e w' => e = flt a y ∧ w' = w := by
 obtain ⟨c0, c1, c2, cf⟩ := h.cells
 clear h cf c0 c2
 go_enter Tryz.func75, Tryz.ntmps75
 go_wp2
 exact ⟨rfl, rfl, rfl⟩
def blI (x : Int) : Bool := x == 32 || x == 9 || x == 10 || x == 13
def dgI (x : Int) : Bool := decide (48 ≤ x) && decide (x ≤ 57)
set_option maxHeartbeats 1000000 in
theorem isBlank4 (x : Int) (w : World) : Calls Tryz.prog 100 #[.int .i64 x] w fun e w' => e = .returned (.bool (blI x)) ∧ w' = w := by
 go_enter Tryz.func100, Tryz.ntmps100
 go_wp2
 all_goals
  go_ret
  exact ⟨by simp [blI, *], rfl⟩
set_option maxHeartbeats 1000000 in
theorem isDigit4 (x : Int) (w : World) : Calls Tryz.prog 106 #[.int .i64 x] w fun e w' => e = .returned (.bool (dgI x)) ∧ w' = w := by
 go_enter Tryz.func106, Tryz.ntmps106
 go_wp2
 all_goals
  go_ret
  exact ⟨by first | (simp [dgI, *]; done) | (simp [dgI, *]; omega), rfl⟩
/-- What take leaves: the next byte, or nothing. -/
theorem take_ok (P : Nat) (T : List UInt8) (a d : Nat) (c : UInt8) (l : List UInt8) (w : World) (h : Pa w P T a d) (hl : T.drop a = c :: l) :
  Calls Tryz.prog 105 #[.pointer (some ⟨P, 0, none⟩), .int .u8 (c.toNat : Int)] w fun e w' => e = .returned (.tuple #[]) ∧ Hid (Pa w' P T (a + 1) d) ∧ Hid (Mv w w' P) := by
 have hN := next_any P T a d w h
 rw [hl, show nxI (c :: l) = (c.toNat : Int) from rfl] at hN
 have HN := hide hN
 obtain ⟨hlt, _, _⟩ := drop_cons hl
 have HLT := hide hlt
 have hc := c.toNat_lt
 have hw : wrap64 (c.toNat : Int) = (c.toNat : Int) := by unfold wrap64; omega
 have hbig := h.big
 clear h hl hN
 go_enter Tryz.func105, Tryz.ntmps105
 go_wp2_with fail
 refine (uh HN).mono ?_
 rintro e w1 ⟨rfl, HP, HB⟩
 have hP := uh HP
 obtain ⟨c0, c1, c2, cf⟩ := hP.cells
 have f1 := cf 1
 have HT : Hid (Pa (w1.setCell ⟨P, 1, none⟩ (.int .i64 ((a : Int) + 1))) P T (a + 1) d) := by
  have := hP.to (a + 1) (uh HLT)
  rw [show ((a + 1 : Nat) : Int) = (a : Int) + 1 by omega] at this
  exact this
 have HM : Hid (Mv w (w1.setCell ⟨P, 1, none⟩ (.int .i64 ((a : Int) + 1))) P) := (Mv.ofB (uh HB)).trans (Mv.set _ _ _ _)
 have ha := hP.le
 clear hP HP HB HN cf c0 c2
 go_wp2_with fail
 go_end0
 exact ⟨rfl, HT, HM⟩
theorem take_no (P : Nat) (T : List UInt8) (a d : Nat) (c : UInt8) (w : World) (h : Pa w P T a d) (hl : nxI (T.drop a) ≠ (c.toNat : Int)) :
  Calls Tryz.prog 105 #[.pointer (some ⟨P, 0, none⟩), .int .u8 (c.toNat : Int)] w fun e w' => e = flt a 40 ∧ Hid (Below w.heap.size w w') := by
 have HN := hide (next_any P T a d w h)
 have hc := c.toNat_lt
 have hw : wrap64 (c.toNat : Int) = (c.toNat : Int) := by unfold wrap64; omega
 obtain ⟨x, hx⟩ : ∃ x, nxI (T.drop a) = x := ⟨_, rfl⟩
 rw [hx] at hl HN
 clear h hx
 go_enter Tryz.func105, Tryz.ntmps105
 go_wp2_with fail
 refine (uh HN).mono ?_
 rintro e w1 ⟨rfl, HP, HB⟩
 have HG := hide (giveUp_any P T a d 40 w1 (uh HP))
 clear HN HP
 go_wp2_with fail
 refine (uh HG).mono ?_
 rintro e w2 ⟨rfl, rfl⟩
 exact ⟨rfl, rfl, HB⟩
/-- What comes of a reading: what the model says. -/
def Po {α : Type} (R : α → Value → World → Prop) (T : List UInt8) (w : World) (P d : Nat) (M : Rs α) (e : Ending) (w' : World) : Prop :=
 (∃ v val a', M = .ok v (T.drop a') ∧ e = .returned val ∧ Pa w' P T a' d ∧ Mv w w' P ∧ R v val w') ∨ (∃ y a', M = .no (T.drop a') y ∧ e = flt a' y ∧ a' ≤ T.length ∧ Mv w w' P)
def RU (_ : Unit) (val : Value) (_ : World) : Prop := val = .tuple #[]
theorem Po.yes {α : Type} {R : α → Value → World → Prop} {T : List UInt8} {w : World} {P d : Nat} {M : Rs α} {w' : World} {v : α} {val : Value} {a' : Nat} (h1 : M = .ok v (T.drop a')) (h2 : Pa w' P T a' d) (h3 : Mv w w' P) (h4 : R v val w') : Po R T w P d M (.returned val) w' := .inl ⟨v, val, a', h1, rfl, h2, h3, h4⟩
theorem Po.nay {α : Type} {R : α → Value → World → Prop} {T : List UInt8} {w : World} {P d : Nat} {M : Rs α} {w' : World} {y : Nat} {a' : Nat} (h1 : M = .no (T.drop a') y) (h2 : a' ≤ T.length) (h3 : Mv w w' P) : Po R T w P d M (flt a' y) w' := .inr ⟨y, a', h1, rfl, h2, h3⟩
theorem tk_cases (c : UInt8) (l : List UInt8) : (∃ r, l = c :: r ∧ tkM c l = .ok () r) ∨ (nxI l ≠ (c.toNat : Int) ∧ tkM c l = .no l 40) := by
 cases l with
 | nil => exact .inr ⟨by simp [nxI], rfl⟩
 | cons x l =>
  by_cases h : x = c
  ·subst h; exact .inl ⟨l, rfl, by simp [tkM]⟩
  ·refine .inr ⟨?_, by simp [tkM, h]⟩
   intro e
   simp only [nxI] at e
   exact h (UInt8.toNat_inj.1 (by omega))
theorem take_any (P : Nat) (T : List UInt8) (a d : Nat) (c : UInt8) (w : World) (h : Pa w P T a d) :
  Calls Tryz.prog 105 #[.pointer (some ⟨P, 0, none⟩), .int .u8 (c.toNat : Int)] w fun e w' => Po RU T w P d (tkM c (T.drop a)) e w' := by
 rcases tk_cases c (T.drop a) with ⟨r, hr, hM⟩ | ⟨hn, hM⟩
 ·refine (take_ok P T a d c r w h hr).mono ?_
  rintro e w' ⟨rfl, HP, HM⟩
  exact Po.yes (by rw [hM, (drop_cons hr).2.2]) HP HM rfl
 ·refine (take_no P T a d c w h hn).mono ?_
  rintro e w' ⟨rfl, HB⟩
  exact Po.nay hM h.le (Mv.ofB HB)
theorem bl_next (l : List UInt8) : (blI (nxI l) = true ∧ ∃ c r, l = c :: r ∧ skB l = skB r) ∨ (blI (nxI l) = false ∧ skB l = l) := by
 cases l with
 | nil => exact .inr ⟨rfl, rfl⟩
 | cons c r =>
  have e : blI (nxI (c :: r)) = blB4 c := by
   simp only [nxI, blI, blB4]
   have k : ∀ n : Nat, n < 256 → ((c.toNat : Int) == (n : Int)) = (c == UInt8.ofNat n) := by
    intro n hn
    by_cases hc : c = UInt8.ofNat n
    ·subst hc; simp; omega
    ·have : c.toNat ≠ n := fun h => hc (by rw [← h]; simp)
     rw [beq_eq_false_iff_ne.2 hc, beq_eq_false_iff_ne.2 (by omega)]
   rw [show (32 : Int) = ((32 : Nat) : Int) from rfl, show (9 : Int) = ((9 : Nat) : Int) from rfl, show (10 : Int) = ((10 : Nat) : Int) from rfl, show (13 : Int) = ((13 : Nat) : Int) from rfl, k 32 (by omega), k 9 (by omega), k 10 (by omega), k 13 (by omega)]
   rfl
  rw [e]
  cases hb : blB4 c with
  | true => exact .inl ⟨rfl, c, r, rfl, by rw [skB_cons, if_pos hb]⟩
  | false => exact .inr ⟨rfl, by rw [skB_cons, if_neg (by simp [hb])]⟩
set_option maxHeartbeats 1000000 in
theorem blanks_any (P : Nat) (T : List UInt8) (a d : Nat) (w : World) (h : Pa w P T a d) :
  Calls Tryz.prog 73 #[.pointer (some ⟨P, 0, none⟩)] w fun e w' => ∃ a', e = .returned (.tuple #[]) ∧ Hid (Pa w' P T a' d) ∧ Hid (Mv w w' P) ∧ Hid (skB (T.drop a) = T.drop a') := by
 have HH := hide h
 have hbig := h.big
 clear h
 go_enter Tryz.func73, Tryz.ntmps73
 go_wp2_with fail
 go_loopw [2] (fun _ wr => ∃ a' : Nat, Hid (Pa wr P T a' d) ∧ Hid (Mv w wr P) ∧ Hid (skB (T.drop a) = skB (T.drop a'))) (fun _ wr => 70000 - (match wr.cell? ⟨P, 1, none⟩ with | some (.int .i64 x) => x.toNat | _ => 0))
 case atStart => exact ⟨a, HH, Mv.refl _ _, rfl⟩
 case round =>
  obtain ⟨a', HP, HM, HS⟩ := hrel
  have HN := hide (next_any P T a' d wr (uh HP))
  have hcl := (uh HP).cells.2.1
  rcases bl_next (T.drop a') with ⟨hb, c, r, hr, hs⟩ | ⟨hb, hs⟩
  ·have HI := hide (isBlank4 (nxI (T.drop a')))
   rw [hb] at HI
   obtain ⟨hlt, _, hd⟩ := drop_cons hr
   have HLT := hide hlt
   have HS2 : Hid (skB (T.drop a) = skB (T.drop (a' + 1))) := by show _ = _; rw [uh HS, hs, hd]
   generalize nxI (T.drop a') = x at *
   clear hb hs hr hd HS
   go_wp2_with fail
   refine (uh HN).mono ?_
   rintro e w1 ⟨rfl, HP1, HB⟩
   have HI1 := hide (uh HI w1)
   clear HI
   go_wp2_with fail
   refine (uh HI1).mono ?_
   rintro e w2 ⟨rfl, hw2⟩
   subst hw2
   have hP := uh HP1
   obtain ⟨c0, c1, c2, cf⟩ := hP.cells
   have f1 := cf 1
   have HT : Hid (Pa (w2.setCell ⟨P, 1, none⟩ (.int .i64 ((a' : Int) + 1))) P T (a' + 1) d) := by
    have := hP.to (a' + 1) (uh HLT)
    rw [show ((a' + 1 : Nat) : Int) = (a' : Int) + 1 by omega] at this
    exact this
   have HM2 : Hid (Mv w (w2.setCell ⟨P, 1, none⟩ (.int .i64 ((a' : Int) + 1))) P) := (uh HM).trans ((Mv.ofB (uh HB)).trans (Mv.set _ _ _ _))
   have ha := hP.le
   clear hP HP1 HN HI1 HB cf c0 c2
   go_wp2_with fail
   go_roundw
   case rel => exact ⟨a' + 1, HT, HM2, HS2⟩
   case measure =>
    have e1 := (uh HT).cells.2.1
    rw [hcl, e1]
    simp only
    omega
  ·have HI := hide (isBlank4 (nxI (T.drop a')))
   rw [hb] at HI
   have HS2 : Hid (skB (T.drop a) = T.drop a') := by show _ = _; rw [uh HS, hs]
   generalize nxI (T.drop a') = x at *
   clear hb hs HS
   go_wp2_with fail
   refine (uh HN).mono ?_
   rintro e w1 ⟨rfl, HP1, HB⟩
   have HI1 := hide (uh HI w1)
   clear HI
   go_wp2_with fail
   refine (uh HI1).mono ?_
   rintro e w2 ⟨rfl, hw2⟩
   subst hw2
   have HM2 : Hid (Mv w w2 P) := (uh HM).trans (Mv.ofB (uh HB))
   clear HI1 HN HB
   go_wp2_with fail
   go_end0
   exact ⟨a', rfl, HP1, HM2, HS2⟩
end Go.Proofs.YtmpjeahibfdehaaGreatDoor
end
section
set_option linter.unusedVariables false
set_option maxRecDepth 1000000
namespace Go.Proofs.YtmpjeahibfdehaaGreatDoor
open Go.RowKit

theorem run_ix4 (w : World) (S : List UInt8) (k : Nat) (c : UInt8) (h : S[k]? = some c) : (Instr.index 9 (.string (str S)) (.int .i64 (k : Int))).run Tryz.prog w = .ok (.int .u8 (c.toNat : Int)) w := by
 rw [run_index_string w 9 (str S) .i64 (k : Int) Tryz.underlying9]
 have hk : k < S.length := (List.getElem?_eq_some_iff.1 h).1
 have hs : (str S).size = S.length := str_size S
 rw [dif_pos (by rw [hs]; omega)]
 have e2 : ((str S)[(k : Int).toNat]'(by rw [hs]; omega)) = c := by
  have : (S.toArray[k]'(by simpa using hk)) = c := by
   simpa using (List.getElem?_eq_some_iff.1 h).2
  exact this
 rw [e2]
theorem wd_step (u : List UInt8) (i : Nat) (c : UInt8) (hc : u[i]? = some c) (l : List UInt8) : wdM (u.drop i) l = match tkM c l with | .ok _ r => wdM (u.drop (i + 1)) r | .no r y => .no r y := by
 obtain ⟨h1, h2⟩ := List.getElem?_eq_some_iff.1 hc
 rw [List.drop_eq_getElem_cons h1, h2]
 cases l with
 | nil => rfl
 | cons x l =>
  simp only [wdM, tkM]
  by_cases h : x = c
  ·simp [h]
  ·simp [h]
set_option maxHeartbeats 1000000 in
theorem word_any (P : Nat) (T : List UInt8) (a d : Nat) (u : List UInt8) (hu : u.length ≤ 100) (w : World) (h : Pa w P T a d) :
  Calls Tryz.prog 108 #[.pointer (some ⟨P, 0, none⟩), .string (str u)] w fun e w' => Po RU T w P d (wdM u (T.drop a)) e w' := by
 have HH := hide h
 have hbig := h.big
 have hsz : (str u).size = u.length := rfl
 clear h
 go_enter Tryz.func108, Tryz.ntmps108
 go_wp2_with fail
 go_loopw [7] (fun v7 wr => ∃ (i a' : Nat), i ≤ u.length ∧ v7 = .int .i64 (i : Int) ∧ Hid (Pa wr P T a' d) ∧ Hid (Mv w wr P) ∧ Hid (wdM u (T.drop a) = wdM (u.drop i) (T.drop a'))) (fun v7 _ => u.length - (intOf v7).toNat)
 case atStart => exact ⟨0, a, Nat.zero_le _, rfl, HH, Mv.refl _ _, rfl⟩
 case round =>
  obtain ⟨i, a', hi, rfl, HP, HM, HS⟩ := hrel
  by_cases hlt : i < u.length
  ·obtain ⟨c, hc⟩ : ∃ c, u[i]? = some c := ⟨_, List.getElem?_eq_getElem hlt⟩
   have hlt' : (i : Int) < (u.length : Int) := by omega
   have hix := fun w => run_ix4 w u i c hc
   have HT := hide (take_any P T a' d c wr (uh HP))
   have HW := hide (wd_step u i c hc (T.drop a'))
   clear hc
   go_wp2_with fail
   refine (uh HT).mono ?_
   rintro e w1 (⟨v, val, a2, hM, rfl, h2, h3, h4⟩ | ⟨y, a2, hM, rfl, h2, h3⟩)
   ·have HP2 := hide h2
    have HM2 : Hid (Mv w w1 P) := (uh HM).trans h3
    have HS2 : Hid (wdM u (T.drop a) = wdM (u.drop (i + 1)) (T.drop a2)) := by show _ = _; rw [uh HS, uh HW, hM]
    clear HT HW h2 h3 h4 hM HP HM HS
    go_wp2_with fail
    go_roundw
    case rel => exact ⟨i + 1, a2, by omega, by go_num, HP2, HM2, HS2⟩
    case measure => simp [intOf]; omega
   ·exact ⟨rfl, Po.nay (by rw [uh HS, uh HW, hM]) h2 ((uh HM).trans h3)⟩
  ·have hlt' : ¬ (i : Int) < (u.length : Int) := by omega
   have HS2 : Hid (wdM u (T.drop a) = .ok () (T.drop a')) := by
    show _ = _
    rw [uh HS, List.drop_eq_nil_of_le (by omega)]
    simp [wdM]
   go_wp2_with fail
   go_end0
   exact Po.yes (uh HS2) (uh HP) (uh HM) rfl
theorem nx_dig (c : UInt8) (l : List UInt8) : dgI (nxI (c :: l)) = dgB4 c := by
 simp only [nxI, dgI, dgB4]
 congr 1 <;> (apply decide_eq_decide.2; omega)
set_option maxHeartbeats 4000000 in
theorem digits_any (P : Nat) (T : List UInt8) (a d : Nat) (m : Nat) (hm : 9 ≤ m) (hm2 : m ≤ 9223372036854775808) (w : World) (h : Pa w P T a d) :
  Calls Tryz.prog 145 #[.pointer (some ⟨P, 0, none⟩), .int .u64 (m : Int)] w fun e w' => Po (fun (n : Nat) val _ => val = .int .u64 (n : Int) ∧ n ≤ m) T w P d (dgM m (T.drop a)) e w' := by
 have HH := hide h
 have hbig := h.big
 have HN := hide (next_any P T a d w h)
 obtain ⟨RES, hRES⟩ : ∃ RES, RES = dgM m (T.drop a) := ⟨_, rfl⟩
 rw [← hRES]
 cases hl : T.drop a with
 | nil =>
  rw [hl, show nxI [] = -1 from rfl] at HN
  have HM : Hid (RES = .no (T.drop a) 40) := by show _ = _; rw [hRES, hl]; rfl
  clear hRES
  have hle := h.le
  clear h
  go_enter Tryz.func145, Tryz.ntmps145
  go_wp2_with fail
  refine (uh HN).mono ?_
  rintro e w1 ⟨rfl, HP1, HB⟩
  have HN1 := hide (next_any P T a d w1 (uh HP1))
  rw [hl, show nxI [] = -1 from rfl] at HN1
  go_wp2_with fail
  refine (uh HN1).mono ?_
  rintro e w2 ⟨rfl, HP2, HB2⟩
  have HI := hide (isDigit4 (-1) w2)
  rw [show dgI (-1) = false from rfl] at HI
  go_wp2_with fail
  refine (uh HI).mono ?_
  rintro e w3 ⟨rfl, hw3⟩
  subst hw3
  have HG := hide (giveUp_any P T a d 40 w3 (uh HP2))
  have HMv : Hid (Mv w w3 P) := (Mv.ofB (uh HB)).trans (Mv.ofB (uh HB2))
  go_wp2_with fail
  refine (uh HG).mono ?_
  rintro e w4 ⟨rfl, hw4⟩
  subst hw4
  exact ⟨rfl, Po.nay (uh HM) hle (uh HMv)⟩
 | cons c l =>
  obtain ⟨hlt, _, hdr⟩ := drop_cons hl
  have hle := h.le
  have hc256 := c.toNat_lt
  by_cases h48 : c = 48
  ·subst h48
   rw [hl, show nxI (48 :: l) = 48 from rfl] at HN
   clear h
   go_enter Tryz.func145, Tryz.ntmps145
   go_wp2_with fail
   refine (uh HN).mono ?_
   rintro e w1 ⟨rfl, HP1, HB⟩
   obtain ⟨c0, c1, c2, cf⟩ := (uh HP1).cells
   have f1 := cf 1
   obtain ⟨k1, k2⟩ := (uh HP1).inc hlt
   obtain ⟨W, hW⟩ : ∃ W, W = w1.setCell ⟨P, 1, none⟩ (.int .i64 ((a : Int) + 1)) := ⟨_, rfl⟩
   rw [← hW] at k1 k2
   have HP2 := hide k1
   have HM2 : Hid (Mv w W P) := (Mv.ofB (uh HB)).trans k2
   have hN2 := next_any P T (a + 1) d W k1
   rw [hdr] at hN2
   have HN2 := hide hN2
   clear HN HP1 HB cf c0 c2 k1 k2 hN2
   cases hl2 : l with
   | nil =>
    rw [hl2, show nxI [] = -1 from rfl] at HN2
    have HM : Hid (RES = .ok 0 (T.drop (a + 1))) := by show _ = _; rw [hRES, hl, hdr, hl2]; rfl
    clear hRES
    go_wp2_with fail
    rw [← hW]
    clear hW c1 f1
    refine (uh HN2).mono ?_
    rintro e w3 ⟨rfl, HP3, HB3⟩
    have HI := hide (isDigit4 (-1) w3)
    rw [show dgI (-1) = false from rfl] at HI
    have HM3 : Hid (Mv w w3 P) := (uh HM2).trans (Mv.ofB (uh HB3))
    go_wp2_with fail
    refine (uh HI).mono ?_
    rintro e w4 ⟨rfl, hw4⟩
    subst hw4
    go_wp2_with fail
    go_ret
    exact Po.yes (uh HM) (uh HP3) (uh HM3) ⟨rfl, by omega⟩
   | cons x r =>
    rw [hl2] at HN2
    have hnd := nx_dig x r
    have HI0 := hide (isDigit4 (nxI (x :: r)))
    rw [hnd] at HI0
    generalize nxI (x :: r) = X at *
    cases hx : dgB4 x with
    | true =>
     have HM : Hid (RES = .no (T.drop (a + 1)) 40) := by show _ = _; rw [hRES, hl, hdr, hl2]; simp [dgM, hx]
     clear hRES
     rw [hx] at HI0
     clear hnd
     go_wp2_with fail
     rw [← hW]
     clear hW c1 f1
     refine (uh HN2).mono ?_
     rintro e w3 ⟨rfl, HP3, HB3⟩
     have HI := hide (uh HI0 w3)
     have HM3 : Hid (Mv w w3 P) := (uh HM2).trans (Mv.ofB (uh HB3))
     clear HI0
     go_wp2_with fail
     refine (uh HI).mono ?_
     rintro e w4 ⟨rfl, hw4⟩
     subst hw4
     have HG := hide (giveUp_any P T (a + 1) d 40 w4 (uh HP3))
     go_wp2_with fail
     refine (uh HG).mono ?_
     rintro e w5 ⟨rfl, hw5⟩
     subst hw5
     exact ⟨rfl, Po.nay (uh HM) hlt (uh HM3)⟩
    | false =>
     have HM : Hid (RES = .ok 0 (T.drop (a + 1))) := by show _ = _; rw [hRES, hl, hdr, hl2]; simp [dgM, hx]
     clear hRES
     rw [hx] at HI0
     clear hnd
     go_wp2_with fail
     rw [← hW]
     clear hW c1 f1
     refine (uh HN2).mono ?_
     rintro e w3 ⟨rfl, HP3, HB3⟩
     have HI := hide (uh HI0 w3)
     have HM3 : Hid (Mv w w3 P) := (uh HM2).trans (Mv.ofB (uh HB3))
     clear HI0
     go_wp2_with fail
     refine (uh HI).mono ?_
     rintro e w4 ⟨rfl, hw4⟩
     subst hw4
     go_wp2_with fail
     go_ret
     exact Po.yes (uh HM) (uh HP3) (uh HM3) ⟨rfl, by omega⟩
  ·have hne : ¬ (c.toNat : Int) = 48 := fun e => h48 (UInt8.toNat_inj.1 (by show c.toNat = 48; omega))
   have hnd := nx_dig c l
   have HI0 := hide (isDigit4 (nxI (c :: l)))
   rw [hnd] at HI0
   rw [hl] at HN
   rw [show nxI (c :: l) = (c.toNat : Int) from rfl] at HI0 HN
   clear hnd
   cases hx : dgB4 c with
   | false =>
    have HM : Hid (RES = .no (T.drop a) 40) := by show _ = _; rw [hRES, hl]; simp [dgM, hx, h48]
    clear hRES
    rw [hx] at HI0
    clear h
    go_enter Tryz.func145, Tryz.ntmps145
    go_wp2_with fail
    refine (uh HN).mono ?_
    rintro e w1 ⟨rfl, HP1, HB⟩
    have HN1 := hide (next_any P T a d w1 (uh HP1))
    rw [hl, show nxI (c :: l) = (c.toNat : Int) from rfl] at HN1
    clear HN
    go_wp2_with fail
    refine (uh HN1).mono ?_
    rintro e w2 ⟨rfl, HP2, HB2⟩
    have HI := hide (uh HI0 w2)
    clear HN1 HI0
    go_wp2_with fail
    refine (uh HI).mono ?_
    rintro e w3 ⟨rfl, hw3⟩
    subst hw3
    have HG := hide (giveUp_any P T a d 40 w3 (uh HP2))
    have HMv : Hid (Mv w w3 P) := (Mv.ofB (uh HB)).trans (Mv.ofB (uh HB2))
    go_wp2_with fail
    refine (uh HG).mono ?_
    rintro e w4 ⟨rfl, hw4⟩
    subst hw4
    exact ⟨rfl, Po.nay (uh HM) hle (uh HMv)⟩
   | true =>
    have HM : Hid (RES = dgL m 0 (T.drop a)) := by show _ = _; rw [hRES, hl]; simp [dgM, hx, h48]
    clear hRES
    rw [hx] at HI0
    clear h
    go_enter Tryz.func145, Tryz.ntmps145
    go_wp2_with fail
    refine (uh HN).mono ?_
    rintro e w1 ⟨rfl, HP1, HB⟩
    have HN1 := hide (next_any P T a d w1 (uh HP1))
    rw [hl, show nxI (c :: l) = (c.toNat : Int) from rfl] at HN1
    clear HN
    go_wp2_with fail
    refine (uh HN1).mono ?_
    rintro e w2 ⟨rfl, HP2, HB2⟩
    have HI := hide (uh HI0 w2)
    clear HN1 HI0
    go_wp2_with fail
    refine (uh HI).mono ?_
    rintro e w3 ⟨rfl, hw3⟩
    subst hw3
    have HMv : Hid (Mv w w3 P) := (Mv.ofB (uh HB)).trans (Mv.ofB (uh HB2))
    clear hl HH hlt hdr hle hc256 h48 hne hx HP1 HB HB2 HI
    go_wp2_with fail
    go_loopw [5] (fun v5 wr => ∃ (n a' : Nat), n ≤ m ∧ v5 = .int .u64 (n : Int) ∧ Hid (Pa wr P T a' d) ∧ Hid (Mv w wr P) ∧ Hid (RES = dgL m n (T.drop a'))) (fun _ wr => 70000 - (match wr.cell? ⟨P, 1, none⟩ with | some (.int .i64 x) => x.toNat | _ => 0))
    case atStart => exact ⟨0, a, Nat.zero_le _, rfl, HP2, HMv, HM⟩
    case round =>
     clear HMv HM HP2
     obtain ⟨n, a', hn, rfl, HP, HMr, HS⟩ := hrel
     have HN := hide (next_any P T a' d wr (uh HP))
     have hcl := (uh HP).cells.2.1
     have hle := (uh HP).le
     cases hl : T.drop a' with
     | nil =>
      rw [hl, show nxI [] = -1 from rfl] at HN
      have HI0 := hide (isDigit4 (-1))
      rw [show dgI (-1) = false from rfl] at HI0
      have HE : Hid (RES = .ok n (T.drop a')) := by show _ = _; rw [uh HS, hl]; rfl
      go_wp2_with fail
      refine (uh HN).mono ?_
      rintro e w4 ⟨rfl, HP4, HB4⟩
      have HI := hide (uh HI0 w4)
      have HM4 : Hid (Mv w w4 P) := (uh HMr).trans (Mv.ofB (uh HB4))
      clear HI0 HN
      go_wp2_with fail
      refine (uh HI).mono ?_
      rintro e w5 ⟨rfl, hw5⟩
      subst hw5
      go_wp2_with fail
      go_ret
      exact Po.yes (uh HE) (uh HP4) (uh HM4) ⟨rfl, hn⟩
     | cons x r =>
      obtain ⟨hlt, _, hdr⟩ := drop_cons hl
      have hnd := nx_dig x r
      have HI0 := hide (isDigit4 (nxI (x :: r)))
      rw [hnd] at HI0
      rw [hl] at HN
      have hX : nxI (x :: r) = (x.toNat : Int) := rfl
      rw [hX] at HI0 HN
      clear hnd hX
      cases hx : dgB4 x with
      | false =>
       rw [hx] at HI0
       have HE : Hid (RES = .ok n (T.drop a')) := by show _ = _; rw [uh HS, hl]; simp [dgL, hx]
       go_wp2_with fail
       refine (uh HN).mono ?_
       rintro e w4 ⟨rfl, HP4, HB4⟩
       have HI := hide (uh HI0 w4)
       have HM4 : Hid (Mv w w4 P) := (uh HMr).trans (Mv.ofB (uh HB4))
       clear HI0 HN
       go_wp2_with fail
       refine (uh HI).mono ?_
       rintro e w5 ⟨rfl, hw5⟩
       subst hw5
       go_wp2_with fail
       go_ret
       exact Po.yes (uh HE) (uh HP4) (uh HM4) ⟨rfl, hn⟩
      | true =>
       rw [hx] at HI0
       have hx2 := hx
       unfold dgB4 at hx2
       simp only [Bool.and_eq_true, decide_eq_true_eq] at hx2
       obtain ⟨hx3, hx4⟩ := hx2
       obtain ⟨D, hD⟩ : ∃ D : Nat, x.toNat = D + 48 := ⟨x.toNat - 48, by omega⟩
       have hD9 : D ≤ 9 := by omega
       have hE2 : dgL m n (x :: r) = if n > (m - D) / 10 then .no (x :: r) 42 else dgL m (n * 10 + D) r := by
        rw [dgL, if_pos hx, hD]; simp
       rw [hl, hE2] at HS
       rw [hD] at HI0 HN
       rw [show ((D + 48 : Nat) : Int) = (D : Int) + 48 by omega] at HI0 HN
       have HX : Hid (nxI (x :: r) = (D : Int) + 48) := by show _ = _; simp only [nxI]; omega
       clear hx hx3 hx4 hE2 hD
       obtain ⟨X, hXe⟩ : ∃ X : Nat, X = m - D := ⟨_, rfl⟩
       have hX1 : (m : Int) - (D : Int) = (X : Int) := by omega
       obtain ⟨Q, hQe⟩ : ∃ Q : Nat, Q = X / 10 := ⟨_, rfl⟩
       have hQ1 : (X : Int).tdiv 10 = (Q : Int) := by rw [hQe]; exact (Int.ofNat_tdiv X 10).symm
       have hQ2 : (X : Int) / 10 = (Q : Int) := by omega
       have hXm : X ≤ 9223372036854775808 := by omega
       rw [← hXe, ← hQe] at HS
       by_cases hgt : n > Q
       ·have HE : Hid (RES = .no (T.drop a') 42) := by show _ = _; rw [uh HS, if_pos hgt, hl]
        have hgt' : (Q : Int) < (n : Int) := by omega
        clear hXe hQe hgt
        go_wp2_with fail
        refine (uh HN).mono ?_
        rintro e w4 ⟨rfl, HP4, HB4⟩
        have HI := hide (uh HI0 w4)
        clear HI0 HN
        go_wp2_with fail
        refine (uh HI).mono ?_
        rintro e w5 ⟨rfl, hw5⟩
        subst hw5
        have hN5 := next_any P T a' d w5 (uh HP4)
        rw [hl, uh HX] at hN5
        have HN5 := hide hN5
        clear hN5 HI
        go_wp2_with fail
        refine (uh HN5).mono ?_
        rintro e w6 ⟨rfl, HP6, HB6⟩
        have HG := hide (giveUp_any P T a' d 42 w6 (uh HP6))
        have HM6 : Hid (Mv w w6 P) := (uh HMr).trans ((Mv.ofB (uh HB4)).trans (Mv.ofB (uh HB6)))
        clear HN5
        go_wp2_with fail
        refine (uh HG).mono ?_
        rintro e w7 ⟨rfl, hw7⟩
        subst hw7
        exact ⟨rfl, Po.nay (uh HE) hle (uh HM6)⟩
       ·have HE : Hid (RES = dgL m (n * 10 + D) (T.drop (a' + 1))) := by show _ = _; rw [uh HS, if_neg hgt, hdr]
        have hgt' : ¬ (Q : Int) < (n : Int) := by omega
        have hnm : n * 10 + D ≤ m := by omega
        obtain ⟨N, hN⟩ : ∃ N : Nat, N = n * 10 + D := ⟨_, rfl⟩
        have hNe : IntKind.u64.wrap ((n : Int) * 10 + (D : Int)) = (N : Int) := by rw [IntKind.wrap_u64]; omega
        have hNb : N ≤ m := by omega
        rw [← hN] at HE
        clear hXe hQe hgt hnm
        go_wp2_with fail
        refine (uh HN).mono ?_
        rintro e w4 ⟨rfl, HP4, HB4⟩
        have HI := hide (uh HI0 w4)
        clear HI0 HN
        go_wp2_with fail
        refine (uh HI).mono ?_
        rintro e w5 ⟨rfl, hw5⟩
        subst hw5
        have hN5 := next_any P T a' d w5 (uh HP4)
        rw [hl, uh HX] at hN5
        have HN5 := hide hN5
        clear hN5 HI
        go_wp2_with fail
        refine (uh HN5).mono ?_
        rintro e w6 ⟨rfl, HP6, HB6⟩
        obtain ⟨c0, c1, c2, cf⟩ := (uh HP6).cells
        have f1 := cf 1
        obtain ⟨k1, k2⟩ := (uh HP6).inc hlt
        have HP7 := hide k1
        have HM7 : Hid (Mv w (w6.setCell ⟨P, 1, none⟩ (.int .i64 ((a' : Int) + 1))) P) := (uh HMr).trans ((Mv.ofB (uh HB4)).trans ((Mv.ofB (uh HB6)).trans k2))
        clear HN5 cf c0 c2 k1 k2
        go_wp2_with fail
        go_roundw
        case rel => exact ⟨N, a' + 1, hNb, by go_num, HP7, HM7, HE⟩
        case measure =>
         have e1 := (uh HP7).cells.2.1
         rw [hcl, e1]
         simp only
         omega
end Go.Proofs.YtmpjeahibfdehaaGreatDoor
end
section
set_option linter.unusedVariables false
set_option maxRecDepth 1000000
namespace Go.Proofs.YtmpjeahibfdehaaGreatDoor
open Go.RowKit

/-- Is it the byte of a fraction or of a power? -/
def frI (x : Int) : Bool := x == 46 || x == 101 || x == 69
theorem fr_next (l : List UInt8) : frI (nxI l) = fracB l := by
 cases l with
 | nil => rfl
 | cons c r =>
  simp only [nxI, frI, fracB]
  have k : ∀ n : Nat, n < 256 → ((c.toNat : Int) == (n : Int)) = (c == UInt8.ofNat n) := by
   intro n hn
   by_cases hc : c = UInt8.ofNat n
   ·subst hc; simp; omega
   ·have : c.toNat ≠ n := fun h => hc (by rw [← h]; simp)
    rw [beq_eq_false_iff_ne.2 hc, beq_eq_false_iff_ne.2 (by omega)]
  rw [show (46 : Int) = ((46 : Nat) : Int) from rfl, show (101 : Int) = ((101 : Nat) : Int) from rfl, show (69 : Int) = ((69 : Nat) : Int) from rfl, k 46 (by omega), k 101 (by omega), k 69 (by omega)]
  rfl
/-- What is a number's value. -/
def RI (n : Int) (val : Value) (_ : World) : Prop := val = .int .i64 n
theorem nu_neg (l : List UInt8) (r : List UInt8) (h : l = 45 :: r) : nuM l = match dgM 9223372036854775808 r with | .no r y => .no r y | .ok n r => if fracB r then .no r 42 else .ok (-(n : Int)) r := by
 subst h
 rfl
theorem nu_pos (l : List UInt8) (h : nxI l ≠ 45) : nuM l = match dgM 9223372036854775807 l with | .no r y => .no r y | .ok n r => if fracB r then .no r 42 else .ok (n : Int) r := by
 unfold nuM
 cases l with
 | nil => rfl
 | cons c r =>
  have : (c == 45) = false := by
   rw [beq_eq_false_iff_ne]
   rintro rfl
   exact h rfl
  simp only [this]
  rfl
set_option maxHeartbeats 4000000 in
theorem number_any (P : Nat) (T : List UInt8) (a d : Nat) (w : World) (h : Pa w P T a d) :
  Calls Tryz.prog 107 #[.pointer (some ⟨P, 0, none⟩)] w fun e w' => Po RI T w P d (nuM (T.drop a)) e w' := by
 have hbig := h.big
 have HN := hide (next_any P T a d w h)
 obtain ⟨RES, hRES⟩ : ∃ RES, RES = nuM (T.drop a) := ⟨_, rfl⟩
 rw [← hRES]
 by_cases hng : nxI (T.drop a) = 45
 ·obtain ⟨r, hr⟩ : ∃ r, T.drop a = 45 :: r := by
   cases hl : T.drop a with
   | nil => rw [hl] at hng; simp [nxI] at hng
   | cons c r =>
    rw [hl] at hng
    simp only [nxI] at hng
    exact ⟨r, by rw [show c = 45 from UInt8.toNat_inj.1 (by show c.toNat = 45; omega)]⟩
  obtain ⟨hlt, _, hdr⟩ := drop_cons hr
  rw [nu_neg _ r hr, ← hdr] at hRES
  have HRES := hide hRES
  rw [hng] at HN
  clear h hRES hng
  go_enter Tryz.func107, Tryz.ntmps107
  go_wp2_with fail
  refine (uh HN).mono ?_
  rintro e w1 ⟨rfl, HP1, HB⟩
  obtain ⟨c0, c1, c2, cf⟩ := (uh HP1).cells
  have f1 := cf 1
  obtain ⟨k1, k2⟩ := (uh HP1).inc hlt
  obtain ⟨W, hW⟩ : ∃ W, W = w1.setCell ⟨P, 1, none⟩ (.int .i64 ((a : Int) + 1)) := ⟨_, rfl⟩
  rw [← hW] at k1 k2
  have HM2 : Hid (Mv w W P) := (Mv.ofB (uh HB)).trans k2
  have HD := hide (digits_any P T (a + 1) d 9223372036854775808 (by omega) (by omega) W k1)
  clear HN HP1 HB cf c0 c2 k1 k2
  go_wp2_with fail
  rw [← hW]
  clear hW c1 f1
  refine (uh HD).mono ?_
  rintro e w3 (⟨n, val, a3, hM, rfl, hP3, hM3, rfl, hn⟩ | ⟨y, a3, hM, rfl, h2, h3⟩)
  ·have HN3 := hide (next_any P T a3 d w3 hP3)
   have hfr := fr_next (T.drop a3)
   have hle3 := hP3.le
   have HM3 : Hid (Mv w w3 P) := (uh HM2).trans hM3
   rw [hM] at HRES
   simp only at HRES
   obtain ⟨X, hX⟩ : ∃ X, nxI (T.drop a3) = X := ⟨_, rfl⟩
   rw [hX] at hfr HN3
   cases hf : fracB (T.drop a3) with
   | true =>
    rw [hf] at HRES hfr
    have HE : Hid (RES = .no (T.drop a3) 42) := by show _ = _; rw [uh HRES]; rfl
    unfold frI at hfr
    clear HD HRES hM hP3 hM3 hX hf
    go_wp2_with fail
    refine (uh HN3).mono ?_
    rintro e w4 ⟨rfl, HP4, HB4⟩
    have HG := hide (giveUp_any P T a3 d 42 w4 (uh HP4))
    have HM4 : Hid (Mv w w4 P) := (uh HM3).trans (Mv.ofB (uh HB4))
    clear HN3
    go_wp2_with fail
    all_goals
     refine (uh HG).mono ?_
     rintro e w5 ⟨rfl, hw5⟩
     subst hw5
     exact ⟨rfl, Po.nay (uh HE) hle3 (uh HM4)⟩
   | false =>
    rw [hf] at HRES hfr
    have HE : Hid (RES = .ok (-(n : Int)) (T.drop a3)) := by show _ = _; rw [uh HRES]; rfl
    unfold frI at hfr
    have hfr0 := hfr
    simp only [Bool.or_eq_false_iff, beq_eq_false_iff_ne, ne_eq] at hfr
    obtain ⟨⟨g1, g2⟩, g3⟩ := hfr
    have hcv : IntKind.i64.wrap (IntKind.u64.wrap (-(n : Int))) = -(n : Int) := by rw [IntKind.wrap_u64, IntKind.wrap_i64]; omega
    clear HD HRES hM hP3 hM3 hX hf
    go_wp2_with fail
    refine (uh HN3).mono ?_
    rintro e w4 ⟨rfl, HP4, HB4⟩
    have HM4 : Hid (Mv w w4 P) := (uh HM3).trans (Mv.ofB (uh HB4))
    clear HN3
    go_wp2_with fail
    go_ret
    exact Po.yes (uh HE) (uh HP4) (uh HM4) rfl
  ·exact ⟨rfl, Po.nay (by rw [uh HRES, hM]) h2 ((uh HM2).trans h3)⟩
 ·rw [nu_pos _ hng] at hRES
  have HRES := hide hRES
  obtain ⟨Z, hZ⟩ : ∃ Z, nxI (T.drop a) = Z := ⟨_, rfl⟩
  rw [hZ] at HN hng
  clear h hRES hZ
  go_enter Tryz.func107, Tryz.ntmps107
  go_wp2_with fail
  refine (uh HN).mono ?_
  rintro e w1 ⟨rfl, HP1, HB⟩
  have HM2 : Hid (Mv w w1 P) := Mv.ofB (uh HB)
  have HD := hide (digits_any P T a d 9223372036854775807 (by omega) (by omega) w1 (uh HP1))
  clear HN HP1 HB
  go_wp2_with fail
  refine (uh HD).mono ?_
  rintro e w3 (⟨n, val, a3, hM, rfl, hP3, hM3, rfl, hn⟩ | ⟨y, a3, hM, rfl, h2, h3⟩)
  ·have HN3 := hide (next_any P T a3 d w3 hP3)
   have hfr := fr_next (T.drop a3)
   have hle3 := hP3.le
   have HM3 : Hid (Mv w w3 P) := (uh HM2).trans hM3
   rw [hM] at HRES
   simp only at HRES
   obtain ⟨X, hX⟩ : ∃ X, nxI (T.drop a3) = X := ⟨_, rfl⟩
   rw [hX] at hfr HN3
   cases hf : fracB (T.drop a3) with
   | true =>
    rw [hf] at HRES hfr
    have HE : Hid (RES = .no (T.drop a3) 42) := by show _ = _; rw [uh HRES]; rfl
    unfold frI at hfr
    clear HD HRES hM hP3 hM3 hX hf
    go_wp2_with fail
    refine (uh HN3).mono ?_
    rintro e w4 ⟨rfl, HP4, HB4⟩
    have HG := hide (giveUp_any P T a3 d 42 w4 (uh HP4))
    have HM4 : Hid (Mv w w4 P) := (uh HM3).trans (Mv.ofB (uh HB4))
    clear HN3
    go_wp2_with fail
    all_goals
     refine (uh HG).mono ?_
     rintro e w5 ⟨rfl, hw5⟩
     subst hw5
     exact ⟨rfl, Po.nay (uh HE) hle3 (uh HM4)⟩
   | false =>
    rw [hf] at HRES hfr
    have HE : Hid (RES = .ok ((n : Int)) (T.drop a3)) := by show _ = _; rw [uh HRES]; rfl
    unfold frI at hfr
    have hfr0 := hfr
    simp only [Bool.or_eq_false_iff, beq_eq_false_iff_ne, ne_eq] at hfr
    obtain ⟨⟨g1, g2⟩, g3⟩ := hfr
    have hcv : IntKind.i64.wrap (n : Int) = (n : Int) := by rw [IntKind.wrap_i64]; omega
    clear HD HRES hM hP3 hM3 hX hf
    go_wp2_with fail
    refine (uh HN3).mono ?_
    rintro e w4 ⟨rfl, HP4, HB4⟩
    have HM4 : Hid (Mv w w4 P) := (uh HM3).trans (Mv.ofB (uh HB4))
    clear HN3
    go_wp2_with fail
    go_ret
    exact Po.yes (uh HE) (uh HP4) (uh HM4) rfl
  ·exact ⟨rfl, Po.nay (by rw [uh HRES, hM]) h2 ((uh HM2).trans h3)⟩
end Go.Proofs.YtmpjeahibfdehaaGreatDoor
end
section
set_option linter.unusedVariables false
set_option maxRecDepth 1000000
namespace Go.Proofs.YtmpjeahibfdehaaGreatDoor
open Go.RowKit

set_option maxHeartbeats 1000000 in
theorem hex_some (c : UInt8) (x : Nat) (hx : hxB c = some x) (w : World) : Calls Tryz.prog 207 #[.int .i64 (c.toNat : Int)] w fun e w' => e = .returned (.tuple #[.int .i32 (x : Int), .bool true]) ∧ w' = w := by
 have hc := c.toNat_lt
 have HD := hide (isDigit4 (c.toNat : Int) w)
 have hdg : dgI (c.toNat : Int) = decide (48 ≤ c.toNat ∧ c.toNat ≤ 57) := by
  unfold dgI
  rw [← Bool.decide_and]
  apply decide_eq_decide.2
  omega
 rw [hdg] at HD
 unfold hxB at hx
 generalize c.toNat = n at *
 by_cases h1 : 48 ≤ n ∧ n ≤ 57
 ·rw [if_pos h1] at hx
  have hxx : (n : Int) - 48 = (x : Int) := by have := Option.some.inj hx; omega
  have hx9 : x ≤ 9 := by omega
  have hwr : wrap32 (x : Int) = (x : Int) := by unfold wrap32; omega
  rw [decide_eq_true h1] at HD
  clear hx hdg
  go_enter Tryz.func207, Tryz.ntmps207
  go_wp2_with fail
  refine (uh HD).mono ?_
  rintro e w1 ⟨rfl, hw⟩
  subst hw
  go_wp2_with fail
  go_ret2
  exact ⟨rfl, rfl⟩
 ·rw [if_neg h1] at hx
  rw [decide_eq_false h1] at HD
  by_cases h2 : 97 ≤ n ∧ n ≤ 102
  ·rw [if_pos h2] at hx
   obtain ⟨Y, hY⟩ : ∃ Y : Nat, Y = n - 97 := ⟨_, rfl⟩
   have hxx : (n : Int) - 97 = (Y : Int) := by omega
   have hxe : (Y : Int) + 10 = (x : Int) := by have := Option.some.inj hx; omega
   have hY5 : Y ≤ 5 := by omega
   have hwr : wrap32 (Y : Int) = (Y : Int) := by unfold wrap32; omega
   have hwr2 : wrap32 (x : Int) = (x : Int) := by unfold wrap32; omega
   have q1 : (97 : Int) ≤ (n : Int) := by omega
   have q2 : (n : Int) ≤ 102 := by omega
   clear hx hdg hY h1
   go_enter Tryz.func207, Tryz.ntmps207
   go_wp2_with fail
   refine (uh HD).mono ?_
   rintro e w1 ⟨rfl, hw⟩
   subst hw
   go_wp2_with fail
   go_ret2
   exact ⟨rfl, rfl⟩
  ·rw [if_neg h2] at hx
   by_cases h3 : 65 ≤ n ∧ n ≤ 70
   ·rw [if_pos h3] at hx
    obtain ⟨Y, hY⟩ : ∃ Y : Nat, Y = n - 65 := ⟨_, rfl⟩
    have hxx : (n : Int) - 65 = (Y : Int) := by omega
    have hxe : (Y : Int) + 10 = (x : Int) := by have := Option.some.inj hx; omega
    have hY5 : Y ≤ 5 := by omega
    have hwr : wrap32 (Y : Int) = (Y : Int) := by unfold wrap32; omega
    have hwr2 : wrap32 (x : Int) = (x : Int) := by unfold wrap32; omega
    have q1 : ¬ (97 : Int) ≤ (n : Int) := by omega
    have q2 : (65 : Int) ≤ (n : Int) := by omega
    have q3 : (n : Int) ≤ 70 := by omega
    clear hx hdg hY h1 h2
    go_enter Tryz.func207, Tryz.ntmps207
    go_wp2_with fail
    refine (uh HD).mono ?_
    rintro e w1 ⟨rfl, hw⟩
    subst hw
    go_wp2_with fail
    go_ret2
    exact ⟨rfl, rfl⟩
   ·rw [if_neg h3] at hx
    cases hx
set_option maxHeartbeats 1000000 in
theorem hex_none (n : Int) (h1 : ¬ (48 ≤ n ∧ n ≤ 57)) (h2 : ¬ (97 ≤ n ∧ n ≤ 102)) (h3 : ¬ (65 ≤ n ∧ n ≤ 70)) (w : World) : Calls Tryz.prog 207 #[.int .i64 n] w fun e w' => e = .returned (.tuple #[.int .i32 0, .bool false]) ∧ w' = w := by
 have HD := hide (isDigit4 n w)
 have hdg : dgI n = false := by
  unfold dgI
  rw [← Bool.decide_and]
  exact decide_eq_false h1
 rw [hdg] at HD
 have q1 : 97 ≤ n → ¬ n ≤ 102 := fun a b => h2 ⟨a, b⟩
 have q2 : 65 ≤ n → ¬ n ≤ 70 := fun a b => h3 ⟨a, b⟩
 have HQ1 := hide q1
 have HQ2 := hide q2
 clear h1 h2 h3 q1 q2 hdg
 by_cases a1 : 97 ≤ n
 ·have b1 := uh HQ1 a1
  have a2 : 65 ≤ n := by omega
  have b2 := uh HQ2 a2
  go_enter Tryz.func207, Tryz.ntmps207
  go_wp2_with fail
  refine (uh HD).mono ?_
  rintro e w1 ⟨rfl, hw⟩
  subst hw
  go_wp2_with fail
  go_ret2
  exact ⟨rfl, rfl⟩
 ·by_cases a2 : 65 ≤ n
  ·have b2 := uh HQ2 a2
   go_enter Tryz.func207, Tryz.ntmps207
   go_wp2_with fail
   refine (uh HD).mono ?_
   rintro e w1 ⟨rfl, hw⟩
   subst hw
   go_wp2_with fail
   go_ret2
   exact ⟨rfl, rfl⟩
  ·go_enter Tryz.func207, Tryz.ntmps207
   go_wp2_with fail
   refine (uh HD).mono ?_
   rintro e w1 ⟨rfl, hw⟩
   subst hw
   go_wp2_with fail
   go_ret2
   exact ⟨rfl, rfl⟩
theorem hex_no (c : UInt8) (h : hxB c = none) : ¬ ((48 : Int) ≤ c.toNat ∧ (c.toNat : Int) ≤ 57) ∧ ¬ ((97 : Int) ≤ c.toNat ∧ (c.toNat : Int) ≤ 102) ∧ ¬ ((65 : Int) ≤ c.toNat ∧ (c.toNat : Int) ≤ 70) := by
 unfold hxB at h
 split at h
 ·cases h
 ·split at h
  ·cases h
  ·split at h
   ·cases h
   ·omega
def unV (a b : Int) : Value := .agg #[.int .i32 a, .int .i32 b]
set_option maxHeartbeats 1000000 in
theorem has_any (a b n : Int) (w : World) : Calls Tryz.prog 187 #[unV a b, .int .i32 n] w fun e w' => e = .returned (.bool (decide (a ≤ n) && decide (n ≤ b))) ∧ Hid (Below w.heap.size w w') := by
 unfold unV
 have HB := hide ((Below.refl w.heap.size w).alloc (Nat.le_refl _) (.cells #[.int .i32 a, .int .i32 b] 207))
 by_cases h1 : a ≤ n
 ·rw [decide_eq_true h1]
  go_enter Tryz.func187, Tryz.ntmps187
  go_wp2
  go_ret
  exact ⟨by simp, HB⟩
 ·rw [decide_eq_false h1]
  go_enter Tryz.func187, Tryz.ntmps187
  go_wp2
  go_ret
  exact ⟨by simp, HB⟩
end Go.Proofs.YtmpjeahibfdehaaGreatDoor
end
section
set_option linter.unusedVariables false
set_option maxRecDepth 1000000
namespace Go.Proofs.YtmpjeahibfdehaaGreatDoor
open Go.RowKit

theorem below2 (w : World) (A B : Obj) : Below w.heap.size w ((w.alloc A).alloc B) := ((Below.refl w.heap.size w).alloc (Nat.le_refl _) _).alloc (by simp) _
set_option maxHeartbeats 1000000 in
theorem holds_any (a b x y : Int) (w : World) : Calls Tryz.prog 186 #[unV a b, unV x y] w fun e w' => e = .returned (.bool (decide (a ≤ x) && decide (x ≤ b) && (decide (a ≤ y) && decide (y ≤ b)))) ∧ Hid (Below w.heap.size w w') := by
 obtain ⟨W, hW⟩ : ∃ W, W = (w.alloc (.cells #[.int .i32 a, .int .i32 b] 207)).alloc (.cells #[.int .i32 x, .int .i32 y] 207) := ⟨_, rfl⟩
 have hb : Below w.heap.size w W := by rw [hW]; exact below2 _ _ _
 obtain ⟨A, hA⟩ : ∃ A, A = w.heap.size := ⟨_, rfl⟩
 have hr1 : W.heap[A]? = some (.cells #[.int .i32 a, .int .i32 b] 207 (0, 0)) := by rw [hW, hA]; exact heap_alloc2_old _ _ _
 have hr2 : W.heap[A + 1]? = some (.cells #[.int .i32 x, .int .i32 y] 207 (0, 0)) := by rw [hW, hA]; exact heap_alloc2_new _ _ _
 have c1 : W.cell? ⟨A, 0, none⟩ = some (.int .i32 a) := cR6 hr1
 have c2 : W.cell? ⟨A, 1, none⟩ = some (.int .i32 b) := cR6 hr1
 have d1 : W.cell? ⟨A + 1, 0, none⟩ = some (.int .i32 x) := cR6 hr2
 have d2 : W.cell? ⟨A + 1, 1, none⟩ = some (.int .i32 y) := cR6 hr2
 have HB := hide hb
 have HH := hide (has_any a b x W)
 have HH2 := fun W => hide (has_any a b y W)
 have HR1 := hide hr1
 have HR2 := hide hr2
 cases hv : (decide (a ≤ x) && decide (x ≤ b)) with
 | true =>
  rw [hv] at HH
  simp only [Bool.true_and]
  clear hv hb hr1 hr2
  unfold unV at HH HH2 ⊢
  go_enter Tryz.func186, Tryz.ntmps186
  go_upto_region 1 with fail
  rw [← hW, ← hA]
  clear hW hA
  go_wp2_with fail
  refine (uh HH).mono ?_
  rintro e w1 ⟨rfl, HB1⟩
  have r1 := ((uh HB1).block A (aI (uh HR1)).1).trans (uh HR1)
  have r2 := ((uh HB1).block (A + 1) (aI (uh HR2)).1).trans (uh HR2)
  have e1 : w1.cell? ⟨A, 0, none⟩ = some (.int .i32 a) := cR6 r1
  have e2 : w1.cell? ⟨A, 1, none⟩ = some (.int .i32 b) := cR6 r1
  have g2 : w1.cell? ⟨A + 1, 1, none⟩ = some (.int .i32 y) := cR6 r2
  have HH3 := HH2 w1
  clear r1 r2 HH HH2 c1 c2 d1 d2
  go_wp2_with fail
  refine (uh HH3).mono ?_
  rintro e w2 ⟨rfl, HB2⟩
  go_wp2_with fail
  go_ret
  exact ⟨rfl, (uh HB).trans (((uh HB1).mono (uh HB).size).trans ((uh HB2).mono (Nat.le_trans (uh HB).size (uh HB1).size)))⟩
 | false =>
  rw [hv] at HH
  simp only [Bool.false_and]
  clear hv hb hr1 hr2
  unfold unV at HH HH2 ⊢
  go_enter Tryz.func186, Tryz.ntmps186
  go_upto_region 1 with fail
  rw [← hW, ← hA]
  clear hW hA
  go_wp2_with fail
  refine (uh HH).mono ?_
  rintro e w1 ⟨rfl, HB1⟩
  clear HH HH2 c1 c2 d1 d2
  go_wp2_with fail
  go_ret
  exact ⟨rfl, (uh HB).trans ((uh HB1).mono (uh HB).size)⟩
set_option maxHeartbeats 1000000 in
theorem meets_any (a b x y : Int) (w : World) : Calls Tryz.prog 188 #[unV a b, unV x y] w fun e w' => e = .returned (.bool (decide (a ≤ y) && decide (x ≤ b))) ∧ Hid (Below w.heap.size w w') := by
 obtain ⟨W, hW⟩ : ∃ W, W = (w.alloc (.cells #[.int .i32 a, .int .i32 b] 207)).alloc (.cells #[.int .i32 x, .int .i32 y] 207) := ⟨_, rfl⟩
 have hb : Below w.heap.size w W := by rw [hW]; exact below2 _ _ _
 obtain ⟨A, hA⟩ : ∃ A, A = w.heap.size := ⟨_, rfl⟩
 have hr1 : W.heap[A]? = some (.cells #[.int .i32 a, .int .i32 b] 207 (0, 0)) := by rw [hW, hA]; exact heap_alloc2_old _ _ _
 have hr2 : W.heap[A + 1]? = some (.cells #[.int .i32 x, .int .i32 y] 207 (0, 0)) := by rw [hW, hA]; exact heap_alloc2_new _ _ _
 have c1 : W.cell? ⟨A, 0, none⟩ = some (.int .i32 a) := cR6 hr1
 have c2 : W.cell? ⟨A, 1, none⟩ = some (.int .i32 b) := cR6 hr1
 have d1 : W.cell? ⟨A + 1, 0, none⟩ = some (.int .i32 x) := cR6 hr2
 have d2 : W.cell? ⟨A + 1, 1, none⟩ = some (.int .i32 y) := cR6 hr2
 have HB := hide hb
 unfold unV
 clear hb hr1 hr2
 by_cases h1 : a ≤ y
 ·rw [decide_eq_true h1]
  go_enter Tryz.func188, Tryz.ntmps188
  go_upto_region 1 with fail
  rw [← hW, ← hA]
  clear hW hA
  go_wp2_with fail
  go_ret
  exact ⟨by simp, HB⟩
 ·rw [decide_eq_false h1]
  go_enter Tryz.func188, Tryz.ntmps188
  go_upto_region 1 with fail
  rw [← hW, ← hA]
  clear hW hA
  go_wp2_with fail
  go_ret
  exact ⟨by simp, HB⟩
/-- The halves that come last, in a block that is only read. -/
def Lows (w : World) (L : Nat) : Prop := w.heap[L]? = some (.cells #[.int .i32 56320, .int .i32 57343] 207 (0, 0))
def fitHI (a b : Int) : Bool := !(decide (56320 ≤ a) && decide (a ≤ 57343) && (decide (56320 ≤ b) && decide (b ≤ 57343)))
def fitLI (a b : Int) : Bool := decide (56320 ≤ b) && decide (a ≤ 57343)
set_option maxHeartbeats 1000000 in
theorem high1 (L : Nat) (x y : Int) (w : World) (hL : Lows w L) : Calls Tryz.prog 185 #[unV x y, .pointer (some ⟨L, 0, none⟩)] w fun e w' => e = .returned (.bool (fitHI x y)) ∧ Hid (Below w.heap.size w w') := by
 obtain ⟨W, hW⟩ : ∃ W, W = w.alloc (.cells #[.int .i32 x, .int .i32 y] 207) := ⟨_, rfl⟩
 have hb : Below w.heap.size w W := by rw [hW]; exact (Below.refl w.heap.size w).alloc (Nat.le_refl _) _
 obtain ⟨A, hA⟩ : ∃ A, A = w.heap.size := ⟨_, rfl⟩
 have hr1 : W.heap[A]? = some (.cells #[.int .i32 x, .int .i32 y] 207 (0, 0)) := by rw [hW, hA]; exact heap_alloc_new _ _
 have hr2 : W.heap[L]? = some (.cells #[.int .i32 56320, .int .i32 57343] 207 (0, 0)) := (hb.block L (aI hL).1).trans hL
 have d1 : W.cell? ⟨A, 0, none⟩ = some (.int .i32 x) := cR6 hr1
 have d2 : W.cell? ⟨A, 1, none⟩ = some (.int .i32 y) := cR6 hr1
 have c1 : W.cell? ⟨L, 0, none⟩ = some (.int .i32 56320) := cR6 hr2
 have c2 : W.cell? ⟨L, 1, none⟩ = some (.int .i32 57343) := cR6 hr2
 have HB := hide hb
 have HH := hide (holds_any 56320 57343 x y W)
 have hf : fitHI x y = !(decide (56320 ≤ x) && decide (x ≤ 57343) && (decide (56320 ≤ y) && decide (y ≤ 57343))) := rfl
 rw [hf]
 generalize (decide (56320 ≤ x) && decide (x ≤ 57343) && (decide (56320 ≤ y) && decide (y ≤ 57343))) = bb at *
 unfold unV at HH ⊢
 clear hb hr1 hr2 hL hf
 go_enter Tryz.func185, Tryz.ntmps185
 go_upto_region 1 with fail
 rw [← hW, ← hA]
 clear hW hA
 go_wp2_with fail
 refine (uh HH).mono ?_
 rintro e w2 ⟨rfl, HB2⟩
 go_wp2_with fail
 go_ret
 exact ⟨rfl, (uh HB).trans ((uh HB2).mono (uh HB).size)⟩
end Go.Proofs.YtmpjeahibfdehaaGreatDoor
end
section
set_option linter.unusedVariables false
set_option maxRecDepth 1000000
namespace Go.Proofs.YtmpjeahibfdehaaGreatDoor
open Go.RowKit

theorem or16 (n x : Nat) (hn : n < 65536) (hx : x < 16) : bits .or .i32 ((n : Int) * 16) (x : Int) = ((n * 16 + x : Nat) : Int) := by
 have := bits_join .i32 31 (by decide) wraps_i32 4 ((n : Int) * 16) (x : Int) (by omega) (by omega) (by omega) (by omega) (by omega) (by omega)
 rw [this]; omega
theorem un_bits (n k x : Nat) (hk : k < 4) (hn : n < 16 ^ (3 - k)) (hx : x < 16) :
  wrap32 ((2 : Int) ^ (4 * k)) = ((16 ^ k : Nat) : Int) ∧ wrap32 (((16 ^ k : Nat) : Int) - 1) = ((16 ^ k - 1 : Nat) : Int) ∧ wrap32 (((n * 16 + x : Nat) : Int) * 2 ^ (4 * k)) = (((n * 16 + x) * 16 ^ k : Nat) : Int) ∧ bits .or .i32 (((n * 16 + x) * 16 ^ k : Nat) : Int) ((16 ^ k - 1 : Nat) : Int) = (((n * 16 + x) * 16 ^ k + (16 ^ k - 1) : Nat) : Int) ∧ n * 16 + x < 16 ^ (4 - k) := by
 have key : ∀ (i m : Nat), i ≤ 12 → m * 2 ^ i < 65536 → bits .or .i32 ((m * 2 ^ i : Nat) : Int) ((2 ^ i - 1 : Nat) : Int) = ((m * 2 ^ i + (2 ^ i - 1) : Nat) : Int) := by
  intro i m hi hm
  have hp : 0 < 2 ^ i := Nat.two_pow_pos i
  have hp2 : 2 ^ i ≤ 2 ^ 12 := Nat.pow_le_pow_right (by decide) hi
  have := bits_join .i32 31 (by decide) wraps_i32 i ((m * 2 ^ i : Nat) : Int) ((2 ^ i - 1 : Nat) : Int) (by omega) (by
   have : (m * 2 ^ i) % 2 ^ i = 0 := Nat.mul_mod_left m (2 ^ i)
   exact_mod_cast this) (by omega) (by omega) (by
   have : 2 ^ i - 1 < 2 ^ i := by omega
   exact_mod_cast this) (by omega)
  rw [this]; omega
 match k, hk with
 | 0, _ => exact ⟨by simp [wrap32], by simp [wrap32], by simp [wrap32]; omega, by have := key 0 (n * 16 + x) (by omega) (by simp at hn ⊢; omega); simpa using this, by simp at hn ⊢; omega⟩
 | 1, _ => exact ⟨by simp [wrap32], by simp [wrap32], by simp [wrap32] at hn ⊢; omega, by have := key 4 (n * 16 + x) (by omega) (by simp at hn ⊢; omega); simpa using this, by simp at hn ⊢; omega⟩
 | 2, _ => exact ⟨by simp [wrap32], by simp [wrap32], by simp [wrap32] at hn ⊢; omega, by have := key 8 (n * 16 + x) (by omega) (by simp at hn ⊢; omega); simpa using this, by simp at hn ⊢; omega⟩
 | 3, _ => exact ⟨by simp [wrap32], by simp [wrap32], by simp [wrap32] at hn ⊢; omega, by have := key 12 (n * 16 + x) (by omega) (by simp at hn ⊢; omega); simpa using this, by simp at hn ⊢; omega⟩
theorem fitH_I (a b : Nat) : fitHI (a : Int) (b : Int) = fitH a b := by
 unfold fitHI fitH
 congr 1
 congr 1 <;> congr 1 <;> (apply decide_eq_decide.2; omega)
theorem fitL_I (a b : Nat) : fitLI (a : Int) (b : Int) = fitL a b := by
 unfold fitLI fitL
 congr 1 <;> (apply decide_eq_decide.2; omega)
theorem low1 (x y : Int) (w : World) : Calls Tryz.prog 188 #[unV 56320 57343, unV x y] w fun e w' => e = .returned (.bool (fitLI x y)) ∧ Hid (Below w.heap.size w w') := meets_any 56320 57343 x y w
set_option maxHeartbeats 4000000 in
theorem unit_h (P : Nat) (T : List UInt8) (a d : Nat) (L : Nat) (w : World) (h : Pa w P T a d) (hL : Lows w L) (hne : L ≠ P) :
  Calls Tryz.prog 184 #[.pointer (some ⟨P, 0, none⟩), .func (.func 185) #[] #[.pointer (some ⟨L, 0, none⟩)]] w fun e w' => Po (fun (n : Nat) val _ => val = .int .i32 (n : Int) ∧ n < 65536) T w P d (unM fitH 4 0 (T.drop a)) e w' := by
 have hbig := h.big
 have HP := hide h
 have HL := hide hL
 obtain ⟨RES, hRES⟩ : ∃ RES, RES = unM fitH 4 0 (T.drop a) := ⟨_, rfl⟩
 rw [← hRES]
 have HRES := hide hRES
 clear h hL hRES
 skip
 go_enter Tryz.func184, Tryz.ntmps184
 go_wp2_with fail
 go_loopw [5, 6] (fun v5 v6 wr => ∃ (n k a' : Nat), k ≤ 4 ∧ n < 16 ^ (4 - k) ∧ v5 = .int .i32 (n : Int) ∧ v6 = .int .i64 ((k : Int) - 1) ∧ Hid (Pa wr P T a' d) ∧ Hid (Mv w wr P) ∧ Hid (RES = unM fitH k n (T.drop a'))) (fun _ v6 _ => (intOf v6 + 1).toNat)
 case atStart => exact ⟨0, 4, a, Nat.le_refl _, by decide, rfl, rfl, HP, Mv.refl _ _, HRES⟩
 case round =>
  obtain ⟨n, k, a', hk, hn, rfl, rfl, HPr, HMr, HS⟩ := hrel
  have hle := (uh HPr).le
  cases k with
  | zero =>
   have hk1 : ((0 : Nat) : Int) - 1 = -1 := rfl
   rw [hk1]
   have hn2 : n < 65536 := hn
   clear hn
   have HE : Hid (RES = .ok n (T.drop a')) := by show _ = _; rw [uh HS]; rfl
   go_wp2_with fail
   go_ret
   exact Po.yes (uh HE) (uh HPr) (uh HMr) ⟨rfl, hn2⟩
  | succ k =>
   have hk1 : ((k + 1 : Nat) : Int) - 1 = (k : Int) := by omega
   rw [hk1]
   have hk0 : (0 : Int) ≤ (k : Int) := by omega
   have hk3 : k < 4 := by omega
   have hnk : n < 16 ^ (3 - k) := by rw [show 3 - k = 4 - (k + 1) by omega]; exact hn
   have hn16 : n < 4096 := by
    have : 16 ^ (3 - k) ≤ 16 ^ 3 := Nat.pow_le_pow_right (by decide) (by omega)
    omega
   have HNK := hide hnk
   clear hn hk1 hnk
   cases hl : T.drop a' with
   | nil =>
    have HN := hide (next_any P T a' d wr (uh HPr))
    rw [hl, show nxI [] = -1 from rfl] at HN
    have HX0 := hide (hex_none (-1) (by omega) (by omega) (by omega))
    have HE : Hid (RES = .no (T.drop a') 40) := by show _ = _; rw [uh HS, hl]; rfl
    go_wp2_with fail
    refine (uh HN).mono ?_
    rintro e w1 ⟨rfl, HP1, HB1⟩
    have HX := hide (uh HX0 w1)
    clear HN HX0
    go_wp2_with fail
    refine (uh HX).mono ?_
    rintro e w2 ⟨rfl, hw2⟩
    subst hw2
    have HG := hide (giveUp_any P T a' d 40 w2 (uh HP1))
    have HM2 : Hid (Mv w w2 P) := (uh HMr).trans (Mv.ofB (uh HB1))
    clear HX
    go_wp2_with fail
    refine (uh HG).mono ?_
    rintro e w5 ⟨rfl, hw5⟩
    subst hw5
    exact ⟨rfl, Po.nay (uh HE) hle (uh HM2)⟩
   | cons c r =>
    have HN := hide (next_any P T a' d wr (uh HPr))
    rw [hl, show nxI (c :: r) = (c.toNat : Int) from rfl] at HN
    cases hx : hxB c with
    | none =>
     obtain ⟨z1, z2, z3⟩ := hex_no c hx
     have HX0 := hide (hex_none (c.toNat : Int) z1 z2 z3)
     have HE : Hid (RES = .no (T.drop a') 40) := by show _ = _; rw [uh HS, hl]; simp [unM, hx]
     clear z1 z2 z3
     go_wp2_with fail
     refine (uh HN).mono ?_
     rintro e w1 ⟨rfl, HP1, HB1⟩
     have HX := hide (uh HX0 w1)
     clear HN HX0
     go_wp2_with fail
     refine (uh HX).mono ?_
     rintro e w2 ⟨rfl, hw2⟩
     subst hw2
     have HG := hide (giveUp_any P T a' d 40 w2 (uh HP1))
     have HM2 : Hid (Mv w w2 P) := (uh HMr).trans (Mv.ofB (uh HB1))
     clear HX
     go_wp2_with fail
     refine (uh HG).mono ?_
     rintro e w5 ⟨rfl, hw5⟩
     subst hw5
     exact ⟨rfl, Po.nay (uh HE) hle (uh HM2)⟩
    | some x =>
     have hx16 := hxB_lt c x hx
     have HX0 := hide (hex_some c x hx)
     obtain ⟨u1, u2, u3, u4, u5⟩ := un_bits n k x hk3 (uh HNK) hx16
     have u0 := or16 n x (by omega) hx16
     have hst : unM fitH (k + 1) n (c :: r) = if fitH ((n * 16 + x) * 16 ^ k) ((n * 16 + x) * 16 ^ k + (16 ^ k - 1)) then unM fitH k (n * 16 + x) r else .no (c :: r) 40 := by
      simp only [unM, hx]
     have hfi := fitH_I ((n * 16 + x) * 16 ^ k) ((n * 16 + x) * 16 ^ k + (16 ^ k - 1))
     rw [hl, hst] at HS
     obtain ⟨hlt, _, hdr⟩ := drop_cons hl
     generalize (n * 16 + x) * 16 ^ k + (16 ^ k - 1) = G at *
     generalize (n * 16 + x) * 16 ^ k = F at *
     generalize (16 ^ k - 1 : Nat) = O at *
     generalize (16 ^ k : Nat) = E at *
     generalize n * 16 + x = N at *
     clear hx hst
     have HU5 := hide u5
     clear u5
     cases hf : fitH F G with
     | true =>
      rw [hf] at HS hfi
      have HE : Hid (RES = unM fitH k N (T.drop (a' + 1))) := by show _ = _; rw [uh HS, hdr]; rfl
      clear hf
      go_wp2_with fail
      refine (uh HN).mono ?_
      rintro e w1 ⟨rfl, HP1, HB1⟩
      have HX := hide (uh HX0 w1)
      clear HN HX0
      go_wp2_with fail
      refine (uh HX).mono ?_
      rintro e w2 ⟨rfl, hw2⟩
      subst hw2
      have hC := high1 L (F : Int) (G : Int) w2 ((uh HMr).block L (aI (uh HL)).1 (fun e => hne (Option.some.inj e)) |>.trans (uh HL) |> fun z => ((uh HB1).block L (aI z).1).trans z)
      rw [hfi] at hC
      unfold unV at hC
      have HC := hide hC
      have HM2 : Hid (Mv w w2 P) := (uh HMr).trans (Mv.ofB (uh HB1))
      clear HX hC hfi
      go_wp2_with fail
      refine (uh HC).mono ?_
      rintro e w3 ⟨rfl, HB3⟩
      have hP3 := (uh HP1).below (uh HB3)
      obtain ⟨c0, c1, c2, cf⟩ := hP3.cells
      have f1 := cf 1
      obtain ⟨k1, k2⟩ := hP3.inc hlt
      have HP4 := hide k1
      have HM4 : Hid (Mv w (w3.setCell ⟨P, 1, none⟩ (.int .i64 ((a' : Int) + 1))) P) := (uh HM2).trans ((Mv.ofB (uh HB3)).trans k2)
      clear HC cf c0 c2 k1 k2 hP3 u0 u1 u2 u3 u4
      go_wp2_with fail
      go_roundw
      case rel => exact ⟨N, k, a' + 1, by omega, uh HU5, rfl, by go_num, HP4, HM4, HE⟩
      case measure => simp [intOf]
     | false =>
      rw [hf] at HS hfi
      have HE : Hid (RES = .no (T.drop a') 40) := by show _ = _; rw [uh HS, hl]; rfl
      clear hf
      go_wp2_with fail
      refine (uh HN).mono ?_
      rintro e w1 ⟨rfl, HP1, HB1⟩
      have HX := hide (uh HX0 w1)
      clear HN HX0
      go_wp2_with fail
      refine (uh HX).mono ?_
      rintro e w2 ⟨rfl, hw2⟩
      subst hw2
      have hC := high1 L (F : Int) (G : Int) w2 ((uh HMr).block L (aI (uh HL)).1 (fun e => hne (Option.some.inj e)) |>.trans (uh HL) |> fun z => ((uh HB1).block L (aI z).1).trans z)
      rw [hfi] at hC
      unfold unV at hC
      have HC := hide hC
      have HM2 : Hid (Mv w w2 P) := (uh HMr).trans (Mv.ofB (uh HB1))
      clear HX hC hfi
      go_wp2_with fail
      refine (uh HC).mono ?_
      rintro e w3 ⟨rfl, HB3⟩
      have HG := hide (giveUp_any P T a' d 40 w3 ((uh HP1).below (uh HB3)))
      have HM3 : Hid (Mv w w3 P) := (uh HM2).trans (Mv.ofB (uh HB3))
      clear HC u0 u1 u2 u3 u4
      go_wp2_with fail
      refine (uh HG).mono ?_
      rintro e w5 ⟨rfl, hw5⟩
      subst hw5
      exact ⟨rfl, Po.nay (uh HE) hle (uh HM3)⟩
set_option maxHeartbeats 4000000 in
theorem unit_l (P : Nat) (T : List UInt8) (a d : Nat) (L : Nat) (w : World) (h : Pa w P T a d) (hL : Lows w L) (hne : L ≠ P) :
  Calls Tryz.prog 184 #[.pointer (some ⟨P, 0, none⟩), .func (.func 188) #[unV 56320 57343] #[]] w fun e w' => Po (fun (n : Nat) val _ => val = .int .i32 (n : Int) ∧ n < 65536) T w P d (unM fitL 4 0 (T.drop a)) e w' := by
 have hbig := h.big
 have HP := hide h
 have HL := hide hL
 obtain ⟨RES, hRES⟩ : ∃ RES, RES = unM fitL 4 0 (T.drop a) := ⟨_, rfl⟩
 rw [← hRES]
 have HRES := hide hRES
 clear h hL hRES
 unfold unV
 go_enter Tryz.func184, Tryz.ntmps184
 go_wp2_with fail
 go_loopw [5, 6] (fun v5 v6 wr => ∃ (n k a' : Nat), k ≤ 4 ∧ n < 16 ^ (4 - k) ∧ v5 = .int .i32 (n : Int) ∧ v6 = .int .i64 ((k : Int) - 1) ∧ Hid (Pa wr P T a' d) ∧ Hid (Mv w wr P) ∧ Hid (RES = unM fitL k n (T.drop a'))) (fun _ v6 _ => (intOf v6 + 1).toNat)
 case atStart => exact ⟨0, 4, a, Nat.le_refl _, by decide, rfl, rfl, HP, Mv.refl _ _, HRES⟩
 case round =>
  obtain ⟨n, k, a', hk, hn, rfl, rfl, HPr, HMr, HS⟩ := hrel
  have hle := (uh HPr).le
  cases k with
  | zero =>
   have hk1 : ((0 : Nat) : Int) - 1 = -1 := rfl
   rw [hk1]
   have hn2 : n < 65536 := hn
   clear hn
   have HE : Hid (RES = .ok n (T.drop a')) := by show _ = _; rw [uh HS]; rfl
   go_wp2_with fail
   go_ret
   exact Po.yes (uh HE) (uh HPr) (uh HMr) ⟨rfl, hn2⟩
  | succ k =>
   have hk1 : ((k + 1 : Nat) : Int) - 1 = (k : Int) := by omega
   rw [hk1]
   have hk0 : (0 : Int) ≤ (k : Int) := by omega
   have hk3 : k < 4 := by omega
   have hnk : n < 16 ^ (3 - k) := by rw [show 3 - k = 4 - (k + 1) by omega]; exact hn
   have hn16 : n < 4096 := by
    have : 16 ^ (3 - k) ≤ 16 ^ 3 := Nat.pow_le_pow_right (by decide) (by omega)
    omega
   have HNK := hide hnk
   clear hn hk1 hnk
   cases hl : T.drop a' with
   | nil =>
    have HN := hide (next_any P T a' d wr (uh HPr))
    rw [hl, show nxI [] = -1 from rfl] at HN
    have HX0 := hide (hex_none (-1) (by omega) (by omega) (by omega))
    have HE : Hid (RES = .no (T.drop a') 40) := by show _ = _; rw [uh HS, hl]; rfl
    go_wp2_with fail
    refine (uh HN).mono ?_
    rintro e w1 ⟨rfl, HP1, HB1⟩
    have HX := hide (uh HX0 w1)
    clear HN HX0
    go_wp2_with fail
    refine (uh HX).mono ?_
    rintro e w2 ⟨rfl, hw2⟩
    subst hw2
    have HG := hide (giveUp_any P T a' d 40 w2 (uh HP1))
    have HM2 : Hid (Mv w w2 P) := (uh HMr).trans (Mv.ofB (uh HB1))
    clear HX
    go_wp2_with fail
    refine (uh HG).mono ?_
    rintro e w5 ⟨rfl, hw5⟩
    subst hw5
    exact ⟨rfl, Po.nay (uh HE) hle (uh HM2)⟩
   | cons c r =>
    have HN := hide (next_any P T a' d wr (uh HPr))
    rw [hl, show nxI (c :: r) = (c.toNat : Int) from rfl] at HN
    cases hx : hxB c with
    | none =>
     obtain ⟨z1, z2, z3⟩ := hex_no c hx
     have HX0 := hide (hex_none (c.toNat : Int) z1 z2 z3)
     have HE : Hid (RES = .no (T.drop a') 40) := by show _ = _; rw [uh HS, hl]; simp [unM, hx]
     clear z1 z2 z3
     go_wp2_with fail
     refine (uh HN).mono ?_
     rintro e w1 ⟨rfl, HP1, HB1⟩
     have HX := hide (uh HX0 w1)
     clear HN HX0
     go_wp2_with fail
     refine (uh HX).mono ?_
     rintro e w2 ⟨rfl, hw2⟩
     subst hw2
     have HG := hide (giveUp_any P T a' d 40 w2 (uh HP1))
     have HM2 : Hid (Mv w w2 P) := (uh HMr).trans (Mv.ofB (uh HB1))
     clear HX
     go_wp2_with fail
     refine (uh HG).mono ?_
     rintro e w5 ⟨rfl, hw5⟩
     subst hw5
     exact ⟨rfl, Po.nay (uh HE) hle (uh HM2)⟩
    | some x =>
     have hx16 := hxB_lt c x hx
     have HX0 := hide (hex_some c x hx)
     obtain ⟨u1, u2, u3, u4, u5⟩ := un_bits n k x hk3 (uh HNK) hx16
     have u0 := or16 n x (by omega) hx16
     have hst : unM fitL (k + 1) n (c :: r) = if fitL ((n * 16 + x) * 16 ^ k) ((n * 16 + x) * 16 ^ k + (16 ^ k - 1)) then unM fitL k (n * 16 + x) r else .no (c :: r) 40 := by
      simp only [unM, hx]
     have hfi := fitL_I ((n * 16 + x) * 16 ^ k) ((n * 16 + x) * 16 ^ k + (16 ^ k - 1))
     rw [hl, hst] at HS
     obtain ⟨hlt, _, hdr⟩ := drop_cons hl
     generalize (n * 16 + x) * 16 ^ k + (16 ^ k - 1) = G at *
     generalize (n * 16 + x) * 16 ^ k = F at *
     generalize (16 ^ k - 1 : Nat) = O at *
     generalize (16 ^ k : Nat) = E at *
     generalize n * 16 + x = N at *
     clear hx hst
     have HU5 := hide u5
     clear u5
     cases hf : fitL F G with
     | true =>
      rw [hf] at HS hfi
      have HE : Hid (RES = unM fitL k N (T.drop (a' + 1))) := by show _ = _; rw [uh HS, hdr]; rfl
      clear hf
      go_wp2_with fail
      refine (uh HN).mono ?_
      rintro e w1 ⟨rfl, HP1, HB1⟩
      have HX := hide (uh HX0 w1)
      clear HN HX0
      go_wp2_with fail
      refine (uh HX).mono ?_
      rintro e w2 ⟨rfl, hw2⟩
      subst hw2
      have hC := low1 (F : Int) (G : Int) w2
      rw [hfi] at hC
      unfold unV at hC
      have HC := hide hC
      have HM2 : Hid (Mv w w2 P) := (uh HMr).trans (Mv.ofB (uh HB1))
      clear HX hC hfi
      go_wp2_with fail
      refine (uh HC).mono ?_
      rintro e w3 ⟨rfl, HB3⟩
      have hP3 := (uh HP1).below (uh HB3)
      obtain ⟨c0, c1, c2, cf⟩ := hP3.cells
      have f1 := cf 1
      obtain ⟨k1, k2⟩ := hP3.inc hlt
      have HP4 := hide k1
      have HM4 : Hid (Mv w (w3.setCell ⟨P, 1, none⟩ (.int .i64 ((a' : Int) + 1))) P) := (uh HM2).trans ((Mv.ofB (uh HB3)).trans k2)
      clear HC cf c0 c2 k1 k2 hP3 u0 u1 u2 u3 u4
      go_wp2_with fail
      go_roundw
      case rel => exact ⟨N, k, a' + 1, by omega, uh HU5, rfl, by go_num, HP4, HM4, HE⟩
      case measure => simp [intOf]
     | false =>
      rw [hf] at HS hfi
      have HE : Hid (RES = .no (T.drop a') 40) := by show _ = _; rw [uh HS, hl]; rfl
      clear hf
      go_wp2_with fail
      refine (uh HN).mono ?_
      rintro e w1 ⟨rfl, HP1, HB1⟩
      have HX := hide (uh HX0 w1)
      clear HN HX0
      go_wp2_with fail
      refine (uh HX).mono ?_
      rintro e w2 ⟨rfl, hw2⟩
      subst hw2
      have hC := low1 (F : Int) (G : Int) w2
      rw [hfi] at hC
      unfold unV at hC
      have HC := hide hC
      have HM2 : Hid (Mv w w2 P) := (uh HMr).trans (Mv.ofB (uh HB1))
      clear HX hC hfi
      go_wp2_with fail
      refine (uh HC).mono ?_
      rintro e w3 ⟨rfl, HB3⟩
      have HG := hide (giveUp_any P T a' d 40 w3 ((uh HP1).below (uh HB3)))
      have HM3 : Hid (Mv w w3 P) := (uh HM2).trans (Mv.ofB (uh HB3))
      clear HC u0 u1 u2 u3 u4
      go_wp2_with fail
      refine (uh HG).mono ?_
      rintro e w5 ⟨rfl, hw5⟩
      subst hw5
      exact ⟨rfl, Po.nay (uh HE) hle (uh HM3)⟩
end Go.Proofs.YtmpjeahibfdehaaGreatDoor
end
section
set_option linter.unusedVariables false
set_option maxRecDepth 1000000
namespace Go.Proofs.YtmpjeahibfdehaaGreatDoor
open Go.RowKit

theorem un_fit (fit : Nat → Nat → Bool) : ∀ (k n : Nat) (l : List UInt8) (m : Nat) (r : List UInt8), unM fit (k + 1) n l = .ok m r → fit m m = true
 | k, n, [], m, r, h => by simp [unM] at h
 | 0, n, c :: l, m, r, h => by
  simp only [unM] at h
  cases hx : hxB c with
  | none => rw [hx] at h; cases h
  | some x =>
   rw [hx] at h
   simp only [Nat.pow_zero, Nat.mul_one, Nat.sub_self, Nat.add_zero] at h
   split at h
   ·rename_i hf
    simp only [Rs.ok.injEq] at h
    rw [← h.1]; exact hf
   ·cases h
 | k + 1, n, c :: l, m, r, h => by
  rw [unM] at h
  cases hx : hxB c with
  | none => rw [hx] at h; cases h
  | some x =>
   rw [hx] at h
   simp only at h
   split at h
   ·exact un_fit fit k _ _ _ _ h
   ·cases h
/-- A character's number. -/
def Rune (n : Nat) : Prop := n ≤ 1114111 ∧ (n < 55296 ∨ 57343 < n)
def RR4 (n : Nat) (val : Value) (_ : World) : Prop := val = .int .i32 (n : Int) ∧ Rune n
set_option maxHeartbeats 4000000 in
theorem hexCharacter_any (P : Nat) (T : List UInt8) (a d : Nat) (w : World) (h : Pa w P T a d) :
  Calls Tryz.prog 166 #[.pointer (some ⟨P, 0, none⟩)] w fun e w' => Po RR4 T w P d (hcM (T.drop a)) e w' := by
 obtain ⟨W, hW⟩ : ∃ W, W = (w.alloc (.cells #[.int .i32 55296, .int .i32 56319] 207)).alloc (.cells #[.int .i32 56320, .int .i32 57343] 207) := ⟨_, rfl⟩
 have hb : Below w.heap.size w W := by rw [hW]; exact below2 _ _ _
 obtain ⟨A, hA⟩ : ∃ A, A = w.heap.size := ⟨_, rfl⟩
 have hr1 : W.heap[A]? = some (.cells #[.int .i32 55296, .int .i32 56319] 207 (0, 0)) := by rw [hW, hA]; exact heap_alloc2_old _ _ _
 have hr2 : Lows W (A + 1) := by unfold Lows; rw [hW, hA]; exact heap_alloc2_new _ _ _
 have hPA : P < A := by rw [hA]; exact h.lt
 have HU := hide (unit_h P T a d (A + 1) W (h.below hb) hr2 (by omega))
 have HR1 := hide hr1
 have HR2 := hide hr2
 have HMW : Hid (Mv w W P) := Mv.ofB hb
 obtain ⟨RES, hRES⟩ : ∃ RES, RES = hcM (T.drop a) := ⟨_, rfl⟩
 rw [← hRES]
 unfold hcM at hRES
 have HRES := hide hRES
 have hbig := h.big
 clear h hb hr1 hr2 hRES
 go_enter Tryz.func166, Tryz.ntmps166
 go_upto_region 2 with fail
 rw [← hW, ← hA]
 clear hW hA
 have hmf : ∀ (fn : Fn) (first cap : Array Value) (w : World), (Instr.makeFunc fn first cap).run Tryz.prog w = .ok (.func fn first cap) w := fun _ _ _ _ => rfl
 go_wp2_with fail
 refine (uh HU).mono ?_
 rintro e w1 (⟨n, val, a1, hM, rfl, hP1, hM1, rfl, hn⟩ | ⟨y, a1, hM, rfl, h2, h3⟩)
 ·have hfit := un_fit fitH 3 0 _ _ _ hM
  have r1 := (hM1.block A (aI (uh HR1)).1 (fun e => by have := Option.some.inj e; omega)).trans (uh HR1)
  have r2 := (hM1.block (A + 1) (aI (uh HR2)).1 (fun e => by have := Option.some.inj e; omega)).trans (uh HR2)
  have e1 : w1.cell? ⟨A, 0, none⟩ = some (.int .i32 55296) := cR6 r1
  have e2 : w1.cell? ⟨A, 1, none⟩ = some (.int .i32 56319) := cR6 r1
  have HH := hide (has_any 55296 56319 (n : Int) w1)
  have HM1 : Hid (Mv w w1 P) := (uh HMW).trans hM1
  rw [hM] at HRES
  simp only at HRES
  have HP1 := hide hP1
  have HQ1 := hide r1
  have HQ2 := hide r2
  have HFIT := hide hfit
  clear HU hP1 hM1 r1 r2 hM hfit HR1 HR2
  unfold unV at HH
  by_cases hh : 55296 ≤ n ∧ n ≤ 56319
  ·have hv : (decide ((55296 : Int) ≤ (n : Int)) && decide ((n : Int) ≤ 56319)) = true := by
    rw [← Bool.decide_and]; exact decide_eq_true (by omega)
   rw [hv] at HH
   rw [if_pos hh] at HRES
   clear hv
   go_wp2_with fail
   refine (uh HH).mono ?_
   rintro e w2 ⟨rfl, HB2⟩
   have HW := hide (word_any P T a1 d [92, 117] (by decide) w2 ((uh HP1).below (uh HB2)))
   have HM2 : Hid (Mv w w2 P) := (uh HM1).trans (Mv.ofB (uh HB2))
   have HS1 := hide (((uh HB2).block A (aI (uh HQ1)).1).trans (uh HQ1))
   have HS2 := hide (((uh HB2).block (A + 1) (aI (uh HQ2)).1).trans (uh HQ2))
   rw [show str [92, 117] = ⟨#[92, 117]⟩ from rfl] at HW
   clear HH HP1 HQ1 HQ2 e1 e2
   go_wp2_with fail
   refine (uh HW).mono ?_
   rintro e w3 (⟨v3, val, a3, hM3, rfl, hP3, hMv3, hval⟩ | ⟨y, a3, hM3, rfl, h2, h3⟩)
   ·obtain rfl : val = .tuple #[] := hval
    have r1 := (hMv3.block A (aI (uh HS1)).1 (fun e => by have := Option.some.inj e; omega)).trans (uh HS1)
    have r2 := (hMv3.block (A + 1) (aI (uh HS2)).1 (fun e => by have := Option.some.inj e; omega)).trans (uh HS2)
    have g1 : w3.cell? ⟨A + 1, 0, none⟩ = some (.int .i32 56320) := cR6 r2
    have g2 : w3.cell? ⟨A + 1, 1, none⟩ = some (.int .i32 57343) := cR6 r2
    have hU3 := unit_l P T a3 d (A + 1) w3 hP3 r2 (by omega)
    unfold unV at hU3
    have HU3 := hide hU3
    have HM3 : Hid (Mv w w3 P) := (uh HM2).trans hMv3
    have HS3 := hide r1
    have HS4 := hide r2
    rw [hM3] at HRES
    simp only at HRES
    clear HW hP3 hMv3 r1 r2 hM3 hU3 HS1 HS2
    go_wp2_with fail
    refine (uh HU3).mono ?_
    rintro e w4 (⟨m, val, a4, hM4, rfl, hP4, hMv4, rfl, hm⟩ | ⟨y, a4, hM4, rfl, h2, h3⟩)
    ·have hfit2 := un_fit fitL 3 0 _ _ _ hM4
     have hm2 : 56320 ≤ m ∧ m ≤ 57343 := by
      unfold fitL at hfit2
      simp only [Bool.and_eq_true, decide_eq_true_eq] at hfit2
      exact hfit2
     have r1 := (hMv4.block A (aI (uh HS3)).1 (fun e => by have := Option.some.inj e; omega)).trans (uh HS3)
     have r2 := (hMv4.block (A + 1) (aI (uh HS4)).1 (fun e => by have := Option.some.inj e; omega)).trans (uh HS4)
     have k1 : w4.cell? ⟨A, 0, none⟩ = some (.int .i32 55296) := cR6 r1
     have k2 : w4.cell? ⟨A + 1, 0, none⟩ = some (.int .i32 56320) := cR6 r2
     obtain ⟨N, hN⟩ : ∃ N : Nat, N = n - 55296 := ⟨_, rfl⟩
     obtain ⟨M, hMe⟩ : ∃ M : Nat, M = m - 56320 := ⟨_, rfl⟩
     have q1 : (n : Int) - 55296 = (N : Int) := by omega
     have q2 : (m : Int) - 56320 = (M : Int) := by omega
     have q3 : N < 1024 := by omega
     have q4 : M < 1024 := by omega
     rw [hM4] at HRES
     simp only at HRES
     have HE : Hid (RES = .ok (65536 + N * 1024 + M) (T.drop a4)) := by show _ = _; rw [uh HRES, hN, hMe]
     have HP4 := hide hP4
     have HM4 : Hid (Mv w w4 P) := (uh HM3).trans hMv4
     clear HU3 hP4 hMv4 hM4 r1 r2 hN hMe HRES hfit2
     go_wp2_with fail
     go_ret
     refine Po.yes (uh HE) (uh HP4) (uh HM4) ⟨?_, ?_⟩
     ·exact int_eq (by first | omega | (simp [wrap32]; omega))
     ·exact ⟨by omega, by omega⟩
    ·exact ⟨rfl, Po.nay (by rw [uh HRES, hM4]) h2 ((uh HM3).trans h3)⟩
   ·exact ⟨rfl, Po.nay (by rw [uh HRES, hM3]) h2 ((uh HM2).trans h3)⟩
  ·have hv : (decide ((55296 : Int) ≤ (n : Int)) && decide ((n : Int) ≤ 56319)) = false := by
    rw [← Bool.decide_and]; exact decide_eq_false (by omega)
   rw [hv] at HH
   rw [if_neg hh] at HRES
   have hru : Rune n := by
    have := uh HFIT
    unfold fitH at this
    simp only [Bool.not_eq_true', Bool.and_eq_false_iff, decide_eq_false_iff_not] at this
    exact ⟨by omega, by omega⟩
   have HRU := hide hru
   clear hv hru
   go_wp2_with fail
   refine (uh HH).mono ?_
   rintro e w2 ⟨rfl, HB2⟩
   clear HH
   go_wp2_with fail
   go_ret
   exact Po.yes (uh HRES) ((uh HP1).below (uh HB2)) ((uh HM1).trans (Mv.ofB (uh HB2))) ⟨rfl, uh HRU⟩
 ·exact ⟨rfl, Po.nay (by rw [uh HRES, hM]) h2 ((uh HMW).trans h3)⟩
end Go.Proofs.YtmpjeahibfdehaaGreatDoor
end
section
set_option linter.unusedVariables false
set_option maxRecDepth 1000000
namespace Go.Proofs.YtmpjeahibfdehaaGreatDoor
open Go.RowKit Go.Lib

def fuC (s lo hi : Nat) (l : List UInt8) : Bool :=
 if s ≤ l.length then true else match l with
  | _ :: b :: r => if b.toNat < lo ∨ hi < b.toNat then true else (match r with | [] => false | c :: _ => decide (c.toNat < 128 ∨ 191 < c.toNat))
  | _ => false
/-- The kinds of first bytes: what the table says, how many bytes, between which the second one lies. -/
def Cls (X S I lo hi : Nat) : Prop := (X = 2 ∧ S = 2 ∧ I = 0 ∧ lo = 128 ∧ hi = 191) ∨ (X = 19 ∧ S = 3 ∧ I = 1 ∧ lo = 160 ∧ hi = 191) ∨ (X = 3 ∧ S = 3 ∧ I = 0 ∧ lo = 128 ∧ hi = 191) ∨ (X = 35 ∧ S = 3 ∧ I = 2 ∧ lo = 128 ∧ hi = 159) ∨ (X = 52 ∧ S = 4 ∧ I = 3 ∧ lo = 144 ∧ hi = 191) ∨ (X = 4 ∧ S = 4 ∧ I = 0 ∧ lo = 128 ∧ hi = 191) ∨ (X = 68 ∧ S = 4 ∧ I = 4 ∧ lo = 128 ∧ hi = 143)
theorem fu_cls (a : UInt8) (r : List UInt8) : (fuB (a :: r) = true ∧ (firstT a.toNat = 240 ∨ firstT a.toNat = 241)) ∨ ∃ S I lo hi, Cls (firstT a.toNat) S I lo hi ∧ fuB (a :: r) = fuC S lo hi (a :: r) := by
 obtain ⟨x, hx⟩ : ∃ x, a.toNat = x := ⟨_, rfl⟩
 have hx2 := a.toNat_lt
 rw [hx] at hx2 ⊢
 by_cases h1 : x < 128
 ·exact .inl ⟨by simp [fuB, hx]; omega, .inl (by simp [firstT, h1])⟩
 by_cases h2 : x < 194
 ·exact .inl ⟨by simp [fuB, hx]; omega, .inr (by simp [firstT, h1, h2])⟩
 by_cases h3 : x < 224
 ·refine .inr ⟨2, 0, 128, 191, .inl ⟨by simp [firstT, h1, h2, h3], rfl, rfl, rfl, rfl⟩, ?_⟩
  have e : ¬ (x < 194 ∨ 244 < x) := by omega
  cases r with
  | nil => simp [fuB, fuC, hx, e, h3]
  | cons b r => simp [fuB, fuC, hx, e, h3]
 have key : ∀ (s lo hi : Nat), (if x = 224 then 160 else if x = 240 then 144 else 128) = lo → (if x = 237 then 159 else if x = 244 then 143 else 191) = hi → (if x < 240 then 3 else 4) = s → x ≤ 244 → fuB (a :: r) = fuC s lo hi (a :: r) := by
  intro s lo hi q1 q2 q3 q4
  have e : ¬ (x < 194 ∨ 244 < x) := by omega
  unfold fuB fuC
  simp only [hx]
  rw [if_neg e, if_neg h3, q1, q2, q3]
  cases r with
  | nil => rfl
  | cons b r =>
   cases r with
   | nil => rfl
   | cons c r => rfl
 by_cases h4 : x = 224
 ·exact .inr ⟨3, 1, 160, 191, .inr (.inl ⟨by simp [firstT, h4], rfl, rfl, rfl, rfl⟩), key 3 160 191 (by simp [h4]) (by simp [h4]) (by simp [h4]) (by omega)⟩
 by_cases h5 : x = 237
 ·exact .inr ⟨3, 2, 128, 159, .inr (.inr (.inr (.inl ⟨by simp [firstT, h5], rfl, rfl, rfl, rfl⟩))), key 3 128 159 (by simp [h5]) (by simp [h5]) (by simp [h5]) (by omega)⟩
 by_cases h6 : x < 240
 ·refine .inr ⟨3, 0, 128, 191, .inr (.inr (.inl ⟨?_, rfl, rfl, rfl, rfl⟩)), key 3 128 191 (by simp [h4]; omega) (by simp [h5]; omega) (by simp [h6]) (by omega)⟩
  unfold firstT
  rw [if_neg h1, if_neg h2, if_neg h3, if_neg h4]
  by_cases h7 : x < 237
  ·rw [if_pos h7]
  ·rw [if_neg h7, if_neg h5, if_pos h6]
 by_cases h7 : x = 240
 ·exact .inr ⟨4, 3, 144, 191, .inr (.inr (.inr (.inr (.inl ⟨by simp [firstT, h7], rfl, rfl, rfl, rfl⟩)))), key 4 144 191 (by simp [h7]) (by simp [h7]) (by simp [h7]) (by omega)⟩
 by_cases h8 : x = 244
 ·exact .inr ⟨4, 4, 128, 143, .inr (.inr (.inr (.inr (.inr (.inr ⟨by simp [firstT, h8], rfl, rfl, rfl, rfl⟩))))), key 4 128 143 (by simp [h8]) (by simp [h8]) (by simp [h8]) (by omega)⟩
 by_cases h9 : x < 244
 ·refine .inr ⟨4, 0, 128, 191, .inr (.inr (.inr (.inr (.inr (.inl ⟨?_, rfl, rfl, rfl, rfl⟩))))), key 4 128 191 (by simp [h4, h7]) (by simp [h5, h8]) (by simp [h6]) (by omega)⟩
  unfold firstT
  rw [if_neg h1, if_neg h2, if_neg h3, if_neg h4, if_neg (by omega), if_neg h5, if_neg h6, if_neg h7, if_pos h9]
 ·refine .inl ⟨by simp [fuB, hx]; omega, .inr ?_⟩
  unfold firstT
  rw [if_neg h1, if_neg h2, if_neg h3, if_neg h4, if_neg (by omega), if_neg h5, if_neg h6, if_neg h7, if_neg h9, if_neg h8]
set_option maxHeartbeats 4000000 in
/-- As many bytes as there must be, or a byte with which none begins. -/
theorem full_long (a : UInt8) (r : List UInt8) (w : World) (X S : Nat) (hX : w.cell? ⟨2, a.toNat, none⟩ = some (.int .u8 (X : Int))) (hXS : (X = 240 ∧ S = 0) ∨ (X = 241 ∧ S = 1) ∨ (X = 2 ∧ S = 2) ∨ (X = 19 ∧ S = 3) ∨ (X = 3 ∧ S = 3) ∨ (X = 35 ∧ S = 3) ∨ (X = 52 ∧ S = 4) ∨ (X = 4 ∧ S = 4) ∨ (X = 68 ∧ S = 4)) (hS : S ≤ (a :: r).length) (hl : (a :: r).length ≤ 65536) :
  Calls Tryz.prog 168 #[.string (str (a :: r))] w fun e w' => e = .returned (.bool true) ∧ Hid (Below w.heap.size w w') := by
 have hsz : (str (a :: r)).size = r.length + 1 := rfl
 have hi0 : ∀ w, (Instr.index 9 (.string (str (a :: r))) (.int .i64 0)).run Tryz.prog w = .ok (.int .u8 (a.toNat : Int)) w := fun w => run_ix4 w (a :: r) 0 a rfl
 have ha := a.toNat_lt
 have hr : r.length ≤ 65535 := by simp at hl; omega
 have hbits : bits .and .u8 (X : Int) 7 = (S : Int) := by
  rcases hXS with ⟨rfl, rfl⟩ | ⟨rfl, rfl⟩ | ⟨rfl, rfl⟩ | ⟨rfl, rfl⟩ | ⟨rfl, rfl⟩ | ⟨rfl, rfl⟩ | ⟨rfl, rfl⟩ | ⟨rfl, rfl⟩ | ⟨rfl, rfl⟩ <;> decide
 have hS' : (S : Int) ≤ (r.length : Int) + 1 := by simp at hS; omega
 have hw : wrap64 (S : Int) = (S : Int) := by unfold wrap64; omega
 have HB := hide (Below.refl w.heap.size w)
 generalize str (a :: r) = s at *
 clear hXS hS hl
 go_enter Tryz.func168, Tryz.ntmps168
 go_wp2_with fail
 go_ret
 exact ⟨rfl, HB⟩
end Go.Proofs.YtmpjeahibfdehaaGreatDoor
end
section
set_option linter.unusedVariables false
set_option maxRecDepth 1000000
namespace Go.Proofs.YtmpjeahibfdehaaGreatDoor
open Go.RowKit Go.Lib

/-- What is told of a text that is too short: the tables at its first byte. -/
structure FuS (w : World) (a : UInt8) (X S I lo hi : Nat) : Prop where
 x : w.cell? ⟨2, a.toNat, none⟩ = some (.int .u8 (X : Int))
 cl : Cls X S I lo hi
 lo : w.cell? ⟨3, I * 2, none⟩ = some (.int .u8 (lo : Int))
 hi : w.cell? ⟨3, I * 2 + 1, none⟩ = some (.int .u8 (hi : Int))
theorem FuS.nums {w : World} {a : UInt8} {X S I lo hi : Nat} (h : FuS w a X S I lo hi) : bits .and .u8 (X : Int) 7 = (S : Int) ∧ (X : Int) / 16 = (I : Int) ∧ I < 5 ∧ X < 256 ∧ 128 ≤ lo ∧ hi ≤ 191 ∧ 2 ≤ S ∧ S ≤ 4 := by
 rcases h.cl with ⟨rfl, rfl, rfl, rfl, rfl⟩ | ⟨rfl, rfl, rfl, rfl, rfl⟩ | ⟨rfl, rfl, rfl, rfl, rfl⟩ | ⟨rfl, rfl, rfl, rfl, rfl⟩ | ⟨rfl, rfl, rfl, rfl, rfl⟩ | ⟨rfl, rfl, rfl, rfl, rfl⟩ | ⟨rfl, rfl, rfl, rfl, rfl⟩ <;> exact ⟨by decide, by decide, by decide, by decide, by decide, by decide, by decide, by decide⟩
theorem z1 {S : Nat} (h : 2 ≤ S) : ¬ (S : Int) ≤ 1 := by omega
theorem z2 {S : Nat} (h : 2 < S) : ¬ (S : Int) ≤ 2 := by omega
theorem z3 {S : Nat} (h : 3 < S) : ¬ (S : Int) ≤ 3 := by omega
theorem zlt {a b : Nat} (h : a < b) : (a : Int) < (b : Int) := by omega
theorem znl {a b : Nat} (h : b ≤ a) : ¬ (a : Int) < (b : Int) := by omega
theorem z128 {a : Nat} (h : 128 ≤ a) : ¬ (a : Int) < 128 := by omega
theorem y128 {a : Nat} (h : a < 128) : (a : Int) < 128 := by omega
theorem z191 {a : Nat} (h : a ≤ 191) : ¬ (191 : Int) < (a : Int) := by omega
theorem y191 {a : Nat} (h : 191 < a) : (191 : Int) < (a : Int) := by omega
theorem zw {S : Nat} (h : S ≤ 4) : wrap64 (S : Int) = (S : Int) := by unfold wrap64; omega
set_option maxHeartbeats 4000000 in
theorem full_one (a : UInt8) (w : World) (X S I lo hi : Nat) (h : FuS w a X S I lo hi) :
  Calls Tryz.prog 168 #[.string (str [a])] w fun e w' => e = .returned (.bool false) ∧ Hid (Below w.heap.size w w') := by
 have hsz : (str [a]).size = 1 := rfl
 have hi0 : ∀ w, (Instr.index 9 (.string (str [a])) (.int .i64 0)).run Tryz.prog w = .ok (.int .u8 (a.toNat : Int)) w := fun w => run_ix4 w [a] 0 a rfl
 have hv0 := a.toNat_lt
 have hX := h.x
 obtain ⟨n1, n2, n3, n4, n5, n6, n7, n8⟩ := h.nums
 have hL := h.lo
 have hH := h.hi
 have hw : wrap64 (S : Int) = (S : Int) := zw n8
 have hS' : ¬ (S : Int) ≤ 1 := z1 n7
 obtain ⟨W, hW⟩ : ∃ W, W = w.alloc (.cells #[.int .u8 (lo : Int), .int .u8 (hi : Int)] 213) := ⟨_, rfl⟩
 have HB : Hid (Below w.heap.size w W) := by rw [hW]; exact (Below.refl w.heap.size w).alloc (Nat.le_refl _) _
 obtain ⟨A, hA⟩ : ∃ A, A = w.heap.size := ⟨_, rfl⟩
 have hr1 : W.heap[A]? = some (.cells #[.int .u8 (lo : Int), .int .u8 (hi : Int)] 213 (0, 0)) := by rw [hW, hA]; exact heap_alloc_new _ _
 have d1 : W.cell? ⟨A, 0, none⟩ = some (.int .u8 (lo : Int)) := cR6 hr1
 have d2 : W.cell? ⟨A, 1, none⟩ = some (.int .u8 (hi : Int)) := cR6 hr1
 generalize str [a] = s at *
 clear h hr1
 go_enter Tryz.func168, Tryz.ntmps168
 go_upto_region 8 with fail
 rw [← hW, ← hA]
 clear hW hA
 go_quiet (fail)
 go_wp2_with fail
 go_ret
 exact ⟨rfl, bdj (uh HB) nq⟩
set_option maxHeartbeats 4000000 in
theorem full_2lo (a b : UInt8) (w : World) (X S I lo hi : Nat) (h : FuS w a X S I lo hi) (hS : 2 < S) (hb : b.toNat < lo) :
  Calls Tryz.prog 168 #[.string (str [a, b])] w fun e w' => e = .returned (.bool true) ∧ Hid (Below w.heap.size w w') := by
 have hsz : (str [a, b]).size = 2 := rfl
 have hi0 : ∀ w, (Instr.index 9 (.string (str [a, b])) (.int .i64 0)).run Tryz.prog w = .ok (.int .u8 (a.toNat : Int)) w := fun w => run_ix4 w [a, b] 0 a rfl
 have hv0 := a.toNat_lt
 have hi1 : ∀ w, (Instr.index 9 (.string (str [a, b])) (.int .i64 1)).run Tryz.prog w = .ok (.int .u8 (b.toNat : Int)) w := fun w => run_ix4 w [a, b] 1 b rfl
 have hv1 := b.toNat_lt
 have hX := h.x
 obtain ⟨n1, n2, n3, n4, n5, n6, n7, n8⟩ := h.nums
 have hL := h.lo
 have hH := h.hi
 have hw : wrap64 (S : Int) = (S : Int) := zw n8
 have hS' : ¬ (S : Int) ≤ 2 := z2 hS
 have g1 : (b.toNat : Int) < (lo : Int) := zlt hb
 obtain ⟨W, hW⟩ : ∃ W, W = w.alloc (.cells #[.int .u8 (lo : Int), .int .u8 (hi : Int)] 213) := ⟨_, rfl⟩
 have HB : Hid (Below w.heap.size w W) := by rw [hW]; exact (Below.refl w.heap.size w).alloc (Nat.le_refl _) _
 obtain ⟨A, hA⟩ : ∃ A, A = w.heap.size := ⟨_, rfl⟩
 have hr1 : W.heap[A]? = some (.cells #[.int .u8 (lo : Int), .int .u8 (hi : Int)] 213 (0, 0)) := by rw [hW, hA]; exact heap_alloc_new _ _
 have d1 : W.cell? ⟨A, 0, none⟩ = some (.int .u8 (lo : Int)) := cR6 hr1
 have d2 : W.cell? ⟨A, 1, none⟩ = some (.int .u8 (hi : Int)) := cR6 hr1
 generalize str [a, b] = s at *
 clear h hr1
 go_enter Tryz.func168, Tryz.ntmps168
 go_upto_region 8 with fail
 rw [← hW, ← hA]
 clear hW hA
 go_quiet (fail)
 go_wp2_with fail
 go_ret
 exact ⟨rfl, bdj (uh HB) nq⟩
set_option maxHeartbeats 4000000 in
theorem full_2hi (a b : UInt8) (w : World) (X S I lo hi : Nat) (h : FuS w a X S I lo hi) (hS : 2 < S) (hb : lo ≤ b.toNat) (hc : hi < b.toNat) :
  Calls Tryz.prog 168 #[.string (str [a, b])] w fun e w' => e = .returned (.bool true) ∧ Hid (Below w.heap.size w w') := by
 have hsz : (str [a, b]).size = 2 := rfl
 have hi0 : ∀ w, (Instr.index 9 (.string (str [a, b])) (.int .i64 0)).run Tryz.prog w = .ok (.int .u8 (a.toNat : Int)) w := fun w => run_ix4 w [a, b] 0 a rfl
 have hv0 := a.toNat_lt
 have hi1 : ∀ w, (Instr.index 9 (.string (str [a, b])) (.int .i64 1)).run Tryz.prog w = .ok (.int .u8 (b.toNat : Int)) w := fun w => run_ix4 w [a, b] 1 b rfl
 have hv1 := b.toNat_lt
 have hX := h.x
 obtain ⟨n1, n2, n3, n4, n5, n6, n7, n8⟩ := h.nums
 have hL := h.lo
 have hH := h.hi
 have hw : wrap64 (S : Int) = (S : Int) := zw n8
 have hS' : ¬ (S : Int) ≤ 2 := z2 hS
 have g1 : ¬ (b.toNat : Int) < (lo : Int) := znl hb
 have g2 : (hi : Int) < (b.toNat : Int) := zlt hc
 obtain ⟨W, hW⟩ : ∃ W, W = w.alloc (.cells #[.int .u8 (lo : Int), .int .u8 (hi : Int)] 213) := ⟨_, rfl⟩
 have HB : Hid (Below w.heap.size w W) := by rw [hW]; exact (Below.refl w.heap.size w).alloc (Nat.le_refl _) _
 obtain ⟨A, hA⟩ : ∃ A, A = w.heap.size := ⟨_, rfl⟩
 have hr1 : W.heap[A]? = some (.cells #[.int .u8 (lo : Int), .int .u8 (hi : Int)] 213 (0, 0)) := by rw [hW, hA]; exact heap_alloc_new _ _
 have d1 : W.cell? ⟨A, 0, none⟩ = some (.int .u8 (lo : Int)) := cR6 hr1
 have d2 : W.cell? ⟨A, 1, none⟩ = some (.int .u8 (hi : Int)) := cR6 hr1
 generalize str [a, b] = s at *
 clear h hr1
 go_enter Tryz.func168, Tryz.ntmps168
 go_upto_region 8 with fail
 rw [← hW, ← hA]
 clear hW hA
 go_quiet (fail)
 go_wp2_with fail
 go_ret
 exact ⟨rfl, bdj (uh HB) nq⟩
set_option maxHeartbeats 4000000 in
theorem full_2in (a b : UInt8) (w : World) (X S I lo hi : Nat) (h : FuS w a X S I lo hi) (hS : 2 < S) (hb : lo ≤ b.toNat) (hc : b.toNat ≤ hi) :
  Calls Tryz.prog 168 #[.string (str [a, b])] w fun e w' => e = .returned (.bool false) ∧ Hid (Below w.heap.size w w') := by
 have hsz : (str [a, b]).size = 2 := rfl
 have hi0 : ∀ w, (Instr.index 9 (.string (str [a, b])) (.int .i64 0)).run Tryz.prog w = .ok (.int .u8 (a.toNat : Int)) w := fun w => run_ix4 w [a, b] 0 a rfl
 have hv0 := a.toNat_lt
 have hi1 : ∀ w, (Instr.index 9 (.string (str [a, b])) (.int .i64 1)).run Tryz.prog w = .ok (.int .u8 (b.toNat : Int)) w := fun w => run_ix4 w [a, b] 1 b rfl
 have hv1 := b.toNat_lt
 have hX := h.x
 obtain ⟨n1, n2, n3, n4, n5, n6, n7, n8⟩ := h.nums
 have hL := h.lo
 have hH := h.hi
 have hw : wrap64 (S : Int) = (S : Int) := zw n8
 have hS' : ¬ (S : Int) ≤ 2 := z2 hS
 have g1 : ¬ (b.toNat : Int) < (lo : Int) := znl hb
 have g2 : ¬ (hi : Int) < (b.toNat : Int) := znl hc
 obtain ⟨W, hW⟩ : ∃ W, W = w.alloc (.cells #[.int .u8 (lo : Int), .int .u8 (hi : Int)] 213) := ⟨_, rfl⟩
 have HB : Hid (Below w.heap.size w W) := by rw [hW]; exact (Below.refl w.heap.size w).alloc (Nat.le_refl _) _
 obtain ⟨A, hA⟩ : ∃ A, A = w.heap.size := ⟨_, rfl⟩
 have hr1 : W.heap[A]? = some (.cells #[.int .u8 (lo : Int), .int .u8 (hi : Int)] 213 (0, 0)) := by rw [hW, hA]; exact heap_alloc_new _ _
 have d1 : W.cell? ⟨A, 0, none⟩ = some (.int .u8 (lo : Int)) := cR6 hr1
 have d2 : W.cell? ⟨A, 1, none⟩ = some (.int .u8 (hi : Int)) := cR6 hr1
 generalize str [a, b] = s at *
 clear h hr1
 go_enter Tryz.func168, Tryz.ntmps168
 go_upto_region 8 with fail
 rw [← hW, ← hA]
 clear hW hA
 go_quiet (fail)
 go_wp2_with fail
 go_ret
 exact ⟨rfl, bdj (uh HB) nq⟩
set_option maxHeartbeats 4000000 in
theorem full_3lo (a b c : UInt8) (w : World) (X S I lo hi : Nat) (h : FuS w a X S I lo hi) (hS : 3 < S) (hb : b.toNat < lo) :
  Calls Tryz.prog 168 #[.string (str [a, b, c])] w fun e w' => e = .returned (.bool true) ∧ Hid (Below w.heap.size w w') := by
 have hsz : (str [a, b, c]).size = 3 := rfl
 have hi0 : ∀ w, (Instr.index 9 (.string (str [a, b, c])) (.int .i64 0)).run Tryz.prog w = .ok (.int .u8 (a.toNat : Int)) w := fun w => run_ix4 w [a, b, c] 0 a rfl
 have hv0 := a.toNat_lt
 have hi1 : ∀ w, (Instr.index 9 (.string (str [a, b, c])) (.int .i64 1)).run Tryz.prog w = .ok (.int .u8 (b.toNat : Int)) w := fun w => run_ix4 w [a, b, c] 1 b rfl
 have hv1 := b.toNat_lt
 have hi2 : ∀ w, (Instr.index 9 (.string (str [a, b, c])) (.int .i64 2)).run Tryz.prog w = .ok (.int .u8 (c.toNat : Int)) w := fun w => run_ix4 w [a, b, c] 2 c rfl
 have hv2 := c.toNat_lt
 have hX := h.x
 obtain ⟨n1, n2, n3, n4, n5, n6, n7, n8⟩ := h.nums
 have hL := h.lo
 have hH := h.hi
 have hw : wrap64 (S : Int) = (S : Int) := zw n8
 have hS' : ¬ (S : Int) ≤ 3 := z3 hS
 have g1 : (b.toNat : Int) < (lo : Int) := zlt hb
 obtain ⟨W, hW⟩ : ∃ W, W = w.alloc (.cells #[.int .u8 (lo : Int), .int .u8 (hi : Int)] 213) := ⟨_, rfl⟩
 have HB : Hid (Below w.heap.size w W) := by rw [hW]; exact (Below.refl w.heap.size w).alloc (Nat.le_refl _) _
 obtain ⟨A, hA⟩ : ∃ A, A = w.heap.size := ⟨_, rfl⟩
 have hr1 : W.heap[A]? = some (.cells #[.int .u8 (lo : Int), .int .u8 (hi : Int)] 213 (0, 0)) := by rw [hW, hA]; exact heap_alloc_new _ _
 have d1 : W.cell? ⟨A, 0, none⟩ = some (.int .u8 (lo : Int)) := cR6 hr1
 have d2 : W.cell? ⟨A, 1, none⟩ = some (.int .u8 (hi : Int)) := cR6 hr1
 generalize str [a, b, c] = s at *
 clear h hr1
 go_enter Tryz.func168, Tryz.ntmps168
 go_upto_region 8 with fail
 rw [← hW, ← hA]
 clear hW hA
 go_quiet (fail)
 go_wp2_with fail
 go_ret
 exact ⟨rfl, bdj (uh HB) nq⟩
set_option maxHeartbeats 4000000 in
theorem full_3hi (a b c : UInt8) (w : World) (X S I lo hi : Nat) (h : FuS w a X S I lo hi) (hS : 3 < S) (hb : lo ≤ b.toNat) (hc : hi < b.toNat) :
  Calls Tryz.prog 168 #[.string (str [a, b, c])] w fun e w' => e = .returned (.bool true) ∧ Hid (Below w.heap.size w w') := by
 have hsz : (str [a, b, c]).size = 3 := rfl
 have hi0 : ∀ w, (Instr.index 9 (.string (str [a, b, c])) (.int .i64 0)).run Tryz.prog w = .ok (.int .u8 (a.toNat : Int)) w := fun w => run_ix4 w [a, b, c] 0 a rfl
 have hv0 := a.toNat_lt
 have hi1 : ∀ w, (Instr.index 9 (.string (str [a, b, c])) (.int .i64 1)).run Tryz.prog w = .ok (.int .u8 (b.toNat : Int)) w := fun w => run_ix4 w [a, b, c] 1 b rfl
 have hv1 := b.toNat_lt
 have hi2 : ∀ w, (Instr.index 9 (.string (str [a, b, c])) (.int .i64 2)).run Tryz.prog w = .ok (.int .u8 (c.toNat : Int)) w := fun w => run_ix4 w [a, b, c] 2 c rfl
 have hv2 := c.toNat_lt
 have hX := h.x
 obtain ⟨n1, n2, n3, n4, n5, n6, n7, n8⟩ := h.nums
 have hL := h.lo
 have hH := h.hi
 have hw : wrap64 (S : Int) = (S : Int) := zw n8
 have hS' : ¬ (S : Int) ≤ 3 := z3 hS
 have g1 : ¬ (b.toNat : Int) < (lo : Int) := znl hb
 have g2 : (hi : Int) < (b.toNat : Int) := zlt hc
 obtain ⟨W, hW⟩ : ∃ W, W = w.alloc (.cells #[.int .u8 (lo : Int), .int .u8 (hi : Int)] 213) := ⟨_, rfl⟩
 have HB : Hid (Below w.heap.size w W) := by rw [hW]; exact (Below.refl w.heap.size w).alloc (Nat.le_refl _) _
 obtain ⟨A, hA⟩ : ∃ A, A = w.heap.size := ⟨_, rfl⟩
 have hr1 : W.heap[A]? = some (.cells #[.int .u8 (lo : Int), .int .u8 (hi : Int)] 213 (0, 0)) := by rw [hW, hA]; exact heap_alloc_new _ _
 have d1 : W.cell? ⟨A, 0, none⟩ = some (.int .u8 (lo : Int)) := cR6 hr1
 have d2 : W.cell? ⟨A, 1, none⟩ = some (.int .u8 (hi : Int)) := cR6 hr1
 generalize str [a, b, c] = s at *
 clear h hr1
 go_enter Tryz.func168, Tryz.ntmps168
 go_upto_region 8 with fail
 rw [← hW, ← hA]
 clear hW hA
 go_quiet (fail)
 go_wp2_with fail
 go_ret
 exact ⟨rfl, bdj (uh HB) nq⟩
set_option maxHeartbeats 4000000 in
theorem full_3a (a b c : UInt8) (w : World) (X S I lo hi : Nat) (h : FuS w a X S I lo hi) (hS : 3 < S) (hb : lo ≤ b.toNat) (hc : b.toNat ≤ hi) (hd : c.toNat < 128) :
  Calls Tryz.prog 168 #[.string (str [a, b, c])] w fun e w' => e = .returned (.bool true) ∧ Hid (Below w.heap.size w w') := by
 have hsz : (str [a, b, c]).size = 3 := rfl
 have hi0 : ∀ w, (Instr.index 9 (.string (str [a, b, c])) (.int .i64 0)).run Tryz.prog w = .ok (.int .u8 (a.toNat : Int)) w := fun w => run_ix4 w [a, b, c] 0 a rfl
 have hv0 := a.toNat_lt
 have hi1 : ∀ w, (Instr.index 9 (.string (str [a, b, c])) (.int .i64 1)).run Tryz.prog w = .ok (.int .u8 (b.toNat : Int)) w := fun w => run_ix4 w [a, b, c] 1 b rfl
 have hv1 := b.toNat_lt
 have hi2 : ∀ w, (Instr.index 9 (.string (str [a, b, c])) (.int .i64 2)).run Tryz.prog w = .ok (.int .u8 (c.toNat : Int)) w := fun w => run_ix4 w [a, b, c] 2 c rfl
 have hv2 := c.toNat_lt
 have hX := h.x
 obtain ⟨n1, n2, n3, n4, n5, n6, n7, n8⟩ := h.nums
 have hL := h.lo
 have hH := h.hi
 have hw : wrap64 (S : Int) = (S : Int) := zw n8
 have hS' : ¬ (S : Int) ≤ 3 := z3 hS
 have g1 : ¬ (b.toNat : Int) < (lo : Int) := znl hb
 have g2 : ¬ (hi : Int) < (b.toNat : Int) := znl hc
 have g3 : (c.toNat : Int) < 128 := y128 hd
 obtain ⟨W, hW⟩ : ∃ W, W = w.alloc (.cells #[.int .u8 (lo : Int), .int .u8 (hi : Int)] 213) := ⟨_, rfl⟩
 have HB : Hid (Below w.heap.size w W) := by rw [hW]; exact (Below.refl w.heap.size w).alloc (Nat.le_refl _) _
 obtain ⟨A, hA⟩ : ∃ A, A = w.heap.size := ⟨_, rfl⟩
 have hr1 : W.heap[A]? = some (.cells #[.int .u8 (lo : Int), .int .u8 (hi : Int)] 213 (0, 0)) := by rw [hW, hA]; exact heap_alloc_new _ _
 have d1 : W.cell? ⟨A, 0, none⟩ = some (.int .u8 (lo : Int)) := cR6 hr1
 have d2 : W.cell? ⟨A, 1, none⟩ = some (.int .u8 (hi : Int)) := cR6 hr1
 generalize str [a, b, c] = s at *
 clear h hr1
 go_enter Tryz.func168, Tryz.ntmps168
 go_upto_region 8 with fail
 rw [← hW, ← hA]
 clear hW hA
 go_quiet (fail)
 go_wp2_with fail
 go_ret
 exact ⟨rfl, bdj (uh HB) nq⟩
set_option maxHeartbeats 4000000 in
theorem full_3b (a b c : UInt8) (w : World) (X S I lo hi : Nat) (h : FuS w a X S I lo hi) (hS : 3 < S) (hb : lo ≤ b.toNat) (hc : b.toNat ≤ hi) (hd : 191 < c.toNat) :
  Calls Tryz.prog 168 #[.string (str [a, b, c])] w fun e w' => e = .returned (.bool true) ∧ Hid (Below w.heap.size w w') := by
 have hsz : (str [a, b, c]).size = 3 := rfl
 have hi0 : ∀ w, (Instr.index 9 (.string (str [a, b, c])) (.int .i64 0)).run Tryz.prog w = .ok (.int .u8 (a.toNat : Int)) w := fun w => run_ix4 w [a, b, c] 0 a rfl
 have hv0 := a.toNat_lt
 have hi1 : ∀ w, (Instr.index 9 (.string (str [a, b, c])) (.int .i64 1)).run Tryz.prog w = .ok (.int .u8 (b.toNat : Int)) w := fun w => run_ix4 w [a, b, c] 1 b rfl
 have hv1 := b.toNat_lt
 have hi2 : ∀ w, (Instr.index 9 (.string (str [a, b, c])) (.int .i64 2)).run Tryz.prog w = .ok (.int .u8 (c.toNat : Int)) w := fun w => run_ix4 w [a, b, c] 2 c rfl
 have hv2 := c.toNat_lt
 have hX := h.x
 obtain ⟨n1, n2, n3, n4, n5, n6, n7, n8⟩ := h.nums
 have hL := h.lo
 have hH := h.hi
 have hw : wrap64 (S : Int) = (S : Int) := zw n8
 have hS' : ¬ (S : Int) ≤ 3 := z3 hS
 have g1 : ¬ (b.toNat : Int) < (lo : Int) := znl hb
 have g2 : ¬ (hi : Int) < (b.toNat : Int) := znl hc
 have g3 : ¬ (c.toNat : Int) < 128 := z128 (Nat.le_trans (by decide) (Nat.le_of_lt hd))
 have g4 : (191 : Int) < (c.toNat : Int) := y191 hd
 obtain ⟨W, hW⟩ : ∃ W, W = w.alloc (.cells #[.int .u8 (lo : Int), .int .u8 (hi : Int)] 213) := ⟨_, rfl⟩
 have HB : Hid (Below w.heap.size w W) := by rw [hW]; exact (Below.refl w.heap.size w).alloc (Nat.le_refl _) _
 obtain ⟨A, hA⟩ : ∃ A, A = w.heap.size := ⟨_, rfl⟩
 have hr1 : W.heap[A]? = some (.cells #[.int .u8 (lo : Int), .int .u8 (hi : Int)] 213 (0, 0)) := by rw [hW, hA]; exact heap_alloc_new _ _
 have d1 : W.cell? ⟨A, 0, none⟩ = some (.int .u8 (lo : Int)) := cR6 hr1
 have d2 : W.cell? ⟨A, 1, none⟩ = some (.int .u8 (hi : Int)) := cR6 hr1
 generalize str [a, b, c] = s at *
 clear h hr1
 go_enter Tryz.func168, Tryz.ntmps168
 go_upto_region 8 with fail
 rw [← hW, ← hA]
 clear hW hA
 go_quiet (fail)
 go_wp2_with fail
 go_ret
 exact ⟨rfl, bdj (uh HB) nq⟩
set_option maxHeartbeats 4000000 in
theorem full_3c (a b c : UInt8) (w : World) (X S I lo hi : Nat) (h : FuS w a X S I lo hi) (hS : 3 < S) (hb : lo ≤ b.toNat) (hc : b.toNat ≤ hi) (hd : 128 ≤ c.toNat) (he : c.toNat ≤ 191) :
  Calls Tryz.prog 168 #[.string (str [a, b, c])] w fun e w' => e = .returned (.bool false) ∧ Hid (Below w.heap.size w w') := by
 have hsz : (str [a, b, c]).size = 3 := rfl
 have hi0 : ∀ w, (Instr.index 9 (.string (str [a, b, c])) (.int .i64 0)).run Tryz.prog w = .ok (.int .u8 (a.toNat : Int)) w := fun w => run_ix4 w [a, b, c] 0 a rfl
 have hv0 := a.toNat_lt
 have hi1 : ∀ w, (Instr.index 9 (.string (str [a, b, c])) (.int .i64 1)).run Tryz.prog w = .ok (.int .u8 (b.toNat : Int)) w := fun w => run_ix4 w [a, b, c] 1 b rfl
 have hv1 := b.toNat_lt
 have hi2 : ∀ w, (Instr.index 9 (.string (str [a, b, c])) (.int .i64 2)).run Tryz.prog w = .ok (.int .u8 (c.toNat : Int)) w := fun w => run_ix4 w [a, b, c] 2 c rfl
 have hv2 := c.toNat_lt
 have hX := h.x
 obtain ⟨n1, n2, n3, n4, n5, n6, n7, n8⟩ := h.nums
 have hL := h.lo
 have hH := h.hi
 have hw : wrap64 (S : Int) = (S : Int) := zw n8
 have hS' : ¬ (S : Int) ≤ 3 := z3 hS
 have g1 : ¬ (b.toNat : Int) < (lo : Int) := znl hb
 have g2 : ¬ (hi : Int) < (b.toNat : Int) := znl hc
 have g3 : ¬ (c.toNat : Int) < 128 := z128 hd
 have g4 : ¬ (191 : Int) < (c.toNat : Int) := z191 he
 obtain ⟨W, hW⟩ : ∃ W, W = w.alloc (.cells #[.int .u8 (lo : Int), .int .u8 (hi : Int)] 213) := ⟨_, rfl⟩
 have HB : Hid (Below w.heap.size w W) := by rw [hW]; exact (Below.refl w.heap.size w).alloc (Nat.le_refl _) _
 obtain ⟨A, hA⟩ : ∃ A, A = w.heap.size := ⟨_, rfl⟩
 have hr1 : W.heap[A]? = some (.cells #[.int .u8 (lo : Int), .int .u8 (hi : Int)] 213 (0, 0)) := by rw [hW, hA]; exact heap_alloc_new _ _
 have d1 : W.cell? ⟨A, 0, none⟩ = some (.int .u8 (lo : Int)) := cR6 hr1
 have d2 : W.cell? ⟨A, 1, none⟩ = some (.int .u8 (hi : Int)) := cR6 hr1
 generalize str [a, b, c] = s at *
 clear h hr1
 go_enter Tryz.func168, Tryz.ntmps168
 go_upto_region 8 with fail
 rw [← hW, ← hA]
 clear hW hA
 go_quiet (fail)
 go_wp2_with fail
 go_ret
 exact ⟨rfl, bdj (uh HB) nq⟩
theorem full4 (l : List UInt8) (w : World) (hT : Tb4 w) (hne : l ≠ []) (hl : l.length ≤ 65536) :
  Calls Tryz.prog 168 #[.string (str l)] w fun e w' => e = .returned (.bool (fuB l)) ∧ Hid (Below w.heap.size w w') := by
 match l, hne with
 | a :: r, _ =>
  have hX := hT.1 a.toNat a.toNat_lt
  rcases fu_cls a r with ⟨hf, hx⟩ | ⟨S, I, lo, hi, hc, hf⟩
  ·rw [hf]
   rcases hx with hx | hx
   ·rw [hx] at hX; exact full_long a r w 240 0 hX (.inl ⟨rfl, rfl⟩) (Nat.zero_le _) hl
   ·rw [hx] at hX; exact full_long a r w 241 1 hX (.inr (.inl ⟨rfl, rfl⟩)) (by simp) hl
  ·rw [hf]
   obtain ⟨X, hXe⟩ : ∃ X, firstT a.toNat = X := ⟨_, rfl⟩
   rw [hXe] at hX hc
   have hI : I < 5 ∧ accLo I = lo ∧ accHi I = hi := by
    rcases hc with ⟨_, _, rfl, rfl, rfl⟩ | ⟨_, _, rfl, rfl, rfl⟩ | ⟨_, _, rfl, rfl, rfl⟩ | ⟨_, _, rfl, rfl, rfl⟩ | ⟨_, _, rfl, rfl, rfl⟩ | ⟨_, _, rfl, rfl, rfl⟩ | ⟨_, _, rfl, rfl, rfl⟩ <;> exact ⟨by decide, by decide, by decide⟩
   have hacc := hT.2 I (by omega)
   rw [hI.2.1, hI.2.2, Nat.mul_comm] at hacc
   have hF : FuS w a X S I lo hi := ⟨hX, hc, hacc.1, hacc.2⟩
   obtain ⟨_, _, _, _, _, _, hS2, hS4⟩ := hF.nums
   by_cases hlong : S ≤ (a :: r).length
   ·have e : fuC S lo hi (a :: r) = true := by unfold fuC; rw [if_pos hlong]
    rw [e]
    refine full_long a r w X S hX ?_ hlong hl
    rcases hc with ⟨rfl, rfl, _⟩ | ⟨rfl, rfl, _⟩ | ⟨rfl, rfl, _⟩ | ⟨rfl, rfl, _⟩ | ⟨rfl, rfl, _⟩ | ⟨rfl, rfl, _⟩ | ⟨rfl, rfl, _⟩ <;> simp
   ·have e : fuC S lo hi (a :: r) = match a :: r with | _ :: b :: r => (if b.toNat < lo ∨ hi < b.toNat then true else (match r with | [] => false | c :: _ => decide (c.toNat < 128 ∨ 191 < c.toNat))) | _ => false := by unfold fuC; rw [if_neg hlong] <;> rfl
    rw [e]
    match r, hlong, hl with
    | [], _, _ => exact full_one a w X S I lo hi hF
    | [b], hlong, _ =>
     have hS : 2 < S := by simp at hlong; omega
     by_cases h1 : b.toNat < lo
     ·simp only [h1, true_or, if_true]; exact full_2lo a b w X S I lo hi hF hS h1
     by_cases h2 : hi < b.toNat
     ·simp only [h2, or_true, if_true]; exact full_2hi a b w X S I lo hi hF hS (by omega) h2
     ·simp only [h1, h2, or_self, if_false]; exact full_2in a b w X S I lo hi hF hS (by omega) (by omega)
    | [b, c], hlong, _ =>
     have hS : 3 < S := by simp at hlong; omega
     by_cases h1 : b.toNat < lo
     ·simp only [h1, true_or, if_true]; exact full_3lo a b c w X S I lo hi hF hS h1
     by_cases h2 : hi < b.toNat
     ·simp only [h2, or_true, if_true]; exact full_3hi a b c w X S I lo hi hF hS (by omega) h2
     ·simp only [h1, h2, or_self, if_false]
      by_cases h3 : c.toNat < 128
      ·rw [decide_eq_true (Or.inl h3)]; exact full_3a a b c w X S I lo hi hF hS (by omega) (by omega) h3
      by_cases h4 : 191 < c.toNat
      ·rw [decide_eq_true (Or.inr h4)]; exact full_3b a b c w X S I lo hi hF hS (by omega) (by omega) h4
      ·rw [decide_eq_false (by omega)]; exact full_3c a b c w X S I lo hi hF hS (by omega) (by omega) (by omega) (by omega)
    | b :: c :: e :: r, hlong, _ => simp at hlong; omega
end Go.Proofs.YtmpjeahibfdehaaGreatDoor
end
