/-
  link's nets and connections in memory; the walks of what is asked of them.
-/
import Derived.Test.YtohlmfiicfoimaaSlc
import Derived.Test.YtohlmfiicfoimaaByt
import Derived.WalkSpells
import Derived.WalkLawsBesides
import Derived.Deep.QuietTactic
import Derived.BigQuiet
import Derived.BigRegion
import Derived.Maps.OwnSet
import Derived.Maps.OwnOps
set_option linter.unusedVariables false
namespace Go.Proofs.Ytohlmfiicfoimaa
open Go.RowKit Go.Maps

/-- A connection in block C: the two ends' machines, whether they are closed, what is on the way to them. -/
def ConC (w : World) (C : Nat) (a b : Int) (c0 c1 : Bool) (x0 : Option Addr) (n0 k0 : Nat) (x1 : Option Addr) (n1 k1 : Nat) : Prop :=
  w.heap[C]? = some (.cells #[.int .i64 a, .bool c0, .slice x0 n0 k0, .int .i64 b, .bool c1, .slice x1 n1 k1] 83 (0, 0))

theorem ConC.cell {w : World} {C : Nat} {a b : Int} {c0 c1 : Bool} {x0 : Option Addr} {n0 k0 : Nat} {x1 : Option Addr} {n1 k1 : Nat} (h : ConC w C a b c0 c1 x0 n0 k0 x1 n1 k1) (i : Nat) :
    w.cell? ⟨C, i, none⟩ = #[.int .i64 a, .bool c0, .slice x0 n0 k0, .int .i64 b, .bool c1, .slice x1 n1 k1][i]? := cell_of_row w C i _ _ _ h
theorem ConC.fr {w : World} {C : Nat} {a b : Int} {c0 c1 : Bool} {x0 : Option Addr} {n0 k0 : Nat} {x1 : Option Addr} {n1 k1 : Nat} (h : ConC w C a b c0 c1 x0 n0 k0 x1 n1 k1) (i : Nat) : w.frozen? ⟨C, i, none⟩ = false := frozen_of_row w C i _ _ h
theorem ConC.below {w w' : World} {B C : Nat} {a b : Int} {c0 c1 : Bool} {x0 : Option Addr} {n0 k0 : Nat} {x1 : Option Addr} {n1 k1 : Nat} (h : ConC w C a b c0 c1 x0 n0 k0 x1 n1 k1) (hb : Below B w w') (hB : w.heap.size ≤ B) : ConC w' C a b c0 c1 x0 n0 k0 x1 n1 k1 := by
  unfold ConC at *
  rw [hb.block C (by have := (Array.getElem?_eq_some_iff.1 h).1; omega)]
  exact h
theorem ConC.lt {w : World} {C : Nat} {a b : Int} {c0 c1 : Bool} {x0 : Option Addr} {n0 k0 : Nat} {x1 : Option Addr} {n1 k1 : Nat} (h : ConC w C a b c0 c1 x0 n0 k0 x1 n1 k1) : C < w.heap.size := (Array.getElem?_eq_some_iff.1 h).1

theorem isnode_any (n : Int) (w : World) (h : 0 ≤ n) (h2 : n < 16) : Calls Try.prog 48 #[.int .i64 n] w fun e w' => e = .returned (.bool true) ∧ w' = w := by
  go_enter Try.func48, Try.ntmps48
  go_wp2
  go_ret
  exact ⟨rfl, rfl⟩

/-- The cells of a connection, in the world and behind whatever is laid. -/
theorem ConC.cells {w : World} {C : Nat} {a b : Int} {c0 c1 : Bool} {x0 : Option Addr} {n0 k0 : Nat} {x1 : Option Addr} {n1 k1 : Nat} (h : ConC w C a b c0 c1 x0 n0 k0 x1 n1 k1) :
    w.cell? ⟨C, 0, none⟩ = some (.int .i64 a) ∧ w.cell? ⟨C, 1, none⟩ = some (.bool c0) ∧ w.cell? ⟨C, 2, none⟩ = some (.slice x0 n0 k0) ∧ w.cell? ⟨C, 3, none⟩ = some (.int .i64 b) ∧ w.cell? ⟨C, 4, none⟩ = some (.bool c1) ∧ w.cell? ⟨C, 5, none⟩ = some (.slice x1 n1 k1) :=
  ⟨(h.cell 0).trans (by simp), (h.cell 1).trans (by simp), (h.cell 2).trans (by simp), (h.cell 3).trans (by simp), (h.cell 4).trans (by simp), (h.cell 5).trans (by simp)⟩
theorem ConC.alloc {w : World} {C : Nat} {a b : Int} {c0 c1 : Bool} {x0 : Option Addr} {n0 k0 : Nat} {x1 : Option Addr} {n1 k1 : Nat} (h : ConC w C a b c0 c1 x0 n0 k0 x1 n1 k1) (o : Obj) : ConC (w.alloc o) C a b c0 c1 x0 n0 k0 x1 n1 k1 :=
  h.below ((Below.refl _ _).alloc (Nat.le_refl _) o) (Nat.le_refl _)

set_option maxHeartbeats 2000000 in
theorem side_any (C : Nat) (a b : Int) (c0 c1 : Bool) (x0 : Option Addr) (n0 k0 : Nat) (x1 : Option Addr) (n1 k1 : Nat) (node r : Int) (w : World) (h : ConC w C a b c0 c1 x0 n0 k0 x1 n1 k1) (Hr : Hid (r = if a = node then 0 else if b = node then 1 else -1)) :
    Calls Try.prog 42 #[.pointer (some ⟨C, 0, none⟩), .int .i64 node] w fun e w' => e = .returned (.int .i64 r) ∧ Below w.heap.size w w' := by
  go_enter Try.func42, Try.ntmps42
  go_wp2
  go_loopw [9] (fun i wr => ∃ k : Nat, k ≤ 2 ∧ i = .int .i64 (k : Int) ∧ Hid (1 ≤ k → a ≠ node) ∧ Hid (2 ≤ k → b ≠ node) ∧ Below w.heap.size w wr) (fun i _ => 2 - (intOf i).toNat)
  case atStart => exact ⟨0, Nat.zero_le _, rfl, (fun h => by omega), (fun h => by omega), Below.refl _ _⟩
  case round =>
    obtain ⟨k, hk, rfl, H1, H2, hb⟩ := hrel
    have hr := h.below hb (Nat.le_refl _)
    have hbs := hb.size
    obtain ⟨e0, e1, e2, e3, e4, e5⟩ := hr.cells
    have f0 := fun o => (hr.alloc o).cells.1
    have f1 := fun o => (hr.alloc o).cells.2.1
    have f2 := fun o => (hr.alloc o).cells.2.2.1
    have f3 := fun o => (hr.alloc o).cells.2.2.2.1
    have f4 := fun o => (hr.alloc o).cells.2.2.2.2.1
    have f5 := fun o => (hr.alloc o).cells.2.2.2.2.2
    rcases (by omega : k = 0 ∨ k = 1 ∨ k = 2) with rfl | rfl | rfl
    · rw [show ((0 : Nat) : Int) = 0 from rfl]
      by_cases hn : a = node
      · have hd : (a == node) = true := by simp [hn]
        obtain rfl : r = 0 := by rw [unhide Hr, if_pos hn]
        clear hn Hr
        go_wp2_with fail
        go_region
        go_wp2
        go_ret
        exact ⟨rfl, (hb.alloc hb.size _).drew⟩
      · have hd : (a == node) = false := by simp [hn]
        have HN := hide hn
        clear hn
        go_wp2_with fail
        go_region
        go_wp2
        go_roundw
        case rel => exact ⟨1, by omega, by go_num, (fun _ => unhide HN), (fun h => by omega), (hb.alloc hb.size _).drew⟩
        case measure => simp [intOf]
    · rw [show ((1 : Nat) : Int) = 1 from rfl]
      have hna := unhide H1 (by omega)
      by_cases hn : b = node
      · have hd : (b == node) = true := by simp [hn]
        obtain rfl : r = 1 := by rw [unhide Hr, if_neg hna, if_pos hn]
        clear hn Hr hna
        go_wp2_with fail
        go_region
        go_wp2
        go_ret
        exact ⟨rfl, (hb.alloc hb.size _).drew⟩
      · have hd : (b == node) = false := by simp [hn]
        have HN := hide hn
        have HNA := hide hna
        clear hn hna
        go_wp2_with fail
        go_region
        go_wp2
        go_roundw
        case rel => exact ⟨2, by omega, by go_num, (fun _ => unhide HNA), (fun _ => unhide HN), (hb.alloc hb.size _).drew⟩
        case measure => simp [intOf]
    · rw [show ((2 : Nat) : Int) = 2 from rfl]
      obtain rfl : r = -1 := by rw [unhide Hr, if_neg (unhide H1 (by omega)), if_neg (unhide H2 (by omega))]
      go_wp2
      go_ret
      exact ⟨rfl, hb⟩

set_option maxHeartbeats 2000000 in
theorem over_open (C : Nat) (a b : Int) (c1 : Bool) (x0 : Option Addr) (n0 k0 : Nat) (x1 : Option Addr) (n1 k1 : Nat) (w : World) (h : ConC w C a b false c1 x0 n0 k0 x1 n1 k1) :
    Calls Try.prog 56 #[.pointer (some ⟨C, 0, none⟩)] w fun e w' => e = .returned (.bool false) ∧ Below w.heap.size w w' := by
  obtain ⟨e0, e1, e2, e3, e4, e5⟩ := h.cells
  have f0 := fun o => (h.alloc o).cells.1
  have f1 := fun o => (h.alloc o).cells.2.1
  have f2 := fun o => (h.alloc o).cells.2.2.1
  go_enter Try.func56, Try.ntmps56
  go_wp2
  refine wp_loop_rounds 3 ?_
  rw [rounds_succ]
  go_wp2
  go_ret
  exact ⟨rfl, (Below.refl _ _).alloc (Nat.le_refl _) _⟩

/-- How an element of link's map reads: the block that it points to. -/
def ptrElem : Value → Option (DataW Unit × List MemPlace)
  | .pointer (some ⟨b, 0, none⟩) => some (.lit (.int .i64 (b : Int)), [])
  | .pointer none => some (.nil, [])
  | _ => none
theorem ptrElem_inv {v : Value} {C : Nat} {ps : List MemPlace} (h : ptrElem v = some (.lit (.int .i64 (C : Int)), ps)) : v = .pointer (some ⟨C, 0, none⟩) := by
  unfold ptrElem at h
  split at h
  · rename_i b
    simp at h
    have h1 := h.1
    rw [show b = C by omega]
  · simp at h
  · simp at h
theorem law : Keyed Try.prog 3 := int_keyed Try.underlying3
theorem zeroP (w : World) : (zeroValue 68).run Try.prog w = .ok (.pointer none) w := by kernel_rfl
theorem key_one : keyOf Try.prog 3 (.int .i64 1) = some (.int .i64 1) := keyOf_int_mk Try.underlying3 (by decide)

/-- A net with one connection, the first, both of whose ends are open; nothing is on the way to the end that dialled, and l to the other. -/
structure LS (w : World) (N bm C : Nat) (p q : Int) (x : Option Addr) (k : Nat) (l : List UInt8) : Prop where
  net : w.heap[N]? = some (.cells #[.map (some bm), .int .i64 1] 59 (0, 0))
  own : w.ownsMap Try.prog 3 ptrElem bm 1 ((DataW.map []).put (.int .i64 1) (.lit (.int .i64 (C : Int))))
  con : ConC w C p q false false none 0 0 x l.length k
  row : Bs w x k l
theorem LS.look {w : World} {N bm C : Nat} {p q : Int} {x : Option Addr} {k : Nat} {l : List UInt8} (h : LS w N bm C p q x k l) :
    (Instr.lookup 57 (.map (some bm)) (.int .i64 1) true).run Try.prog w = .ok (.tuple #[.pointer (some ⟨C, 0, none⟩), .bool true]) w := by
  obtain ⟨v, ps, hrun, hv⟩ := h.own.look_ok law Try.underlying57 (zeroP w) (zd := .nil) (zp := []) rfl key_one
  rw [Maps.atKey_put_same Maps.isMap_empty (by trivial)] at hv
  rw [ptrElem_inv hv, Maps.has_put_same Maps.isMap_empty (by trivial)] at hrun
  exact hrun
theorem LS.look1 {w : World} {N bm C : Nat} {p q : Int} {x : Option Addr} {k : Nat} {l : List UInt8} (h : LS w N bm C p q x k l) :
    (Instr.lookup 57 (.map (some bm)) (.int .i64 1) false).run Try.prog w = .ok (.pointer (some ⟨C, 0, none⟩)) w := by
  obtain ⟨v, ps, hrun, hv⟩ := h.own.lookup law Try.underlying57 (zeroP w) (zd := .nil) (zp := []) rfl key_one
  rw [Maps.atKey_put_same Maps.isMap_empty (by trivial)] at hv
  rw [ptrElem_inv hv] at hrun
  exact hrun
theorem LS.n0 {w : World} {N bm C : Nat} {p q : Int} {x : Option Addr} {k : Nat} {l : List UInt8} (h : LS w N bm C p q x k l) : w.cell? ⟨N, 0, none⟩ = some (.map (some bm)) := by rw [cell_of_row w N 0 _ _ _ h.net]; rfl
theorem LS.n1 {w : World} {N bm C : Nat} {p q : Int} {x : Option Addr} {k : Nat} {l : List UInt8} (h : LS w N bm C p q x k l) : w.cell? ⟨N, 1, none⟩ = some (.int .i64 1) := by rw [cell_of_row w N 1 _ _ _ h.net]; rfl
theorem ownsMap_below {w w' : World} {B bm n : Nat} {D : DataW Unit} (h : w.ownsMap Try.prog 3 ptrElem bm n D) (hb : Below B w w') (hB : bm < B) : w'.ownsMap Try.prog 3 ptrElem bm n D := by
  obtain ⟨es, clock, h1, h2, h3, h4⟩ := h
  exact ⟨es, clock, (hb.block bm hB).trans h1, h2, h3, h4⟩
theorem LS.below {w w' : World} {N bm C : Nat} {p q : Int} {x : Option Addr} {k : Nat} {l : List UInt8} (h : LS w N bm C p q x k l) (hb : Below w.heap.size w w') : LS w' N bm C p q x k l :=
  ⟨by rw [hb.block N (Array.getElem?_eq_some_iff.1 h.net).1]; exact h.net, ownsMap_below h.own hb h.own.lt, h.con.below hb (Nat.le_refl _), h.row.below hb (Nat.le_refl _)⟩

/-- All blocks stay but those of S. -/
structure Kp (w w' : World) (S : Nat → Prop) : Prop where
  os : w'.os = w.os
  tape : w'.tape = w.tape
  output : w'.output = w.output
  size : w.heap.size ≤ w'.heap.size
  block : ∀ k, k < w.heap.size → ¬ S k → w'.heap[k]? = w.heap[k]?
theorem Kp.of {w w' : World} {S : Nat → Prop} (h : Below w.heap.size w w') : Kp w w' S := ⟨h.os, h.tape, h.output, h.size, fun k hk _ => h.block k hk⟩
theorem Kp.ofG {w w' : World} {S : Nat → Prop} {row : Option Nat} (h : w.grownBy w' row) (hr : ∀ k, row = some k → S k) : Kp w w' S :=
  ⟨h.os, h.tape, h.output, h.size, fun k hk hs => h.block k hk (fun e => hs (hr k e.symm))⟩
theorem Kp.trans {a b c : World} {S : Nat → Prop} (h : Kp a b S) (k : Kp b c S) : Kp a c S :=
  ⟨k.os.trans h.os, k.tape.trans h.tape, k.output.trans h.output, Nat.le_trans h.size k.size, fun i hi hs => (k.block i (Nat.lt_of_lt_of_le hi h.size) hs).trans (h.block i hi hs)⟩
theorem Kp.below {w0 w w' : World} {S : Nat → Prop} {B : Nat} (h : Below B w0 w) (k : Kp w w' S) (hB : B ≤ w.heap.size) (hS : ∀ j, S j → B ≤ j) : Below B w0 w' :=
  ⟨k.os.trans h.os, k.tape.trans h.tape, k.output.trans h.output, Nat.le_trans h.size k.size, fun i hi => (k.block i (by omega) (fun hs => by have := hS i hs; omega)).trans (h.block i hi)⟩
theorem Kp.cell {w w' : World} {S : Nat → Prop} (k : Kp w w' S) {p : Addr} {v : Value} (h : w.cell? p = some v) (hs : ¬ S p.block) : w'.cell? p = some v := by
  rw [World.cell?_of_block (w := w) (k.block p.block (World.block_lt_of_cell? w _ h) hs)]; exact h
theorem Kp.bs {w w' : World} {S : Nat → Prop} (k : Kp w w' S) {a : Option Addr} {cap : Nat} {l : List UInt8} (h : Bs w a cap l) (hs : ∀ g, blk a = some g → ¬ S g) : Bs w' a cap l := by
  refine ⟨fun hne => ?_, h.le, h.most, h.nz⟩
  obtain ⟨b, off, rfl, hc⟩ := h.row hne
  exact ⟨b, off, rfl, fun i hi => k.cell (hc i hi) (hs b rfl)⟩
theorem Kp.own {w w' : World} {S : Nat → Prop} (k : Kp w w' S) {base : Nat} {a : Option Addr} {cap : Nat} {l : List UInt8} (h : OwnB w base a cap l) (hs : ∀ g, blk a = some g → ¬ S g) : OwnB w' base a cap l := by
  refine ⟨h.1, ?_⟩
  rcases h.2 with hn | ⟨g, cap, cur, hv, hbb, hgg, rest⟩
  · exact .inl hn
  · refine .inr ⟨g, cap, cur, hv, hbb, ?_, rest⟩
    have e : blk a = some g := by simp only [Value.slice.injEq] at hv; rw [hv.1]; rfl
    rw [k.block g (Array.getElem?_eq_some_iff.1 hgg).1 (hs g e)]
    exact hgg
theorem LS.kp {w w' : World} {N bm C : Nat} {p q : Int} {x : Option Addr} {k : Nat} {l : List UInt8} {S : Nat → Prop} (h : LS w N bm C p q x k l) (hk : Kp w w' S) (hN : ¬ S N) (hM : ¬ S bm) (hC : ¬ S C) (hx : ∀ g, blk x = some g → ¬ S g) : LS w' N bm C p q x k l := by
  refine ⟨?_, ?_, ?_, hk.bs h.row hx⟩
  · rw [hk.block N (Array.getElem?_eq_some_iff.1 h.net).1 hN]; exact h.net
  · obtain ⟨es, clock, h1, h2, h3, h4⟩ := h.own
    exact ⟨es, clock, (hk.block bm h.own.lt hM).trans h1, h2, h3, h4⟩
  · unfold ConC
    rw [hk.block C h.con.lt hC]; exact h.con
end Go.Proofs.Ytohlmfiicfoimaa
