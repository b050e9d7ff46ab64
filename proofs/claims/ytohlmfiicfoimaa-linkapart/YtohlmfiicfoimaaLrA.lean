/-
  link, the document's own net: a connection's cells, a row of pointers; way, end, Find.
-/
import Derived.Test.YtohlmfiicfoimaaLnoC
set_option linter.unusedVariables false
namespace Go.Proofs.Ytohlmfiicfoimaa
open Go.RowKit Go.Maps

/-- A connection of the document's net, in block C. -/
def RC (w : World) (C : Nat) (id p q : Int) (x0 : Option Addr) (n0 k0 : Nat) (x1 : Option Addr) (n1 k1 : Nat) (m0 m1 : Int) (c0 c1 : Bool) : Prop :=
  w.heap[C]? = some (.cells #[.int .i64 id, .int .i64 p, .int .i64 q, .slice x0 n0 k0, .slice x1 n1 k1, .int .i64 m0, .int .i64 m1, .bool c0, .bool c1] 89 (0, 0))
theorem RC.lt {w : World} {C : Nat} {id p q : Int} {x0 : Option Addr} {n0 k0 : Nat} {x1 : Option Addr} {n1 k1 : Nat} {m0 m1 : Int} {c0 c1 : Bool} (h : RC w C id p q x0 n0 k0 x1 n1 k1 m0 m1 c0 c1) : C < w.heap.size := (Array.getElem?_eq_some_iff.1 h).1
theorem RC.move {w w' : World} {C : Nat} {id p q : Int} {x0 : Option Addr} {n0 k0 : Nat} {x1 : Option Addr} {n1 k1 : Nat} {m0 m1 : Int} {c0 c1 : Bool} (h : RC w C id p q x0 n0 k0 x1 n1 k1 m0 m1 c0 c1) (e : w'.heap[C]? = w.heap[C]?) : RC w' C id p q x0 n0 k0 x1 n1 k1 m0 m1 c0 c1 := by
  unfold RC at *
  rw [e]; exact h
theorem RC.below {w w' : World} {C : Nat} {id p q : Int} {x0 : Option Addr} {n0 k0 : Nat} {x1 : Option Addr} {n1 k1 : Nat} {m0 m1 : Int} {c0 c1 : Bool} (h : RC w C id p q x0 n0 k0 x1 n1 k1 m0 m1 c0 c1) (hb : Below w.heap.size w w') : RC w' C id p q x0 n0 k0 x1 n1 k1 m0 m1 c0 c1 := h.move (hb.block C h.lt)
theorem RC.cells {w : World} {C : Nat} {id p q : Int} {x0 : Option Addr} {n0 k0 : Nat} {x1 : Option Addr} {n1 k1 : Nat} {m0 m1 : Int} {c0 c1 : Bool} (h : RC w C id p q x0 n0 k0 x1 n1 k1 m0 m1 c0 c1) :
    w.cell? ⟨C, 0, none⟩ = some (.int .i64 id) ∧ w.cell? ⟨C, 1, none⟩ = some (.int .i64 p) ∧ w.cell? ⟨C, 2, none⟩ = some (.int .i64 q) ∧ w.cell? ⟨C, 3, none⟩ = some (.slice x0 n0 k0) ∧ w.cell? ⟨C, 4, none⟩ = some (.slice x1 n1 k1) ∧ w.cell? ⟨C, 5, none⟩ = some (.int .i64 m0) ∧ w.cell? ⟨C, 6, none⟩ = some (.int .i64 m1) ∧ w.cell? ⟨C, 7, none⟩ = some (.bool c0) ∧ w.cell? ⟨C, 8, none⟩ = some (.bool c1) := by
  unfold RC at h
  refine ⟨?_, ?_, ?_, ?_, ?_, ?_, ?_, ?_, ?_⟩ <;> (rw [cell_of_row w C _ _ _ _ h]; rfl)
theorem RC.fr {w : World} {C : Nat} {id p q : Int} {x0 : Option Addr} {n0 k0 : Nat} {x1 : Option Addr} {n1 k1 : Nat} {m0 m1 : Int} {c0 c1 : Bool} (h : RC w C id p q x0 n0 k0 x1 n1 k1 m0 m1 c0 c1) (o : Nat) : w.frozen? ⟨C, o, none⟩ = false := frozen_of_row w C o _ _ h

set_option maxHeartbeats 1000000 in
theorem way_0 (C : Nat) (id p q : Int) (x0 : Option Addr) (n0 k0 : Nat) (x1 : Option Addr) (n1 k1 : Nat) (m0 m1 : Int) (c0 c1 : Bool) (r : Nat) (w : World) (h : RC w C id p q x0 n0 k0 x1 n1 k1 m0 m1 c0 c1) (hr : m0 = (n0 : Int) - (r : Int)) (h0 : 0 ≤ m0) (hn : n0 ≤ 500000000) :
    Calls Try.prog 50 #[.pointer (some ⟨C, 0, none⟩), .int .i64 0] w fun e w' => e = .returned (.int .i64 (r : Int)) ∧ Below w.heap.size w w' := by
  obtain ⟨e0, e1, e2, e3, e4, e5, e6, e7, e8⟩ := h.cells
  have HR := hide hr
  have hs : IntKind.i64.wrap ((n0 : Int) - m0) = (r : Int) := by
    have e : (n0 : Int) - m0 = (r : Int) := by omega
    rw [e]; simp [IntKind.wrap, IntKind.bits, IntKind.signed]; omega
  clear hr
  go_enter Try.func50, Try.ntmps50
  go_wp2_with fail
  go_region
  go_wp2
  go_ret
  exact ⟨rfl, (Below.refl _ _).drew⟩
set_option maxHeartbeats 1000000 in
theorem way_1 (C : Nat) (id p q : Int) (x0 : Option Addr) (n0 k0 : Nat) (x1 : Option Addr) (n1 k1 : Nat) (m0 m1 : Int) (c0 c1 : Bool) (r : Nat) (w : World) (h : RC w C id p q x0 n0 k0 x1 n1 k1 m0 m1 c0 c1) (hr : m1 = (n1 : Int) - (r : Int)) (h0 : 0 ≤ m1) (hn : n1 ≤ 500000000) :
    Calls Try.prog 50 #[.pointer (some ⟨C, 0, none⟩), .int .i64 1] w fun e w' => e = .returned (.int .i64 (r : Int)) ∧ Below w.heap.size w w' := by
  obtain ⟨e0, e1, e2, e3, e4, e5, e6, e7, e8⟩ := h.cells
  have HR := hide hr
  have hs : IntKind.i64.wrap ((n1 : Int) - m1) = (r : Int) := by
    have e : (n1 : Int) - m1 = (r : Int) := by omega
    rw [e]; simp [IntKind.wrap, IntKind.bits, IntKind.signed]; omega
  clear hr
  go_enter Try.func50, Try.ntmps50
  go_wp2_with fail
  go_region
  go_wp2
  go_ret
  exact ⟨rfl, (Below.refl _ _).drew⟩
#print axioms way_1

set_option maxHeartbeats 2000000 in
theorem end_r (C : Nat) (id p q : Int) (x0 : Option Addr) (n0 k0 : Nat) (x1 : Option Addr) (n1 k1 : Nat) (m0 m1 : Int) (c0 c1 : Bool) (node r : Int) (w : World) (h : RC w C id p q x0 n0 k0 x1 n1 k1 m0 m1 c0 c1) (Hr : Hid (r = if p = node then 0 else if q = node then 1 else -1)) :
    Calls Try.prog 43 #[.pointer (some ⟨C, 0, none⟩), .int .i64 node] w fun e w' => e = .returned (.int .i64 r) ∧ w' = w := by
  obtain ⟨e0, e1, e2, e3, e4, e5, e6, e7, e8⟩ := h.cells
  go_enter Try.func43, Try.ntmps43
  go_wp2
  go_loop [6] (fun i => ∃ k : Nat, k ≤ 2 ∧ i = .int .i64 (k : Int) ∧ Hid (1 ≤ k → p ≠ node) ∧ Hid (2 ≤ k → q ≠ node)) (fun i => 2 - (intOf i).toNat)
  case atStart => exact ⟨0, Nat.zero_le _, rfl, (fun h => by omega), (fun h => by omega)⟩
  case round =>
    obtain ⟨k, hk, rfl, H1, H2⟩ := hrel
    rcases (by omega : k = 0 ∨ k = 1 ∨ k = 2) with rfl | rfl | rfl
    · rw [show ((0 : Nat) : Int) = 0 from rfl]
      by_cases hn : p = node
      · have hd : (p == node) = true := by simp [hn]
        obtain rfl : r = 0 := by rw [unhide Hr, if_pos hn]
        clear hn Hr
        go_wp2
        go_ret
        exact ⟨rfl, rfl⟩
      · have hd : (p == node) = false := by simp [hn]
        have HN := hide hn
        clear hn
        go_wp2
        go_round
        case rel => exact ⟨1, by omega, by go_num, (fun _ => unhide HN), (fun h => by omega)⟩
        case measure => simp [intOf]
    · rw [show ((1 : Nat) : Int) = 1 from rfl]
      have hna := unhide H1 (by omega)
      by_cases hn : q = node
      · have hd : (q == node) = true := by simp [hn]
        obtain rfl : r = 1 := by rw [unhide Hr, if_neg hna, if_pos hn]
        clear hn Hr hna
        go_wp2
        go_ret
        exact ⟨rfl, rfl⟩
      · have hd : (q == node) = false := by simp [hn]
        have HN := hide hn
        have HNA := hide hna
        clear hn hna
        go_wp2
        go_round
        case rel => exact ⟨2, by omega, by go_num, (fun _ => unhide HNA), (fun _ => unhide HN)⟩
        case measure => simp [intOf]
    · rw [show ((2 : Nat) : Int) = 2 from rfl]
      obtain rfl : r = -1 := by rw [unhide Hr, if_neg (unhide H1 (by omega)), if_neg (unhide H2 (by omega))]
      clear H1 H2 Hr
      go_wp2
      go_ret
      exact ⟨rfl, rfl⟩
#print axioms end_r

/-- A row of pointers to blocks. -/
def PRow (w : World) (a : Option Addr) (l : List Nat) : Prop :=
  l ≠ [] → ∃ b off, a = some ⟨b, off, none⟩ ∧ ∀ i s, l[i]? = some s → w.cell? ⟨b, off + i, none⟩ = some (.pointer (some ⟨s, 0, none⟩))

/-- The document's net in block X: its list of pointers, the number that was given last. -/
structure RT (w : World) (X : Nat) (la : Option Addr) (lc : Nat) (ps : List Nat) (last : Int) : Prop where
  net : w.heap[X]? = some (.cells #[.slice la ps.length lc, .int .i64 last] 30 (0, 0))
  row : PRow w la ps
  le : ps.length ≤ lc
theorem RT.n0 {w : World} {X : Nat} {la : Option Addr} {lc : Nat} {ps : List Nat} {last : Int} (h : RT w X la lc ps last) : w.cell? ⟨X, 0, none⟩ = some (.slice la ps.length lc) := by rw [cell_of_row w X 0 _ _ _ h.net]; rfl
theorem RT.n1 {w : World} {X : Nat} {la : Option Addr} {lc : Nat} {ps : List Nat} {last : Int} (h : RT w X la lc ps last) : w.cell? ⟨X, 1, none⟩ = some (.int .i64 last) := by rw [cell_of_row w X 1 _ _ _ h.net]; rfl
theorem RT.lt {w : World} {X : Nat} {la : Option Addr} {lc : Nat} {ps : List Nat} {last : Int} (h : RT w X la lc ps last) : X < w.heap.size := (Array.getElem?_eq_some_iff.1 h.net).1

set_option maxHeartbeats 2000000 in
theorem rfind_at (X : Nat) (la : Option Addr) (lc : Nat) (ps : List Nat) (last : Int) (ids : List Int) (id : Int) (i0 C : Nat) (w : World) (h : RT w X la lc ps last) (hl : ps.length ≤ 1000000)
    (hids : ∀ (i b : Nat) (z : Int), ps[i]? = some b → ids[i]? = some z → w.cell? ⟨b, 0, none⟩ = some (.int .i64 z)) (hlen : ids.length = ps.length) (hi : ids[i0]? = some id) (hf : ∀ j, j < i0 → ids[j]? ≠ some id) (hC : ps[i0]? = some C) :
    Calls Try.prog 49 #[.pointer (some ⟨X, 0, none⟩), .int .i64 id] w fun e w' => e = .returned (.pointer (some ⟨C, 0, none⟩)) ∧ w' = w := by
  have e0 := h.n0
  have hlt0 := (List.getElem?_eq_some_iff.1 hC).1
  obtain ⟨b, off, rfl, hc⟩ := h.row (by intro e; subst e; simp at hlt0)
  have HC := hide hc
  have HF := hide hf
  have HI := hide hi
  have HID := hide hids
  have HCC := hide hC
  have HLN := hide hlen
  clear hc hf hi hids hC h hlen
  go_enter Try.func49, Try.ntmps49
  go_wp2
  go_loop [12] (fun v => ∃ k : Nat, k ≤ i0 ∧ v = .int .i64 (k : Int)) (fun v => i0 + 1 - (intOf v).toNat)
  case atStart => exact ⟨0, Nat.zero_le _, rfl⟩
  case round =>
    obtain ⟨k, hk, rfl⟩ := hrel
    obtain ⟨s, hs⟩ : ∃ s, ps[k]? = some s := ⟨ps[k]'(by omega), List.getElem?_eq_getElem (by omega)⟩
    obtain ⟨z, hz⟩ : ∃ z, ids[k]? = some z := ⟨ids[k]'(by rw [unhide HLN]; omega), List.getElem?_eq_getElem (by rw [unhide HLN]; omega)⟩
    have ck := unhide HC k s hs
    have cz := unhide HID k s z hs hz
    have hkl : (k : Int) < (ps.length : Int) := by omega
    by_cases hlt : k < i0
    · have hne : (z == id) = false := by
        have := unhide HF k hlt
        rw [hz] at this
        simpa using this
      clear hs hz
      go_wp2
      go_round
      case rel => exact ⟨k + 1, by omega, by go_num⟩
      case measure => simp [intOf]; omega
    · obtain rfl : k = i0 := by omega
      obtain rfl : z = id := by have := unhide HI; rw [hz] at this; simpa using this
      obtain rfl : s = C := by have := unhide HCC; rw [hs] at this; simpa using this
      have heq : (z == z) = true := beq_self_eq_true _
      clear hs hz
      go_wp2
      go_ret
      exact ⟨rfl, rfl⟩
set_option maxHeartbeats 2000000 in
theorem rfind_off (X : Nat) (la : Option Addr) (lc : Nat) (ps : List Nat) (last : Int) (ids : List Int) (id : Int) (w : World) (h : RT w X la lc ps last) (hl : ps.length ≤ 1000000)
    (hids : ∀ (i b : Nat) (z : Int), ps[i]? = some b → ids[i]? = some z → w.cell? ⟨b, 0, none⟩ = some (.int .i64 z)) (hlen : ids.length = ps.length) (hf : id ∉ ids) :
    Calls Try.prog 49 #[.pointer (some ⟨X, 0, none⟩), .int .i64 id] w fun e w' => e = .returned (.pointer none) ∧ w' = w := by
  have e0 := h.n0
  have hrow := h.row
  have HF := hide hf
  have HID := hide hids
  have HLN := hide hlen
  have HROW := hide hrow
  clear hf hids h hlen hrow
  go_enter Try.func49, Try.ntmps49
  go_wp2
  go_loop [12] (fun v => ∃ k : Nat, k ≤ ps.length ∧ v = .int .i64 (k : Int)) (fun v => ps.length + 1 - (intOf v).toNat)
  case atStart => exact ⟨0, Nat.zero_le _, rfl⟩
  case round =>
    obtain ⟨k, hk, rfl⟩ := hrel
    by_cases hlt : k < ps.length
    · obtain ⟨s, hs⟩ : ∃ s, ps[k]? = some s := ⟨ps[k]'(by omega), List.getElem?_eq_getElem (by omega)⟩
      obtain ⟨z, hz⟩ : ∃ z, ids[k]? = some z := ⟨ids[k]'(by rw [unhide HLN]; omega), List.getElem?_eq_getElem (by rw [unhide HLN]; omega)⟩
      obtain ⟨b, off, hla, hc⟩ := unhide HROW (by intro e; subst e; simp at hlt)
      subst hla
      have ck := hc k s hs
      have cz := unhide HID k s z hs hz
      have hkl : (k : Int) < (ps.length : Int) := by omega
      have hne : (z == id) = false := by
        have hm := List.mem_of_getElem? hz
        simp
        intro e
        exact unhide HF (e ▸ hm)
      clear hs hz hc
      go_wp2
      go_round
      case rel => exact ⟨k + 1, by omega, by go_num⟩
      case measure => simp [intOf]; omega
    · obtain rfl : k = ps.length := by omega
      go_wp2
      go_ret
      exact ⟨rfl, rfl⟩
#print axioms rfind_at
#print axioms rfind_off
end Go.Proofs.Ytohlmfiicfoimaa
