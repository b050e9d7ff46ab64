/-
  A NET WITH ANY CONNECTIONS, one of them looked at: conn, find, over, forget, take.
-/
import Derived.Test.YtohlmfiicfoimaaLnoA
set_option linter.unusedVariables false
namespace Go.Proofs.Ytohlmfiicfoimaa
open Go.RowKit Go.Maps

/-- A net in block N: its map in block bm has these entries, 'last' is the number that was given last. -/
structure NT (w : World) (N bm : Nat) (last : Int) (n : Nat) (D : DataW Unit) : Prop where
  net : w.heap[N]? = some (.cells #[.map (some bm), .int .i64 last] 59 (0, 0))
  own : w.ownsMap Try.prog 3 ptrElem bm n D
/-- Connection 'id' lies in block C. -/
def AtC (D : DataW Unit) (id : Int) (C : Nat) : Prop := D.atKey (.int .i64 id) .nil = .lit (.int .i64 (C : Int)) ∧ Maps.has D (.int .i64 id) = true
def OffC (D : DataW Unit) (id : Int) : Prop := Maps.has D (.int .i64 id) = false
theorem key_of (id : Int) (h : (Lit.int .i64 id).wf = true) : keyOf Try.prog 3 (.int .i64 id) = some (.int .i64 id) := keyOf_int_mk Try.underlying3 h
theorem wf_i64 (id : Int) (h0 : 0 ≤ id) (h1 : id ≤ 9223372036854775807) : (Lit.int .i64 id).wf = true := by
  simp [Lit.wf, IntKind.min, IntKind.max, IntKind.bits, IntKind.signed]; omega
theorem NT.n0 {w : World} {N bm : Nat} {last : Int} {n : Nat} {D : DataW Unit} (h : NT w N bm last n D) : w.cell? ⟨N, 0, none⟩ = some (.map (some bm)) := by rw [cell_of_row w N 0 _ _ _ h.net]; rfl
theorem NT.n1 {w : World} {N bm : Nat} {last : Int} {n : Nat} {D : DataW Unit} (h : NT w N bm last n D) : w.cell? ⟨N, 1, none⟩ = some (.int .i64 last) := by rw [cell_of_row w N 1 _ _ _ h.net]; rfl
theorem NT.ltN {w : World} {N bm : Nat} {last : Int} {n : Nat} {D : DataW Unit} (h : NT w N bm last n D) : N < w.heap.size := (Array.getElem?_eq_some_iff.1 h.net).1
theorem NT.kp {w w' : World} {N bm : Nat} {last : Int} {n : Nat} {D : DataW Unit} {S : Nat → Prop} (h : NT w N bm last n D) (hk : Kp w w' S) (hN : ¬ S N) (hM : ¬ S bm) : NT w' N bm last n D := by
  refine ⟨(hk.block N h.ltN hN).trans h.net, ?_⟩
  obtain ⟨es, clock, h1, h2, h3, h4⟩ := h.own
  exact ⟨es, clock, (hk.block bm h.own.lt hM).trans h1, h2, h3, h4⟩
theorem NT.below {w w' : World} {N bm : Nat} {last : Int} {n : Nat} {D : DataW Unit} (h : NT w N bm last n D) (hb : Below w.heap.size w w') : NT w' N bm last n D :=
  h.kp (Kp.of (S := fun _ => False) hb) id id
theorem NT.look {w : World} {N bm : Nat} {last : Int} {n : Nat} {D : DataW Unit} (h : NT w N bm last n D) {id : Int} {C : Nat} (hid : (Lit.int .i64 id).wf = true) (ha : AtC D id C) :
    (Instr.lookup 57 (.map (some bm)) (.int .i64 id) true).run Try.prog w = .ok (.tuple #[.pointer (some ⟨C, 0, none⟩), .bool true]) w := by
  obtain ⟨v, ps, hrun, hv⟩ := h.own.look_ok law Try.underlying57 (zeroP w) (zd := .nil) (zp := []) rfl (key_of id hid)
  rw [ha.1] at hv
  rw [ptrElem_inv hv, ha.2] at hrun
  exact hrun
theorem NT.look1 {w : World} {N bm : Nat} {last : Int} {n : Nat} {D : DataW Unit} (h : NT w N bm last n D) {id : Int} {C : Nat} (hid : (Lit.int .i64 id).wf = true) (ha : AtC D id C) :
    (Instr.lookup 57 (.map (some bm)) (.int .i64 id) false).run Try.prog w = .ok (.pointer (some ⟨C, 0, none⟩)) w := by
  obtain ⟨v, ps, hrun, hv⟩ := h.own.lookup law Try.underlying57 (zeroP w) (zd := .nil) (zp := []) rfl (key_of id hid)
  rw [ha.1] at hv
  rw [ptrElem_inv hv] at hrun
  exact hrun
theorem NT.lookN {w : World} {N bm : Nat} {last : Int} {n : Nat} {D : DataW Unit} (h : NT w N bm last n D) {id : Int} (hid : (Lit.int .i64 id).wf = true) (ha : OffC D id) :
    ∃ v, (Instr.lookup 57 (.map (some bm)) (.int .i64 id) true).run Try.prog w = .ok (.tuple #[v, .bool false]) w := by
  obtain ⟨v, ps, hrun, hv⟩ := h.own.look_ok law Try.underlying57 (zeroP w) (zd := .nil) (zp := []) rfl (key_of id hid)
  rw [ha] at hrun
  exact ⟨v, hrun⟩

set_option maxHeartbeats 2000000 in
theorem conn_at (N bm : Nat) (last : Int) (n : Nat) (D : DataW Unit) (id : Int) (C : Nat) (w : World) (h : NT w N bm last n D) (hid : (Lit.int .i64 id).wf = true) (ha : AtC D id C) :
    Calls Try.prog 39 #[.pointer (some ⟨N, 0, none⟩), .int .i64 id] w fun e w' => e = .returned (.tuple #[.pointer (some ⟨C, 0, none⟩), .int .i64 0]) ∧ w' = w := by
  have e0 := h.n0
  have hl := h.look hid ha
  go_enter Try.func39, Try.ntmps39
  go_wp2_with fail
  refine (unmade_not N bm w e0).mono ?_
  rintro e w' ⟨rfl, rfl⟩
  go_wp2
  go_ret2
  exact ⟨rfl, rfl⟩
set_option maxHeartbeats 2000000 in
theorem conn_off (N bm : Nat) (last : Int) (n : Nat) (D : DataW Unit) (id : Int) (w : World) (h : NT w N bm last n D) (hid : (Lit.int .i64 id).wf = true) (ha : OffC D id) :
    Calls Try.prog 39 #[.pointer (some ⟨N, 0, none⟩), .int .i64 id] w fun e w' => e = .returned (.tuple #[.pointer none, .int .i64 30]) ∧ w' = w := by
  have e0 := h.n0
  obtain ⟨v, hl⟩ := h.lookN hid ha
  go_enter Try.func39, Try.ntmps39
  go_wp2_with fail
  refine (unmade_not N bm w e0).mono ?_
  rintro e w' ⟨rfl, rfl⟩
  go_wp2
  go_ret2
  exact ⟨rfl, rfl⟩

set_option maxHeartbeats 2000000 in
theorem find_at (N bm : Nat) (last : Int) (n : Nat) (D : DataW Unit) (id : Int) (C : Nat) (p q : Int) (c0 c1 : Bool) (x0 : Option Addr) (n0 k0 : Nat) (x1 : Option Addr) (n1 k1 : Nat) (node r : Int) (w : World) (h : NT w N bm last n D) (hid : (Lit.int .i64 id).wf = true) (ha : AtC D id C)
    (hc : ConC w C p q c0 c1 x0 n0 k0 x1 n1 k1) (Hr : Hid (r = if p = node then 0 else if q = node then 1 else -1)) (h0 : 0 ≤ r) :
    Calls Try.prog 44 #[.pointer (some ⟨N, 0, none⟩), .int .i64 id, .int .i64 node] w fun e w' => e = .returned (.tuple #[.pointer (some ⟨C, 0, none⟩), .int .i64 r, .int .i64 0]) ∧ Below w.heap.size w w' := by
  go_enter Try.func44, Try.ntmps44
  go_wp2_with fail
  refine (conn_at N bm last n D id C w h hid ha).mono ?_
  rintro e w1 ⟨rfl, rfl⟩
  go_wp2_with fail
  refine (side_any C p q c0 c1 x0 n0 k0 x1 n1 k1 node r w1 hc Hr).mono ?_
  rintro e w2 ⟨rfl, hb⟩
  go_wp2
  go_ret3
  exact ⟨rfl, hb⟩
set_option maxHeartbeats 2000000 in
theorem find_off (N bm : Nat) (last : Int) (n : Nat) (D : DataW Unit) (id node : Int) (w : World) (h : NT w N bm last n D) (hid : (Lit.int .i64 id).wf = true) (ha : OffC D id) :
    Calls Try.prog 44 #[.pointer (some ⟨N, 0, none⟩), .int .i64 id, .int .i64 node] w fun e w' => e = .returned (.tuple #[.pointer none, .int .i64 0, .int .i64 30]) ∧ w' = w := by
  go_enter Try.func44, Try.ntmps44
  go_wp2_with fail
  refine (conn_off N bm last n D id w h hid ha).mono ?_
  rintro e w1 ⟨rfl, rfl⟩
  go_wp2
  go_ret3
  exact ⟨rfl, rfl⟩

set_option maxHeartbeats 4000000 in
theorem over_any (C : Nat) (a b : Int) (c0 c1 : Bool) (x0 : Option Addr) (n0 k0 : Nat) (x1 : Option Addr) (n1 k1 : Nat) (r : Bool) (w : World) (h : ConC w C a b c0 c1 x0 n0 k0 x1 n1 k1) (hn0 : n0 ≤ 1000000) (hn1 : n1 ≤ 1000000) (Hr : Hid (r = (c0 && n0 == 0 && c1 && n1 == 0))) :
    Calls Try.prog 56 #[.pointer (some ⟨C, 0, none⟩)] w fun e w' => e = .returned (.bool r) ∧ Below w.heap.size w w' := by
  obtain ⟨e0, e1, e2, e3, e4, e5⟩ := h.cells
  have f0 := fun o => (h.alloc o).cells.1
  have f1 := fun o => (h.alloc o).cells.2.1
  have f2 := fun o => (h.alloc o).cells.2.2.1
  have f3 := fun o => (h.alloc o).cells.2.2.2.1
  have f4 := fun o => (h.alloc o).cells.2.2.2.2.1
  have f5 := fun o => (h.alloc o).cells.2.2.2.2.2
  have g3 := fun o o' => ((h.alloc o).alloc o').cells.2.2.2.1
  have g4 := fun o o' => ((h.alloc o).alloc o').cells.2.2.2.2.1
  have g5 := fun o o' => ((h.alloc o).alloc o').cells.2.2.2.2.2
  have HW1 : ∀ o, Below w.heap.size w (w.alloc o) := fun o => (Below.refl _ _).alloc (Nat.le_refl _) _
  have HW2 : ∀ o o', Below w.heap.size w ((w.alloc o).alloc o') := fun o o' => ((Below.refl _ _).alloc (Nat.le_refl _) _).alloc (by simp) _
  rcases c0 with _ | _
  · obtain rfl : r = false := by rw [unhide Hr]; rfl
    go_enter Try.func56, Try.ntmps56
    go_wp2
    refine wp_loop_rounds 3 ?_
    rw [rounds_succ]
    go_wp2
    go_ret
    exact ⟨rfl, HW1 _⟩
  · by_cases hz : n0 = 0
    · subst hz
      rcases c1 with _ | _
      · obtain rfl : r = false := by rw [unhide Hr]; rfl
        go_enter Try.func56, Try.ntmps56
        go_wp2
        refine wp_loop_rounds 3 ?_
        rw [rounds_succ]
        go_wp2
        rw [rounds_succ]
        go_wp2
        go_ret
        exact ⟨rfl, HW2 _ _⟩
      · by_cases hz1 : n1 = 0
        · subst hz1
          obtain rfl : r = true := by rw [unhide Hr]; rfl
          go_enter Try.func56, Try.ntmps56
          go_wp2
          refine wp_loop_rounds 3 ?_
          rw [rounds_succ]
          go_wp2
          rw [rounds_succ]
          go_wp2
          rw [rounds_succ]
          go_wp2
          go_ret
          exact ⟨rfl, HW2 _ _⟩
        · obtain rfl : r = false := by rw [unhide Hr]; simp [hz1]
          have hp : (0 : Int) < (n1 : Int) := by omega
          clear hz1
          go_enter Try.func56, Try.ntmps56
          go_wp2
          refine wp_loop_rounds 3 ?_
          rw [rounds_succ]
          go_wp2
          rw [rounds_succ]
          go_wp2
          go_ret
          exact ⟨rfl, HW2 _ _⟩
    · obtain rfl : r = false := by rw [unhide Hr]; simp [hz]
      have hp : (0 : Int) < (n0 : Int) := by omega
      clear hz
      go_enter Try.func56, Try.ntmps56
      go_wp2
      refine wp_loop_rounds 3 ?_
      rw [rounds_succ]
      go_wp2
      go_ret
      exact ⟨rfl, HW1 _⟩
#print axioms over_any
end Go.Proofs.Ytohlmfiicfoimaa
