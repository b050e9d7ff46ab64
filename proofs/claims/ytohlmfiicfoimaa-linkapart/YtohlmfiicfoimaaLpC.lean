/-
  link, the program's net: what is refused; Ends, Waiting, Done.
-/
import Derived.Test.YtohlmfiicfoimaaLpB
set_option linter.unusedVariables false
namespace Go.Proofs.Ytohlmfiicfoimaa
open Go.RowKit Go.Maps

set_option maxHeartbeats 2000000 in
theorem find_side (N bm : Nat) (last : Int) (n : Nat) (D : DataW Unit) (id : Int) (C : Nat) (p q : Int) (c : Nat → Bool) (A : Nat → Option Addr) (K : Nat → Nat) (L : Nat → List UInt8) (node : Int) (w : World) (h : NT w N bm last n D) (hid : (Lit.int .i64 id).wf = true) (ha : AtC D id C) (hc : Con w C p q c A K L) (Hr : Hid ((-1 : Int) = if p = node then 0 else if q = node then 1 else -1)) :
    Calls Try.prog 44 #[.pointer (some ⟨N, 0, none⟩), .int .i64 id, .int .i64 node] w fun e w' => e = .returned (.tuple #[.pointer none, .int .i64 0, .int .i64 1]) ∧ Below w.heap.size w w' := by
  go_enter Try.func44, Try.ntmps44
  go_wp2_with fail
  refine (conn_at N bm last n D id C w h hid ha).mono ?_
  rintro e w1 ⟨rfl, rfl⟩
  go_wp2_with fail
  refine (side_any C p q (c 0) (c 1) (A 0) (L 0).length (K 0) (A 1) (L 1).length (K 1) node (-1) w1 hc Hr).mono ?_
  rintro e w2 ⟨rfl, hb⟩
  go_wp2
  go_ret3
  exact ⟨rfl, hb⟩

set_option maxHeartbeats 2000000 in
theorem send_side (N bm : Nat) (last : Int) (n : Nat) (D : DataW Unit) (id : Int) (C : Nat) (p q : Int) (c : Nat → Bool) (A : Nat → Option Addr) (K : Nat → Nat) (L : Nat → List UInt8) (node : Int) (a : Option Addr) (nb cap : Nat) (w : World) (h : NT w N bm last n D) (hid : (Lit.int .i64 id).wf = true) (ha : AtC D id C) (hc : Con w C p q c A K L) (Hr : Hid ((-1 : Int) = if p = node then 0 else if q = node then 1 else -1)) :
    Calls Try.prog 21 #[.pointer (some ⟨N, 0, none⟩), .int .i64 id, .int .i64 node, .slice a nb cap] w fun e w' => e = .returned (.int .i64 1) ∧ Below w.heap.size w w' := by
  go_enter Try.func21, Try.ntmps21
  go_wp2_with fail
  refine (find_side N bm last n D id C p q c A K L node w h hid ha hc Hr).mono ?_
  rintro e w1 ⟨rfl, hb⟩
  go_wp2
  go_ret
  exact ⟨rfl, hb⟩

set_option maxHeartbeats 2000000 in
theorem carry_side (N bm : Nat) (last : Int) (n : Nat) (D : DataW Unit) (id : Int) (C : Nat) (p q : Int) (c : Nat → Bool) (A : Nat → Option Addr) (K : Nat → Nat) (L : Nat → List UInt8) (node : Int) (m : Int) (w : World) (h : NT w N bm last n D) (hid : (Lit.int .i64 id).wf = true) (ha : AtC D id C) (hc : Con w C p q c A K L) (Hr : Hid ((-1 : Int) = if p = node then 0 else if q = node then 1 else -1)) :
    Calls Try.prog 16 #[.pointer (some ⟨N, 0, none⟩), .int .i64 id, .int .i64 node, .int .i64 m] w fun e w' => e = .returned (.tuple #[.slice none 0 0, .int .i64 1]) ∧ Below w.heap.size w w' := by
  go_enter Try.func16, Try.ntmps16
  go_wp2_with fail
  refine (find_side N bm last n D id C p q c A K L node w h hid ha hc Hr).mono ?_
  rintro e w1 ⟨rfl, hb⟩
  go_wp2
  go_ret2
  exact ⟨rfl, hb⟩

set_option maxHeartbeats 2000000 in
theorem close_side (N bm : Nat) (last : Int) (n : Nat) (D : DataW Unit) (id : Int) (C : Nat) (p q : Int) (c : Nat → Bool) (A : Nat → Option Addr) (K : Nat → Nat) (L : Nat → List UInt8) (node : Int) (w : World) (h : NT w N bm last n D) (hid : (Lit.int .i64 id).wf = true) (ha : AtC D id C) (hc : Con w C p q c A K L) (Hr : Hid ((-1 : Int) = if p = node then 0 else if q = node then 1 else -1)) :
    Calls Try.prog 27 #[.pointer (some ⟨N, 0, none⟩), .int .i64 id, .int .i64 node] w fun e w' => e = .returned (.int .i64 1) ∧ Below w.heap.size w w' := by
  go_enter Try.func27, Try.ntmps27
  go_wp2_with fail
  refine (find_side N bm last n D id C p q c A K L node w h hid ha hc Hr).mono ?_
  rintro e w1 ⟨rfl, hb⟩
  go_wp2
  go_ret
  exact ⟨rfl, hb⟩

set_option maxHeartbeats 2000000 in
theorem waiting_side (N bm : Nat) (last : Int) (n : Nat) (D : DataW Unit) (id : Int) (C : Nat) (p q : Int) (c : Nat → Bool) (A : Nat → Option Addr) (K : Nat → Nat) (L : Nat → List UInt8) (node : Int) (w : World) (h : NT w N bm last n D) (hid : (Lit.int .i64 id).wf = true) (ha : AtC D id C) (hc : Con w C p q c A K L) (Hr : Hid ((-1 : Int) = if p = node then 0 else if q = node then 1 else -1)) :
    Calls Try.prog 33 #[.pointer (some ⟨N, 0, none⟩), .int .i64 id, .int .i64 node] w fun e w' => e = .returned (.tuple #[.int .i64 0, .int .i64 1]) ∧ Below w.heap.size w w' := by
  go_enter Try.func33, Try.ntmps33
  go_wp2_with fail
  refine (find_side N bm last n D id C p q c A K L node w h hid ha hc Hr).mono ?_
  rintro e w1 ⟨rfl, hb⟩
  go_wp2
  go_ret2
  exact ⟨rfl, hb⟩

set_option maxHeartbeats 2000000 in
theorem done_side (N bm : Nat) (last : Int) (n : Nat) (D : DataW Unit) (id : Int) (C : Nat) (p q : Int) (c : Nat → Bool) (A : Nat → Option Addr) (K : Nat → Nat) (L : Nat → List UInt8) (node : Int) (w : World) (h : NT w N bm last n D) (hid : (Lit.int .i64 id).wf = true) (ha : AtC D id C) (hc : Con w C p q c A K L) (Hr : Hid ((-1 : Int) = if p = node then 0 else if q = node then 1 else -1)) :
    Calls Try.prog 18 #[.pointer (some ⟨N, 0, none⟩), .int .i64 id, .int .i64 node] w fun e w' => e = .returned (.bool true) ∧ Below w.heap.size w w' := by
  go_enter Try.func18, Try.ntmps18
  go_wp2_with fail
  refine (find_side N bm last n D id C p q c A K L node w h hid ha hc Hr).mono ?_
  rintro e w1 ⟨rfl, hb⟩
  go_wp2
  go_ret
  exact ⟨rfl, hb⟩

set_option maxHeartbeats 2000000 in
theorem waiting_off (N bm : Nat) (last : Int) (n : Nat) (D : DataW Unit) (id node : Int) (w : World) (h : NT w N bm last n D) (hid : (Lit.int .i64 id).wf = true) (ha : OffC D id) :
    Calls Try.prog 33 #[.pointer (some ⟨N, 0, none⟩), .int .i64 id, .int .i64 node] w fun e w' => e = .returned (.tuple #[.int .i64 0, .int .i64 30]) ∧ Below w.heap.size w w' := by
  go_enter Try.func33, Try.ntmps33
  go_wp2_with fail
  refine (find_off N bm last n D id node w h hid ha).mono ?_
  rintro e w1 ⟨rfl, hw1⟩
  have hw1 := hw1.symm
  subst hw1
  go_wp2
  go_ret2
  exact ⟨rfl, Below.refl _ _⟩

set_option maxHeartbeats 2000000 in
theorem done_off (N bm : Nat) (last : Int) (n : Nat) (D : DataW Unit) (id node : Int) (w : World) (h : NT w N bm last n D) (hid : (Lit.int .i64 id).wf = true) (ha : OffC D id) :
    Calls Try.prog 18 #[.pointer (some ⟨N, 0, none⟩), .int .i64 id, .int .i64 node] w fun e w' => e = .returned (.bool true) ∧ Below w.heap.size w w' := by
  go_enter Try.func18, Try.ntmps18
  go_wp2_with fail
  refine (find_off N bm last n D id node w h hid ha).mono ?_
  rintro e w1 ⟨rfl, hw1⟩
  have hw1 := hw1.symm
  subst hw1
  go_wp2
  go_ret
  exact ⟨rfl, Below.refl _ _⟩

set_option maxHeartbeats 2000000 in
theorem ends_off (N bm : Nat) (last : Int) (n : Nat) (D : DataW Unit) (id : Int) (w : World) (h : NT w N bm last n D) (hid : (Lit.int .i64 id).wf = true) (ha : OffC D id) :
    Calls Try.prog 13 #[.pointer (some ⟨N, 0, none⟩), .int .i64 id] w fun e w' => e = .returned (.tuple #[.int .i64 0, .int .i64 0, .int .i64 30]) ∧ Below w.heap.size w w' := by
  go_enter Try.func13, Try.ntmps13
  go_wp2_with fail
  refine (conn_off N bm last n D id w h hid ha).mono ?_
  rintro e w1 ⟨rfl, hw1⟩
  have hw1 := hw1.symm
  subst hw1
  go_wp2
  go_ret3
  exact ⟨rfl, Below.refl _ _⟩
set_option maxHeartbeats 2000000 in
theorem ends_at (N bm : Nat) (last : Int) (n : Nat) (D : DataW Unit) (id : Int) (C : Nat) (p q : Int) (c : Nat → Bool) (A : Nat → Option Addr) (K : Nat → Nat) (L : Nat → List UInt8) (w : World) (h : NT w N bm last n D) (hid : (Lit.int .i64 id).wf = true) (ha : AtC D id C) (hc : Con w C p q c A K L) :
    Calls Try.prog 13 #[.pointer (some ⟨N, 0, none⟩), .int .i64 id] w fun e w' => e = .returned (.tuple #[.int .i64 p, .int .i64 q, .int .i64 0]) ∧ Below w.heap.size w w' := by
  obtain ⟨e0, e1, e2, e3, e4, e5⟩ := ConC.cells hc
  go_enter Try.func13, Try.ntmps13
  go_wp2_with fail
  refine (conn_at N bm last n D id C w h hid ha).mono ?_
  rintro e w1 ⟨rfl, hw1⟩
  have hw1 := hw1.symm
  subst hw1
  go_wp2_with fail
  go_region
  go_wp2
  go_ret3
  exact ⟨rfl, (Below.refl _ _).drew⟩

set_option maxHeartbeats 2000000 in
theorem waiting_at0 (N bm : Nat) (last : Int) (n : Nat) (D : DataW Unit) (id : Int) (C : Nat) (p q : Int) (c : Nat → Bool) (A : Nat → Option Addr) (K : Nat → Nat) (L : Nat → List UInt8) (w : World) (h : NT w N bm last n D) (hid : (Lit.int .i64 id).wf = true) (ha : AtC D id C) (hc : Con w C p q c A K L) (hpq : p ≠ q) :
    Calls Try.prog 33 #[.pointer (some ⟨N, 0, none⟩), .int .i64 id, .int .i64 p] w fun e w' => e = .returned (.tuple #[.int .i64 ((L 0).length : Int), .int .i64 0]) ∧ Below w.heap.size w w' := by
  go_enter Try.func33, Try.ntmps33
  go_wp2_with fail
  refine (find_at N bm last n D id C p q (c 0) (c 1) (A 0) (L 0).length (K 0) (A 1) (L 1).length (K 1) p 0 w h hid ha hc (by show _ = _; simp) (by omega)).mono ?_
  rintro e w1 ⟨rfl, hb⟩
  obtain ⟨e0, e1, e2, e3, e4, e5⟩ := ConC.cells (hc.below hb)
  go_wp2
  go_ret2
  exact ⟨rfl, hb⟩
set_option maxHeartbeats 2000000 in
theorem done_at0 (N bm : Nat) (last : Int) (n : Nat) (D : DataW Unit) (id : Int) (C : Nat) (p q : Int) (c : Nat → Bool) (A : Nat → Option Addr) (K : Nat → Nat) (L : Nat → List UInt8) (w : World) (h : NT w N bm last n D) (hid : (Lit.int .i64 id).wf = true) (ha : AtC D id C) (hc : Con w C p q c A K L) (hpq : p ≠ q) :
    Calls Try.prog 18 #[.pointer (some ⟨N, 0, none⟩), .int .i64 id, .int .i64 p] w fun e w' => e = .returned (.bool (c 1 && decide (L 0 = []))) ∧ Below w.heap.size w w' := by
  have hz : (((L 0).length : Int) == 0) = decide (L 0 = []) := by cases L 0 <;> simp; omega
  go_enter Try.func18, Try.ntmps18
  go_wp2_with fail
  refine (find_at N bm last n D id C p q (c 0) (c 1) (A 0) (L 0).length (K 0) (A 1) (L 1).length (K 1) p 0 w h hid ha hc (by show _ = _; simp) (by omega)).mono ?_
  rintro e w1 ⟨rfl, hb⟩
  obtain ⟨e0, e1, e2, e3, e4, e5⟩ := ConC.cells (hc.below hb)
  cases hcc : c 1 with
  | false =>
    rw [hcc] at e4
    go_wp2
    go_ret
    exact ⟨by rw [hcc]; rfl, hb⟩
  | true =>
    rw [hcc] at e4
    go_wp2
    go_ret
    exact ⟨by rw [hcc]; rfl, hb⟩

set_option maxHeartbeats 2000000 in
theorem waiting_at1 (N bm : Nat) (last : Int) (n : Nat) (D : DataW Unit) (id : Int) (C : Nat) (p q : Int) (c : Nat → Bool) (A : Nat → Option Addr) (K : Nat → Nat) (L : Nat → List UInt8) (w : World) (h : NT w N bm last n D) (hid : (Lit.int .i64 id).wf = true) (ha : AtC D id C) (hc : Con w C p q c A K L) (hpq : p ≠ q) :
    Calls Try.prog 33 #[.pointer (some ⟨N, 0, none⟩), .int .i64 id, .int .i64 q] w fun e w' => e = .returned (.tuple #[.int .i64 ((L 1).length : Int), .int .i64 0]) ∧ Below w.heap.size w w' := by
  go_enter Try.func33, Try.ntmps33
  go_wp2_with fail
  refine (find_at N bm last n D id C p q (c 0) (c 1) (A 0) (L 0).length (K 0) (A 1) (L 1).length (K 1) q 1 w h hid ha hc (by show _ = _; rw [if_neg hpq, if_pos rfl]) (by omega)).mono ?_
  rintro e w1 ⟨rfl, hb⟩
  obtain ⟨e0, e1, e2, e3, e4, e5⟩ := ConC.cells (hc.below hb)
  go_wp2
  go_ret2
  exact ⟨rfl, hb⟩
set_option maxHeartbeats 2000000 in
theorem done_at1 (N bm : Nat) (last : Int) (n : Nat) (D : DataW Unit) (id : Int) (C : Nat) (p q : Int) (c : Nat → Bool) (A : Nat → Option Addr) (K : Nat → Nat) (L : Nat → List UInt8) (w : World) (h : NT w N bm last n D) (hid : (Lit.int .i64 id).wf = true) (ha : AtC D id C) (hc : Con w C p q c A K L) (hpq : p ≠ q) :
    Calls Try.prog 18 #[.pointer (some ⟨N, 0, none⟩), .int .i64 id, .int .i64 q] w fun e w' => e = .returned (.bool (c 0 && decide (L 1 = []))) ∧ Below w.heap.size w w' := by
  have hz : (((L 1).length : Int) == 0) = decide (L 1 = []) := by cases L 1 <;> simp; omega
  go_enter Try.func18, Try.ntmps18
  go_wp2_with fail
  refine (find_at N bm last n D id C p q (c 0) (c 1) (A 0) (L 0).length (K 0) (A 1) (L 1).length (K 1) q 1 w h hid ha hc (by show _ = _; rw [if_neg hpq, if_pos rfl]) (by omega)).mono ?_
  rintro e w1 ⟨rfl, hb⟩
  obtain ⟨e0, e1, e2, e3, e4, e5⟩ := ConC.cells (hc.below hb)
  cases hcc : c 0 with
  | false =>
    rw [hcc] at e1
    go_wp2
    go_ret
    exact ⟨by rw [hcc]; rfl, hb⟩
  | true =>
    rw [hcc] at e1
    go_wp2
    go_ret
    exact ⟨by rw [hcc]; rfl, hb⟩
#print axioms done_at1
#print axioms ends_at
end Go.Proofs.Ytohlmfiicfoimaa
