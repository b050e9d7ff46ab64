/-
  jsonx: utf8.FullRuneInString of fewer bytes than there must be.
-/
import Derived.Test.YtbnbngmnoffmkaaGreatDoorPkJetsaf
section
set_option linter.unusedVariables false
set_option maxRecDepth 1000000
namespace Go.Proofs.YtbnbngmnoffmkaaGreatDoor
open Go.RowKit Go.Lib

/-- What is told of a text that is too short: the tables at its first byte. -/
structure FuS (w : World) (a : UInt8) (X S I lo hi : Nat) : Prop where
  x : w.cell? ⟨2, a.toNat, none⟩ = some (.int .u8 (X : Int))
  cl : Cls X S I lo hi
  lo : w.cell? ⟨3, I * 2, none⟩ = some (.int .u8 (lo : Int))
  hi : w.cell? ⟨3, I * 2 + 1, none⟩ = some (.int .u8 (hi : Int))
theorem FuS.nums {w : World} {a : UInt8} {X S I lo hi : Nat} (h : FuS w a X S I lo hi) : bits .and .u8 (X : Int) 7 = (S : Int) ∧ (X : Int) / 16 = (I : Int) ∧ I < 5 ∧ X < 256 ∧ 128 ≤ lo ∧ hi ≤ 191 ∧ 2 ≤ S ∧ S ≤ 4 := by
  rcases h.cl with ⟨rfl, rfl, rfl, rfl, rfl⟩ | ⟨rfl, rfl, rfl, rfl, rfl⟩ | ⟨rfl, rfl, rfl, rfl, rfl⟩ | ⟨rfl, rfl, rfl, rfl, rfl⟩ | ⟨rfl, rfl, rfl, rfl, rfl⟩ | ⟨rfl, rfl, rfl, rfl, rfl⟩ | ⟨rfl, rfl, rfl, rfl, rfl⟩ <;> exact ⟨by decide, by decide, by decide, by decide, by decide, by decide, by decide, by decide⟩
theorem z1 {S : Nat} (h : 2 ≤ S) : ¬ (S : Int) ≤ 1 := by omega
theorem z2 {S : Nat} (h : 2 < S) : ¬ (S : Int) ≤ 2 := by omega
theorem z3 {S : Nat} (h : 3 < S) : ¬ (S : Int) ≤ 3 := by omega
theorem zlt {a b : Nat} (h : a < b) : (a : Int) < (b : Int) := by omega
theorem znl {a b : Nat} (h : b ≤ a) : ¬ (a : Int) < (b : Int) := by omega
theorem z128 {a : Nat} (h : 128 ≤ a) : ¬ (a : Int) < 128 := by omega
theorem y128 {a : Nat} (h : a < 128) : (a : Int) < 128 := by omega
theorem z191 {a : Nat} (h : a ≤ 191) : ¬ (191 : Int) < (a : Int) := by omega
theorem y191 {a : Nat} (h : 191 < a) : (191 : Int) < (a : Int) := by omega
theorem zw {S : Nat} (h : S ≤ 4) : wrap64 (S : Int) = (S : Int) := by unfold wrap64; omega
set_option maxHeartbeats 4000000 in
theorem full_one (a : UInt8) (w : World) (X S I lo hi : Nat) (h : FuS w a X S I lo hi) :
    Calls Tryz.prog 113 #[.string (str [a])] w fun e w' => e = .returned (.bool false) ∧ Hid (Below w.heap.size w w') := by
  have hsz : (str [a]).size = 1 := rfl
  have hi0 : ∀ w, (Instr.index 9 (.string (str [a])) (.int .i64 0)).run Tryz.prog w = .ok (.int .u8 (a.toNat : Int)) w := fun w => run_ix4 w [a] 0 a rfl
  have hv0 := a.toNat_lt
  have hX := h.x
  obtain ⟨n1, n2, n3, n4, n5, n6, n7, n8⟩ := h.nums
  have hL := h.lo
  have hH := h.hi
  have hw : wrap64 (S : Int) = (S : Int) := zw n8
  have hS' : ¬ (S : Int) ≤ 1 := z1 n7
  obtain ⟨W, hW⟩ : ∃ W, W = w.alloc (.cells #[.int .u8 (lo : Int), .int .u8 (hi : Int)] 168) := ⟨_, rfl⟩
  have HB : Hid (Below w.heap.size w W) := by rw [hW]; exact (Below.refl w.heap.size w).alloc (Nat.le_refl _) _
  obtain ⟨A, hA⟩ : ∃ A, A = w.heap.size := ⟨_, rfl⟩
  have hr1 : W.heap[A]? = some (.cells #[.int .u8 (lo : Int), .int .u8 (hi : Int)] 168 (0, 0)) := by rw [hW, hA]; exact heap_alloc_new _ _
  have d1 : W.cell? ⟨A, 0, none⟩ = some (.int .u8 (lo : Int)) := cell_of_row _ _ _ _ _ _ hr1
  have d2 : W.cell? ⟨A, 1, none⟩ = some (.int .u8 (hi : Int)) := cell_of_row _ _ _ _ _ _ hr1
  generalize str [a] = s at *
  clear h hr1
  go_enter Tryz.func113, Tryz.ntmps113
  go_upto_region 8 with fail
  rw [← hW, ← hA]
  clear hW hA
  go_quiet (fail)
  go_wp2_with fail
  go_ret
  exact ⟨rfl, bdj (unhide HB) nq⟩
#print axioms full_one
set_option maxHeartbeats 4000000 in
theorem full_2lo (a b : UInt8) (w : World) (X S I lo hi : Nat) (h : FuS w a X S I lo hi) (hS : 2 < S) (hb : b.toNat < lo) :
    Calls Tryz.prog 113 #[.string (str [a, b])] w fun e w' => e = .returned (.bool true) ∧ Hid (Below w.heap.size w w') := by
  have hsz : (str [a, b]).size = 2 := rfl
  have hi0 : ∀ w, (Instr.index 9 (.string (str [a, b])) (.int .i64 0)).run Tryz.prog w = .ok (.int .u8 (a.toNat : Int)) w := fun w => run_ix4 w [a, b] 0 a rfl
  have hv0 := a.toNat_lt
  have hi1 : ∀ w, (Instr.index 9 (.string (str [a, b])) (.int .i64 1)).run Tryz.prog w = .ok (.int .u8 (b.toNat : Int)) w := fun w => run_ix4 w [a, b] 1 b rfl
  have hv1 := b.toNat_lt
  have hX := h.x
  obtain ⟨n1, n2, n3, n4, n5, n6, n7, n8⟩ := h.nums
  have hL := h.lo
  have hH := h.hi
  have hw : wrap64 (S : Int) = (S : Int) := zw n8
  have hS' : ¬ (S : Int) ≤ 2 := z2 hS
  have g1 : (b.toNat : Int) < (lo : Int) := zlt hb
  obtain ⟨W, hW⟩ : ∃ W, W = w.alloc (.cells #[.int .u8 (lo : Int), .int .u8 (hi : Int)] 168) := ⟨_, rfl⟩
  have HB : Hid (Below w.heap.size w W) := by rw [hW]; exact (Below.refl w.heap.size w).alloc (Nat.le_refl _) _
  obtain ⟨A, hA⟩ : ∃ A, A = w.heap.size := ⟨_, rfl⟩
  have hr1 : W.heap[A]? = some (.cells #[.int .u8 (lo : Int), .int .u8 (hi : Int)] 168 (0, 0)) := by rw [hW, hA]; exact heap_alloc_new _ _
  have d1 : W.cell? ⟨A, 0, none⟩ = some (.int .u8 (lo : Int)) := cell_of_row _ _ _ _ _ _ hr1
  have d2 : W.cell? ⟨A, 1, none⟩ = some (.int .u8 (hi : Int)) := cell_of_row _ _ _ _ _ _ hr1
  generalize str [a, b] = s at *
  clear h hr1
  go_enter Tryz.func113, Tryz.ntmps113
  go_upto_region 8 with fail
  rw [← hW, ← hA]
  clear hW hA
  go_quiet (fail)
  go_wp2_with fail
  go_ret
  exact ⟨rfl, bdj (unhide HB) nq⟩
#print axioms full_2lo
set_option maxHeartbeats 4000000 in
theorem full_2hi (a b : UInt8) (w : World) (X S I lo hi : Nat) (h : FuS w a X S I lo hi) (hS : 2 < S) (hb : lo ≤ b.toNat) (hc : hi < b.toNat) :
    Calls Tryz.prog 113 #[.string (str [a, b])] w fun e w' => e = .returned (.bool true) ∧ Hid (Below w.heap.size w w') := by
  have hsz : (str [a, b]).size = 2 := rfl
  have hi0 : ∀ w, (Instr.index 9 (.string (str [a, b])) (.int .i64 0)).run Tryz.prog w = .ok (.int .u8 (a.toNat : Int)) w := fun w => run_ix4 w [a, b] 0 a rfl
  have hv0 := a.toNat_lt
  have hi1 : ∀ w, (Instr.index 9 (.string (str [a, b])) (.int .i64 1)).run Tryz.prog w = .ok (.int .u8 (b.toNat : Int)) w := fun w => run_ix4 w [a, b] 1 b rfl
  have hv1 := b.toNat_lt
  have hX := h.x
  obtain ⟨n1, n2, n3, n4, n5, n6, n7, n8⟩ := h.nums
  have hL := h.lo
  have hH := h.hi
  have hw : wrap64 (S : Int) = (S : Int) := zw n8
  have hS' : ¬ (S : Int) ≤ 2 := z2 hS
  have g1 : ¬ (b.toNat : Int) < (lo : Int) := znl hb
  have g2 : (hi : Int) < (b.toNat : Int) := zlt hc
  obtain ⟨W, hW⟩ : ∃ W, W = w.alloc (.cells #[.int .u8 (lo : Int), .int .u8 (hi : Int)] 168) := ⟨_, rfl⟩
  have HB : Hid (Below w.heap.size w W) := by rw [hW]; exact (Below.refl w.heap.size w).alloc (Nat.le_refl _) _
  obtain ⟨A, hA⟩ : ∃ A, A = w.heap.size := ⟨_, rfl⟩
  have hr1 : W.heap[A]? = some (.cells #[.int .u8 (lo : Int), .int .u8 (hi : Int)] 168 (0, 0)) := by rw [hW, hA]; exact heap_alloc_new _ _
  have d1 : W.cell? ⟨A, 0, none⟩ = some (.int .u8 (lo : Int)) := cell_of_row _ _ _ _ _ _ hr1
  have d2 : W.cell? ⟨A, 1, none⟩ = some (.int .u8 (hi : Int)) := cell_of_row _ _ _ _ _ _ hr1
  generalize str [a, b] = s at *
  clear h hr1
  go_enter Tryz.func113, Tryz.ntmps113
  go_upto_region 8 with fail
  rw [← hW, ← hA]
  clear hW hA
  go_quiet (fail)
  go_wp2_with fail
  go_ret
  exact ⟨rfl, bdj (unhide HB) nq⟩
#print axioms full_2hi
set_option maxHeartbeats 4000000 in
theorem full_2in (a b : UInt8) (w : World) (X S I lo hi : Nat) (h : FuS w a X S I lo hi) (hS : 2 < S) (hb : lo ≤ b.toNat) (hc : b.toNat ≤ hi) :
    Calls Tryz.prog 113 #[.string (str [a, b])] w fun e w' => e = .returned (.bool false) ∧ Hid (Below w.heap.size w w') := by
  have hsz : (str [a, b]).size = 2 := rfl
  have hi0 : ∀ w, (Instr.index 9 (.string (str [a, b])) (.int .i64 0)).run Tryz.prog w = .ok (.int .u8 (a.toNat : Int)) w := fun w => run_ix4 w [a, b] 0 a rfl
  have hv0 := a.toNat_lt
  have hi1 : ∀ w, (Instr.index 9 (.string (str [a, b])) (.int .i64 1)).run Tryz.prog w = .ok (.int .u8 (b.toNat : Int)) w := fun w => run_ix4 w [a, b] 1 b rfl
  have hv1 := b.toNat_lt
  have hX := h.x
  obtain ⟨n1, n2, n3, n4, n5, n6, n7, n8⟩ := h.nums
  have hL := h.lo
  have hH := h.hi
  have hw : wrap64 (S : Int) = (S : Int) := zw n8
  have hS' : ¬ (S : Int) ≤ 2 := z2 hS
  have g1 : ¬ (b.toNat : Int) < (lo : Int) := znl hb
  have g2 : ¬ (hi : Int) < (b.toNat : Int) := znl hc
  obtain ⟨W, hW⟩ : ∃ W, W = w.alloc (.cells #[.int .u8 (lo : Int), .int .u8 (hi : Int)] 168) := ⟨_, rfl⟩
  have HB : Hid (Below w.heap.size w W) := by rw [hW]; exact (Below.refl w.heap.size w).alloc (Nat.le_refl _) _
  obtain ⟨A, hA⟩ : ∃ A, A = w.heap.size := ⟨_, rfl⟩
  have hr1 : W.heap[A]? = some (.cells #[.int .u8 (lo : Int), .int .u8 (hi : Int)] 168 (0, 0)) := by rw [hW, hA]; exact heap_alloc_new _ _
  have d1 : W.cell? ⟨A, 0, none⟩ = some (.int .u8 (lo : Int)) := cell_of_row _ _ _ _ _ _ hr1
  have d2 : W.cell? ⟨A, 1, none⟩ = some (.int .u8 (hi : Int)) := cell_of_row _ _ _ _ _ _ hr1
  generalize str [a, b] = s at *
  clear h hr1
  go_enter Tryz.func113, Tryz.ntmps113
  go_upto_region 8 with fail
  rw [← hW, ← hA]
  clear hW hA
  go_quiet (fail)
  go_wp2_with fail
  go_ret
  exact ⟨rfl, bdj (unhide HB) nq⟩
#print axioms full_2in
set_option maxHeartbeats 4000000 in
theorem full_3lo (a b c : UInt8) (w : World) (X S I lo hi : Nat) (h : FuS w a X S I lo hi) (hS : 3 < S) (hb : b.toNat < lo) :
    Calls Tryz.prog 113 #[.string (str [a, b, c])] w fun e w' => e = .returned (.bool true) ∧ Hid (Below w.heap.size w w') := by
  have hsz : (str [a, b, c]).size = 3 := rfl
  have hi0 : ∀ w, (Instr.index 9 (.string (str [a, b, c])) (.int .i64 0)).run Tryz.prog w = .ok (.int .u8 (a.toNat : Int)) w := fun w => run_ix4 w [a, b, c] 0 a rfl
  have hv0 := a.toNat_lt
  have hi1 : ∀ w, (Instr.index 9 (.string (str [a, b, c])) (.int .i64 1)).run Tryz.prog w = .ok (.int .u8 (b.toNat : Int)) w := fun w => run_ix4 w [a, b, c] 1 b rfl
  have hv1 := b.toNat_lt
  have hi2 : ∀ w, (Instr.index 9 (.string (str [a, b, c])) (.int .i64 2)).run Tryz.prog w = .ok (.int .u8 (c.toNat : Int)) w := fun w => run_ix4 w [a, b, c] 2 c rfl
  have hv2 := c.toNat_lt
  have hX := h.x
  obtain ⟨n1, n2, n3, n4, n5, n6, n7, n8⟩ := h.nums
  have hL := h.lo
  have hH := h.hi
  have hw : wrap64 (S : Int) = (S : Int) := zw n8
  have hS' : ¬ (S : Int) ≤ 3 := z3 hS
  have g1 : (b.toNat : Int) < (lo : Int) := zlt hb
  obtain ⟨W, hW⟩ : ∃ W, W = w.alloc (.cells #[.int .u8 (lo : Int), .int .u8 (hi : Int)] 168) := ⟨_, rfl⟩
  have HB : Hid (Below w.heap.size w W) := by rw [hW]; exact (Below.refl w.heap.size w).alloc (Nat.le_refl _) _
  obtain ⟨A, hA⟩ : ∃ A, A = w.heap.size := ⟨_, rfl⟩
  have hr1 : W.heap[A]? = some (.cells #[.int .u8 (lo : Int), .int .u8 (hi : Int)] 168 (0, 0)) := by rw [hW, hA]; exact heap_alloc_new _ _
  have d1 : W.cell? ⟨A, 0, none⟩ = some (.int .u8 (lo : Int)) := cell_of_row _ _ _ _ _ _ hr1
  have d2 : W.cell? ⟨A, 1, none⟩ = some (.int .u8 (hi : Int)) := cell_of_row _ _ _ _ _ _ hr1
  generalize str [a, b, c] = s at *
  clear h hr1
  go_enter Tryz.func113, Tryz.ntmps113
  go_upto_region 8 with fail
  rw [← hW, ← hA]
  clear hW hA
  go_quiet (fail)
  go_wp2_with fail
  go_ret
  exact ⟨rfl, bdj (unhide HB) nq⟩
#print axioms full_3lo
set_option maxHeartbeats 4000000 in
theorem full_3hi (a b c : UInt8) (w : World) (X S I lo hi : Nat) (h : FuS w a X S I lo hi) (hS : 3 < S) (hb : lo ≤ b.toNat) (hc : hi < b.toNat) :
    Calls Tryz.prog 113 #[.string (str [a, b, c])] w fun e w' => e = .returned (.bool true) ∧ Hid (Below w.heap.size w w') := by
  have hsz : (str [a, b, c]).size = 3 := rfl
  have hi0 : ∀ w, (Instr.index 9 (.string (str [a, b, c])) (.int .i64 0)).run Tryz.prog w = .ok (.int .u8 (a.toNat : Int)) w := fun w => run_ix4 w [a, b, c] 0 a rfl
  have hv0 := a.toNat_lt
  have hi1 : ∀ w, (Instr.index 9 (.string (str [a, b, c])) (.int .i64 1)).run Tryz.prog w = .ok (.int .u8 (b.toNat : Int)) w := fun w => run_ix4 w [a, b, c] 1 b rfl
  have hv1 := b.toNat_lt
  have hi2 : ∀ w, (Instr.index 9 (.string (str [a, b, c])) (.int .i64 2)).run Tryz.prog w = .ok (.int .u8 (c.toNat : Int)) w := fun w => run_ix4 w [a, b, c] 2 c rfl
  have hv2 := c.toNat_lt
  have hX := h.x
  obtain ⟨n1, n2, n3, n4, n5, n6, n7, n8⟩ := h.nums
  have hL := h.lo
  have hH := h.hi
  have hw : wrap64 (S : Int) = (S : Int) := zw n8
  have hS' : ¬ (S : Int) ≤ 3 := z3 hS
  have g1 : ¬ (b.toNat : Int) < (lo : Int) := znl hb
  have g2 : (hi : Int) < (b.toNat : Int) := zlt hc
  obtain ⟨W, hW⟩ : ∃ W, W = w.alloc (.cells #[.int .u8 (lo : Int), .int .u8 (hi : Int)] 168) := ⟨_, rfl⟩
  have HB : Hid (Below w.heap.size w W) := by rw [hW]; exact (Below.refl w.heap.size w).alloc (Nat.le_refl _) _
  obtain ⟨A, hA⟩ : ∃ A, A = w.heap.size := ⟨_, rfl⟩
  have hr1 : W.heap[A]? = some (.cells #[.int .u8 (lo : Int), .int .u8 (hi : Int)] 168 (0, 0)) := by rw [hW, hA]; exact heap_alloc_new _ _
  have d1 : W.cell? ⟨A, 0, none⟩ = some (.int .u8 (lo : Int)) := cell_of_row _ _ _ _ _ _ hr1
  have d2 : W.cell? ⟨A, 1, none⟩ = some (.int .u8 (hi : Int)) := cell_of_row _ _ _ _ _ _ hr1
  generalize str [a, b, c] = s at *
  clear h hr1
  go_enter Tryz.func113, Tryz.ntmps113
  go_upto_region 8 with fail
  rw [← hW, ← hA]
  clear hW hA
  go_quiet (fail)
  go_wp2_with fail
  go_ret
  exact ⟨rfl, bdj (unhide HB) nq⟩
#print axioms full_3hi
set_option maxHeartbeats 4000000 in
theorem full_3a (a b c : UInt8) (w : World) (X S I lo hi : Nat) (h : FuS w a X S I lo hi) (hS : 3 < S) (hb : lo ≤ b.toNat) (hc : b.toNat ≤ hi) (hd : c.toNat < 128) :
    Calls Tryz.prog 113 #[.string (str [a, b, c])] w fun e w' => e = .returned (.bool true) ∧ Hid (Below w.heap.size w w') := by
  have hsz : (str [a, b, c]).size = 3 := rfl
  have hi0 : ∀ w, (Instr.index 9 (.string (str [a, b, c])) (.int .i64 0)).run Tryz.prog w = .ok (.int .u8 (a.toNat : Int)) w := fun w => run_ix4 w [a, b, c] 0 a rfl
  have hv0 := a.toNat_lt
  have hi1 : ∀ w, (Instr.index 9 (.string (str [a, b, c])) (.int .i64 1)).run Tryz.prog w = .ok (.int .u8 (b.toNat : Int)) w := fun w => run_ix4 w [a, b, c] 1 b rfl
  have hv1 := b.toNat_lt
  have hi2 : ∀ w, (Instr.index 9 (.string (str [a, b, c])) (.int .i64 2)).run Tryz.prog w = .ok (.int .u8 (c.toNat : Int)) w := fun w => run_ix4 w [a, b, c] 2 c rfl
  have hv2 := c.toNat_lt
  have hX := h.x
  obtain ⟨n1, n2, n3, n4, n5, n6, n7, n8⟩ := h.nums
  have hL := h.lo
  have hH := h.hi
  have hw : wrap64 (S : Int) = (S : Int) := zw n8
  have hS' : ¬ (S : Int) ≤ 3 := z3 hS
  have g1 : ¬ (b.toNat : Int) < (lo : Int) := znl hb
  have g2 : ¬ (hi : Int) < (b.toNat : Int) := znl hc
  have g3 : (c.toNat : Int) < 128 := y128 hd
  obtain ⟨W, hW⟩ : ∃ W, W = w.alloc (.cells #[.int .u8 (lo : Int), .int .u8 (hi : Int)] 168) := ⟨_, rfl⟩
  have HB : Hid (Below w.heap.size w W) := by rw [hW]; exact (Below.refl w.heap.size w).alloc (Nat.le_refl _) _
  obtain ⟨A, hA⟩ : ∃ A, A = w.heap.size := ⟨_, rfl⟩
  have hr1 : W.heap[A]? = some (.cells #[.int .u8 (lo : Int), .int .u8 (hi : Int)] 168 (0, 0)) := by rw [hW, hA]; exact heap_alloc_new _ _
  have d1 : W.cell? ⟨A, 0, none⟩ = some (.int .u8 (lo : Int)) := cell_of_row _ _ _ _ _ _ hr1
  have d2 : W.cell? ⟨A, 1, none⟩ = some (.int .u8 (hi : Int)) := cell_of_row _ _ _ _ _ _ hr1
  generalize str [a, b, c] = s at *
  clear h hr1
  go_enter Tryz.func113, Tryz.ntmps113
  go_upto_region 8 with fail
  rw [← hW, ← hA]
  clear hW hA
  go_quiet (fail)
  go_wp2_with fail
  go_ret
  exact ⟨rfl, bdj (unhide HB) nq⟩
#print axioms full_3a
set_option maxHeartbeats 4000000 in
theorem full_3b (a b c : UInt8) (w : World) (X S I lo hi : Nat) (h : FuS w a X S I lo hi) (hS : 3 < S) (hb : lo ≤ b.toNat) (hc : b.toNat ≤ hi) (hd : 191 < c.toNat) :
    Calls Tryz.prog 113 #[.string (str [a, b, c])] w fun e w' => e = .returned (.bool true) ∧ Hid (Below w.heap.size w w') := by
  have hsz : (str [a, b, c]).size = 3 := rfl
  have hi0 : ∀ w, (Instr.index 9 (.string (str [a, b, c])) (.int .i64 0)).run Tryz.prog w = .ok (.int .u8 (a.toNat : Int)) w := fun w => run_ix4 w [a, b, c] 0 a rfl
  have hv0 := a.toNat_lt
  have hi1 : ∀ w, (Instr.index 9 (.string (str [a, b, c])) (.int .i64 1)).run Tryz.prog w = .ok (.int .u8 (b.toNat : Int)) w := fun w => run_ix4 w [a, b, c] 1 b rfl
  have hv1 := b.toNat_lt
  have hi2 : ∀ w, (Instr.index 9 (.string (str [a, b, c])) (.int .i64 2)).run Tryz.prog w = .ok (.int .u8 (c.toNat : Int)) w := fun w => run_ix4 w [a, b, c] 2 c rfl
  have hv2 := c.toNat_lt
  have hX := h.x
  obtain ⟨n1, n2, n3, n4, n5, n6, n7, n8⟩ := h.nums
  have hL := h.lo
  have hH := h.hi
  have hw : wrap64 (S : Int) = (S : Int) := zw n8
  have hS' : ¬ (S : Int) ≤ 3 := z3 hS
  have g1 : ¬ (b.toNat : Int) < (lo : Int) := znl hb
  have g2 : ¬ (hi : Int) < (b.toNat : Int) := znl hc
  have g3 : ¬ (c.toNat : Int) < 128 := z128 (Nat.le_trans (by decide) (Nat.le_of_lt hd))
  have g4 : (191 : Int) < (c.toNat : Int) := y191 hd
  obtain ⟨W, hW⟩ : ∃ W, W = w.alloc (.cells #[.int .u8 (lo : Int), .int .u8 (hi : Int)] 168) := ⟨_, rfl⟩
  have HB : Hid (Below w.heap.size w W) := by rw [hW]; exact (Below.refl w.heap.size w).alloc (Nat.le_refl _) _
  obtain ⟨A, hA⟩ : ∃ A, A = w.heap.size := ⟨_, rfl⟩
  have hr1 : W.heap[A]? = some (.cells #[.int .u8 (lo : Int), .int .u8 (hi : Int)] 168 (0, 0)) := by rw [hW, hA]; exact heap_alloc_new _ _
  have d1 : W.cell? ⟨A, 0, none⟩ = some (.int .u8 (lo : Int)) := cell_of_row _ _ _ _ _ _ hr1
  have d2 : W.cell? ⟨A, 1, none⟩ = some (.int .u8 (hi : Int)) := cell_of_row _ _ _ _ _ _ hr1
  generalize str [a, b, c] = s at *
  clear h hr1
  go_enter Tryz.func113, Tryz.ntmps113
  go_upto_region 8 with fail
  rw [← hW, ← hA]
  clear hW hA
  go_quiet (fail)
  go_wp2_with fail
  go_ret
  exact ⟨rfl, bdj (unhide HB) nq⟩
#print axioms full_3b
set_option maxHeartbeats 4000000 in
theorem full_3c (a b c : UInt8) (w : World) (X S I lo hi : Nat) (h : FuS w a X S I lo hi) (hS : 3 < S) (hb : lo ≤ b.toNat) (hc : b.toNat ≤ hi) (hd : 128 ≤ c.toNat) (he : c.toNat ≤ 191) :
    Calls Tryz.prog 113 #[.string (str [a, b, c])] w fun e w' => e = .returned (.bool false) ∧ Hid (Below w.heap.size w w') := by
  have hsz : (str [a, b, c]).size = 3 := rfl
  have hi0 : ∀ w, (Instr.index 9 (.string (str [a, b, c])) (.int .i64 0)).run Tryz.prog w = .ok (.int .u8 (a.toNat : Int)) w := fun w => run_ix4 w [a, b, c] 0 a rfl
  have hv0 := a.toNat_lt
  have hi1 : ∀ w, (Instr.index 9 (.string (str [a, b, c])) (.int .i64 1)).run Tryz.prog w = .ok (.int .u8 (b.toNat : Int)) w := fun w => run_ix4 w [a, b, c] 1 b rfl
  have hv1 := b.toNat_lt
  have hi2 : ∀ w, (Instr.index 9 (.string (str [a, b, c])) (.int .i64 2)).run Tryz.prog w = .ok (.int .u8 (c.toNat : Int)) w := fun w => run_ix4 w [a, b, c] 2 c rfl
  have hv2 := c.toNat_lt
  have hX := h.x
  obtain ⟨n1, n2, n3, n4, n5, n6, n7, n8⟩ := h.nums
  have hL := h.lo
  have hH := h.hi
  have hw : wrap64 (S : Int) = (S : Int) := zw n8
  have hS' : ¬ (S : Int) ≤ 3 := z3 hS
  have g1 : ¬ (b.toNat : Int) < (lo : Int) := znl hb
  have g2 : ¬ (hi : Int) < (b.toNat : Int) := znl hc
  have g3 : ¬ (c.toNat : Int) < 128 := z128 hd
  have g4 : ¬ (191 : Int) < (c.toNat : Int) := z191 he
  obtain ⟨W, hW⟩ : ∃ W, W = w.alloc (.cells #[.int .u8 (lo : Int), .int .u8 (hi : Int)] 168) := ⟨_, rfl⟩
  have HB : Hid (Below w.heap.size w W) := by rw [hW]; exact (Below.refl w.heap.size w).alloc (Nat.le_refl _) _
  obtain ⟨A, hA⟩ : ∃ A, A = w.heap.size := ⟨_, rfl⟩
  have hr1 : W.heap[A]? = some (.cells #[.int .u8 (lo : Int), .int .u8 (hi : Int)] 168 (0, 0)) := by rw [hW, hA]; exact heap_alloc_new _ _
  have d1 : W.cell? ⟨A, 0, none⟩ = some (.int .u8 (lo : Int)) := cell_of_row _ _ _ _ _ _ hr1
  have d2 : W.cell? ⟨A, 1, none⟩ = some (.int .u8 (hi : Int)) := cell_of_row _ _ _ _ _ _ hr1
  generalize str [a, b, c] = s at *
  clear h hr1
  go_enter Tryz.func113, Tryz.ntmps113
  go_upto_region 8 with fail
  rw [← hW, ← hA]
  clear hW hA
  go_quiet (fail)
  go_wp2_with fail
  go_ret
  exact ⟨rfl, bdj (unhide HB) nq⟩
#print axioms full_3c
theorem full4 (l : List UInt8) (w : World) (hT : Tb4 w) (hne : l ≠ []) (hl : l.length ≤ 65536) :
    Calls Tryz.prog 113 #[.string (str l)] w fun e w' => e = .returned (.bool (fuB l)) ∧ Hid (Below w.heap.size w w') := by
  match l, hne with
  | a :: r, _ =>
    have hX := hT.1 a.toNat a.toNat_lt
    rcases fu_cls a r with ⟨hf, hx⟩ | ⟨S, I, lo, hi, hc, hf⟩
    · rw [hf]
      rcases hx with hx | hx
      · rw [hx] at hX; exact full_long a r w 240 0 hX (.inl ⟨rfl, rfl⟩) (Nat.zero_le _) hl
      · rw [hx] at hX; exact full_long a r w 241 1 hX (.inr (.inl ⟨rfl, rfl⟩)) (by simp) hl
    · rw [hf]
      obtain ⟨X, hXe⟩ : ∃ X, firstT a.toNat = X := ⟨_, rfl⟩
      rw [hXe] at hX hc
      have hI : I < 5 ∧ accLo I = lo ∧ accHi I = hi := by
        rcases hc with ⟨_, _, rfl, rfl, rfl⟩ | ⟨_, _, rfl, rfl, rfl⟩ | ⟨_, _, rfl, rfl, rfl⟩ | ⟨_, _, rfl, rfl, rfl⟩ | ⟨_, _, rfl, rfl, rfl⟩ | ⟨_, _, rfl, rfl, rfl⟩ | ⟨_, _, rfl, rfl, rfl⟩ <;> exact ⟨by decide, by decide, by decide⟩
      have hacc := hT.2 I (by omega)
      rw [hI.2.1, hI.2.2, Nat.mul_comm] at hacc
      have hF : FuS w a X S I lo hi := ⟨hX, hc, hacc.1, hacc.2⟩
      obtain ⟨_, _, _, _, _, _, hS2, hS4⟩ := hF.nums
      by_cases hlong : S ≤ (a :: r).length
      · have e : fuC S lo hi (a :: r) = true := by unfold fuC; rw [if_pos hlong]
        rw [e]
        refine full_long a r w X S hX ?_ hlong hl
        rcases hc with ⟨rfl, rfl, _⟩ | ⟨rfl, rfl, _⟩ | ⟨rfl, rfl, _⟩ | ⟨rfl, rfl, _⟩ | ⟨rfl, rfl, _⟩ | ⟨rfl, rfl, _⟩ | ⟨rfl, rfl, _⟩ <;> simp
      · have e : fuC S lo hi (a :: r) = match a :: r with | _ :: b :: r => (if b.toNat < lo ∨ hi < b.toNat then true else (match r with | [] => false | c :: _ => decide (c.toNat < 128 ∨ 191 < c.toNat))) | _ => false := by unfold fuC; rw [if_neg hlong]; rfl
        rw [e]
        match r, hlong, hl with
        | [], _, _ => exact full_one a w X S I lo hi hF
        | [b], hlong, _ =>
          have hS : 2 < S := by simp at hlong; omega
          by_cases h1 : b.toNat < lo
          · simp only [h1, true_or, if_true]; exact full_2lo a b w X S I lo hi hF hS h1
          by_cases h2 : hi < b.toNat
          · simp only [h2, or_true, if_true]; exact full_2hi a b w X S I lo hi hF hS (by omega) h2
          · simp only [h1, h2, or_self, if_false]; exact full_2in a b w X S I lo hi hF hS (by omega) (by omega)
        | [b, c], hlong, _ =>
          have hS : 3 < S := by simp at hlong; omega
          by_cases h1 : b.toNat < lo
          · simp only [h1, true_or, if_true]; exact full_3lo a b c w X S I lo hi hF hS h1
          by_cases h2 : hi < b.toNat
          · simp only [h2, or_true, if_true]; exact full_3hi a b c w X S I lo hi hF hS (by omega) h2
          · simp only [h1, h2, or_self, if_false]
            by_cases h3 : c.toNat < 128
            · rw [decide_eq_true (Or.inl h3)]; exact full_3a a b c w X S I lo hi hF hS (by omega) (by omega) h3
            by_cases h4 : 191 < c.toNat
            · rw [decide_eq_true (Or.inr h4)]; exact full_3b a b c w X S I lo hi hF hS (by omega) (by omega) h4
            · rw [decide_eq_false (by omega)]; exact full_3c a b c w X S I lo hi hF hS (by omega) (by omega) (by omega) (by omega)
        | b :: c :: e :: r, hlong, _ => simp at hlong; omega
#print axioms full4
end Go.Proofs.YtbnbngmnoffmkaaGreatDoor
end
