/-
  link, the document's own net: what is refused; Close.
-/
import Derived.Test.YtohlmfiicfoimaaLrD
set_option linter.unusedVariables false
namespace Go.Proofs.Ytohlmfiicfoimaa
open Go.RowKit Go.Maps

set_option maxHeartbeats 2000000 in
theorem rsend_none {w : World} {g : Nat → Tag} {X base : Nat} {M : Nm} {R : Nat → Rg} {T : Nat} {la : Option Addr} {lc : Nat} (h : RNL w g X base M R T la lc) (hM : Mok M) (hT : T ≤ 120000000) (id node : Int) (a : Option Addr) (cap : Nat) (lb : List UInt8) (hg : M.get id = none) :
    Calls Try.prog 25 #[.pointer (some ⟨X, 0, none⟩), .int .i64 id, .int .i64 node, .slice a lb.length cap] w fun e w' => e = .returned (.int .i64 30) ∧ w' = w := by
  have HG := hide hg
  have HH := hide h
  have hn : M.cs.length ≤ 1000000 := Nat.le_trans hM.few (by omega)
  clear hg h
  go_enter Try.func25, Try.ntmps25
  go_wp2_with fail
  refine (rfind_none (unhide HH) hn (unhide HG)).mono ?_
  rintro e w1 ⟨rfl, hw1⟩
  have hw1 := hw1.symm
  subst hw1
  go_wp2
  go_ret
  exact ⟨rfl, rfl⟩

set_option maxHeartbeats 2000000 in
theorem rcarry_none {w : World} {g : Nat → Tag} {X base : Nat} {M : Nm} {R : Nat → Rg} {T : Nat} {la : Option Addr} {lc : Nat} (h : RNL w g X base M R T la lc) (hM : Mok M) (hT : T ≤ 120000000) (id node m : Int) (hg : M.get id = none) :
    Calls Try.prog 26 #[.pointer (some ⟨X, 0, none⟩), .int .i64 id, .int .i64 node, .int .i64 m] w fun e w' => e = .returned (.tuple #[.slice none 0 0, .int .i64 30]) ∧ w' = w := by
  have HG := hide hg
  have HH := hide h
  have hn : M.cs.length ≤ 1000000 := Nat.le_trans hM.few (by omega)
  clear hg h
  go_enter Try.func26, Try.ntmps26
  go_wp2_with fail
  refine (rfind_none (unhide HH) hn (unhide HG)).mono ?_
  rintro e w1 ⟨rfl, hw1⟩
  have hw1 := hw1.symm
  subst hw1
  go_wp2
  go_ret2
  exact ⟨rfl, rfl⟩

set_option maxHeartbeats 2000000 in
theorem rclose_none {w : World} {g : Nat → Tag} {X base : Nat} {M : Nm} {R : Nat → Rg} {T : Nat} {la : Option Addr} {lc : Nat} (h : RNL w g X base M R T la lc) (hM : Mok M) (hT : T ≤ 120000000) (id node : Int) (hg : M.get id = none) :
    Calls Try.prog 28 #[.pointer (some ⟨X, 0, none⟩), .int .i64 id, .int .i64 node] w fun e w' => e = .returned (.int .i64 30) ∧ w' = w := by
  have HG := hide hg
  have HH := hide h
  have hn : M.cs.length ≤ 1000000 := Nat.le_trans hM.few (by omega)
  clear hg h
  go_enter Try.func28, Try.ntmps28
  go_wp2_with fail
  refine (rfind_none (unhide HH) hn (unhide HG)).mono ?_
  rintro e w1 ⟨rfl, hw1⟩
  have hw1 := hw1.symm
  subst hw1
  go_wp2
  go_ret
  exact ⟨rfl, rfl⟩

set_option maxHeartbeats 2000000 in
theorem rcut_none {w : World} {g : Nat → Tag} {X base : Nat} {M : Nm} {R : Nat → Rg} {T : Nat} {la : Option Addr} {lc : Nat} (h : RNL w g X base M R T la lc) (hM : Mok M) (hT : T ≤ 120000000) (id : Int) (hg : M.get id = none) :
    Calls Try.prog 29 #[.pointer (some ⟨X, 0, none⟩), .int .i64 id] w fun e w' => e = .returned (.int .i64 30) ∧ w' = w := by
  have HG := hide hg
  have HH := hide h
  have hn : M.cs.length ≤ 1000000 := Nat.le_trans hM.few (by omega)
  clear hg h
  go_enter Try.func29, Try.ntmps29
  go_wp2_with fail
  refine (rfind_none (unhide HH) hn (unhide HG)).mono ?_
  rintro e w1 ⟨rfl, hw1⟩
  have hw1 := hw1.symm
  subst hw1
  go_wp2
  go_ret
  exact ⟨rfl, rfl⟩

set_option maxHeartbeats 2000000 in
theorem rsend_side {w : World} {g : Nat → Tag} {X base : Nat} {M : Nm} {R : Nat → Rg} {T : Nat} {la : Option Addr} {lc : Nat} (h : RNL w g X base M R T la lc) (hM : Mok M) (hT : T ≤ 120000000) (id node : Int) (a : Option Addr) (cap : Nat) (lb : List UInt8) {c : Cn} (hg : M.get id = some c) (hsd : c.side node = -1) :
    Calls Try.prog 25 #[.pointer (some ⟨X, 0, none⟩), .int .i64 id, .int .i64 node, .slice a lb.length cap] w fun e w' => e = .returned (.int .i64 1) ∧ w' = w := by
  obtain ⟨hmem, hid⟩ := Nm.get_some hg
  have hcon := h.con c hmem
  have HG := hide hg
  have HH := hide h
  have HCN := hide hcon
  have hn : M.cs.length ≤ 1000000 := Nat.le_trans hM.few (by omega)
  clear hg h hcon
  go_enter Try.func25, Try.ntmps25
  go_wp2_with fail
  refine (rfind_some (unhide HH) hn (unhide HG)).mono ?_
  rintro e w1 ⟨rfl, hw1⟩
  have hw1 := hw1.symm
  subst hw1
  go_wp2_with fail
  refine (end_r _ _ _ _ _ _ _ _ _ _ _ _ _ _ node (-1) w (unhide HCN).cells (by show _ = _; have := hsd; unfold Cn.side at this; exact this.symm)).mono ?_
  rintro e w1 ⟨rfl, hw1⟩
  have hw1 := hw1.symm
  subst hw1
  go_wp2
  go_ret
  exact ⟨rfl, rfl⟩

set_option maxHeartbeats 2000000 in
theorem rcarry_side {w : World} {g : Nat → Tag} {X base : Nat} {M : Nm} {R : Nat → Rg} {T : Nat} {la : Option Addr} {lc : Nat} (h : RNL w g X base M R T la lc) (hM : Mok M) (hT : T ≤ 120000000) (id node m : Int) {c : Cn} (hg : M.get id = some c) (hsd : c.side node = -1) :
    Calls Try.prog 26 #[.pointer (some ⟨X, 0, none⟩), .int .i64 id, .int .i64 node, .int .i64 m] w fun e w' => e = .returned (.tuple #[.slice none 0 0, .int .i64 1]) ∧ w' = w := by
  obtain ⟨hmem, hid⟩ := Nm.get_some hg
  have hcon := h.con c hmem
  have HG := hide hg
  have HH := hide h
  have HCN := hide hcon
  have hn : M.cs.length ≤ 1000000 := Nat.le_trans hM.few (by omega)
  clear hg h hcon
  go_enter Try.func26, Try.ntmps26
  go_wp2_with fail
  refine (rfind_some (unhide HH) hn (unhide HG)).mono ?_
  rintro e w1 ⟨rfl, hw1⟩
  have hw1 := hw1.symm
  subst hw1
  go_wp2_with fail
  refine (end_r _ _ _ _ _ _ _ _ _ _ _ _ _ _ node (-1) w (unhide HCN).cells (by show _ = _; have := hsd; unfold Cn.side at this; exact this.symm)).mono ?_
  rintro e w1 ⟨rfl, hw1⟩
  have hw1 := hw1.symm
  subst hw1
  go_wp2
  go_ret2
  exact ⟨rfl, rfl⟩

set_option maxHeartbeats 2000000 in
theorem rclose_side {w : World} {g : Nat → Tag} {X base : Nat} {M : Nm} {R : Nat → Rg} {T : Nat} {la : Option Addr} {lc : Nat} (h : RNL w g X base M R T la lc) (hM : Mok M) (hT : T ≤ 120000000) (id node : Int) {c : Cn} (hg : M.get id = some c) (hsd : c.side node = -1) :
    Calls Try.prog 28 #[.pointer (some ⟨X, 0, none⟩), .int .i64 id, .int .i64 node] w fun e w' => e = .returned (.int .i64 1) ∧ w' = w := by
  obtain ⟨hmem, hid⟩ := Nm.get_some hg
  have hcon := h.con c hmem
  have HG := hide hg
  have HH := hide h
  have HCN := hide hcon
  have hn : M.cs.length ≤ 1000000 := Nat.le_trans hM.few (by omega)
  clear hg h hcon
  go_enter Try.func28, Try.ntmps28
  go_wp2_with fail
  refine (rfind_some (unhide HH) hn (unhide HG)).mono ?_
  rintro e w1 ⟨rfl, hw1⟩
  have hw1 := hw1.symm
  subst hw1
  go_wp2_with fail
  refine (end_r _ _ _ _ _ _ _ _ _ _ _ _ _ _ node (-1) w (unhide HCN).cells (by show _ = _; have := hsd; unfold Cn.side at this; exact this.symm)).mono ?_
  rintro e w1 ⟨rfl, hw1⟩
  have hw1 := hw1.symm
  subst hw1
  go_wp2
  go_ret
  exact ⟨rfl, rfl⟩

set_option maxHeartbeats 2000000 in
theorem rcarry_neg_0 {w : World} {g : Nat → Tag} {X base : Nat} {M : Nm} {R : Nat → Rg} {T : Nat} {la : Option Addr} {lc : Nat} (h : RNL w g X base M R T la lc) (hM : Mok M) (hT : T ≤ 120000000) (id node m : Int) {c : Cn} (hg : M.get id = some c) (hsd : c.side node = 0) (hm : m < 0) :
    Calls Try.prog 26 #[.pointer (some ⟨X, 0, none⟩), .int .i64 id, .int .i64 node, .int .i64 m] w fun e w' => e = .returned (.tuple #[.slice none 0 0, .int .i64 1]) ∧ w' = w := by
  obtain ⟨hmem, hid⟩ := Nm.get_some hg
  have hcon := h.con c hmem
  have HG := hide hg
  have HH := hide h
  have HCN := hide hcon
  have hn : M.cs.length ≤ 1000000 := Nat.le_trans hM.few (by omega)
  clear hg h hcon
  go_enter Try.func26, Try.ntmps26
  go_wp2_with fail
  refine (rfind_some (unhide HH) hn (unhide HG)).mono ?_
  rintro e w1 ⟨rfl, hw1⟩
  have hw1 := hw1.symm
  subst hw1
  go_wp2_with fail
  refine (end_r _ _ _ _ _ _ _ _ _ _ _ _ _ _ node (0) w (unhide HCN).cells (by show _ = _; have := hsd; unfold Cn.side at this; exact this.symm)).mono ?_
  rintro e w1 ⟨rfl, hw1⟩
  have hw1 := hw1.symm
  subst hw1
  go_wp2
  go_ret2
  exact ⟨rfl, rfl⟩

set_option maxHeartbeats 2000000 in
theorem rsend_shut_0 {w : World} {g : Nat → Tag} {X base : Nat} {M : Nm} {R : Nat → Rg} {T : Nat} {la : Option Addr} {lc : Nat} (h : RNL w g X base M R T la lc) (hM : Mok M) (hT : T ≤ 120000000) (id node : Int) (a : Option Addr) (cap : Nat) (lb : List UInt8) {c : Cn} (hg : M.get id = some c) (hsd : c.side node = 0) (hcl : c.c 0 = true) :
    Calls Try.prog 25 #[.pointer (some ⟨X, 0, none⟩), .int .i64 id, .int .i64 node, .slice a lb.length cap] w fun e w' => e = .returned (.int .i64 31) ∧ w' = w := by
  obtain ⟨hmem, hid⟩ := Nm.get_some hg
  have hcon := h.con c hmem
  have HG := hide hg
  have HH := hide h
  have HCN := hide hcon
  have hn : M.cs.length ≤ 1000000 := Nat.le_trans hM.few (by omega)
  obtain ⟨z0, z1, z2, z3, z4, z5, z6, z7, z8⟩ := hcon.cells.cells
  rw [hcl] at z7
  clear hg h hcon
  go_enter Try.func25, Try.ntmps25
  go_wp2_with fail
  refine (rfind_some (unhide HH) hn (unhide HG)).mono ?_
  rintro e w1 ⟨rfl, hw1⟩
  have hw1 := hw1.symm
  subst hw1
  go_wp2_with fail
  refine (end_r _ _ _ _ _ _ _ _ _ _ _ _ _ _ node (0) w (unhide HCN).cells (by show _ = _; have := hsd; unfold Cn.side at this; exact this.symm)).mono ?_
  rintro e w1 ⟨rfl, hw1⟩
  have hw1 := hw1.symm
  subst hw1
  go_wp2
  go_ret
  exact ⟨rfl, rfl⟩

set_option maxHeartbeats 2000000 in
theorem rclose_shut_0 {w : World} {g : Nat → Tag} {X base : Nat} {M : Nm} {R : Nat → Rg} {T : Nat} {la : Option Addr} {lc : Nat} (h : RNL w g X base M R T la lc) (hM : Mok M) (hT : T ≤ 120000000) (id node : Int) {c : Cn} (hg : M.get id = some c) (hsd : c.side node = 0) (hcl : c.c 0 = true) :
    Calls Try.prog 28 #[.pointer (some ⟨X, 0, none⟩), .int .i64 id, .int .i64 node] w fun e w' => e = .returned (.int .i64 31) ∧ w' = w := by
  obtain ⟨hmem, hid⟩ := Nm.get_some hg
  have hcon := h.con c hmem
  have HG := hide hg
  have HH := hide h
  have HCN := hide hcon
  have hn : M.cs.length ≤ 1000000 := Nat.le_trans hM.few (by omega)
  obtain ⟨z0, z1, z2, z3, z4, z5, z6, z7, z8⟩ := hcon.cells.cells
  rw [hcl] at z7
  clear hg h hcon
  go_enter Try.func28, Try.ntmps28
  go_wp2_with fail
  refine (rfind_some (unhide HH) hn (unhide HG)).mono ?_
  rintro e w1 ⟨rfl, hw1⟩
  have hw1 := hw1.symm
  subst hw1
  go_wp2_with fail
  refine (end_r _ _ _ _ _ _ _ _ _ _ _ _ _ _ node (0) w (unhide HCN).cells (by show _ = _; have := hsd; unfold Cn.side at this; exact this.symm)).mono ?_
  rintro e w1 ⟨rfl, hw1⟩
  have hw1 := hw1.symm
  subst hw1
  go_wp2
  go_ret
  exact ⟨rfl, rfl⟩

set_option maxHeartbeats 2000000 in
theorem rsend_full_0 {w : World} {g : Nat → Tag} {X base : Nat} {M : Nm} {R : Nat → Rg} {T : Nat} {la : Option Addr} {lc : Nat} (h : RNL w g X base M R T la lc) (hM : Mok M) (hT : T ≤ 120000000) (id node : Int) (a : Option Addr) (cap : Nat) (lb : List UInt8) {c : Cn} (hg : M.get id = some c) (hsd : c.side node = 0) (hcl : c.c 0 = false) (hfit : ¬ (c.L 1).length + lb.length ≤ 131072) (hlb : lb.length ≤ 120000000) :
    Calls Try.prog 25 #[.pointer (some ⟨X, 0, none⟩), .int .i64 id, .int .i64 node, .slice a lb.length cap] w fun e w' => e = .returned (.int .i64 7) ∧ Below w.heap.size w w' := by
  obtain ⟨hmem, hid⟩ := Nm.get_some hg
  have hcon := h.con c hmem
  have HG := hide hg
  have HH := hide h
  have HCN := hide hcon
  have hn : M.cs.length ≤ 1000000 := Nat.le_trans hM.few (by omega)
  obtain ⟨z0, z1, z2, z3, z4, z5, z6, z7, z8⟩ := hcon.cells.cells
  rw [hcl] at z7
  have hld : (c.L 1).length = ((R c.id).S 0).length - (R c.id).m 0 := by rw [hcon.d0, List.length_drop]
  have hm := hcon.m0
  have ht := hcon.t0
  obtain ⟨l1, hl1⟩ : ∃ l1, l1 = (c.L 1).length := ⟨_, rfl⟩
  have HW : Hid (∀ v : World, Below w.heap.size w v → Calls Try.prog 50 #[.pointer (some ⟨(R c.id).C, 0, none⟩), .int .i64 0] v fun e w' => e = .returned (.int .i64 (l1 : Int)) ∧ Below v.heap.size v w') := fun v hv => way_0 _ _ _ _ _ _ _ _ _ _ _ _ _ _ l1 v (hcon.cells.below hv) (by omega) (by omega) (by omega)
  have hfit' : ((131072 : Int) - (l1 : Int) < (lb.length : Int)) := by omega
  have hl2 : l1 ≤ 131072 := by have := hM.most c hmem; omega
  clear hg h hcon hl1 hld hm ht hfit
  go_enter Try.func25, Try.ntmps25
  go_wp2_with fail
  refine (rfind_some (unhide HH) hn (unhide HG)).mono ?_
  rintro e w1 ⟨rfl, hw1⟩
  have hw1 := hw1.symm
  subst hw1
  go_wp2_with fail
  refine (end_r _ _ _ _ _ _ _ _ _ _ _ _ _ _ node (0) w (unhide HCN).cells (by show _ = _; have := hsd; unfold Cn.side at this; exact this.symm)).mono ?_
  rintro e w1 ⟨rfl, hw1⟩
  have hw1 := hw1.symm
  subst hw1
  go_wp2_with fail
  refine (unhide HW w (Below.refl _ _)).mono ?_
  rintro e w2 ⟨rfl, hb2⟩
  go_wp2
  go_ret
  exact ⟨rfl, hb2⟩

set_option maxHeartbeats 4000000 in
theorem rclose_0 {w : World} {g : Nat → Tag} {X base : Nat} {M : Nm} {R : Nat → Rg} {T : Nat} {la : Option Addr} {lc : Nat} (h : RNL w g X base M R T la lc) (hM : Mok M) (hT : T ≤ 120000000) (id node : Int) {c : Cn} (hg : M.get id = some c) (hsd : c.side node = 0) (hcl : c.c 0 = false) (hbase : base ≤ w.heap.size) :
    Calls Try.prog 28 #[.pointer (some ⟨X, 0, none⟩), .int .i64 id, .int .i64 node] w fun e w' => e = .returned (.int .i64 0) ∧ ∃ g' R', Hid (RN w' g' X base (M.set (c.shut 0)).keep R' T) ∧ Hid (Ty w w' g g' (fun t => t = (2, c.id) ∨ t = (4, 0))) := by
  obtain ⟨hmem, hid⟩ := Nm.get_some hg
  have hcon := h.con c hmem
  have HG := hide hg
  have HH := hide h
  have HCN := hide hcon
  have hn : M.cs.length ≤ 1000000 := Nat.le_trans hM.few (by omega)
  obtain ⟨z0, z1, z2, z3, z4, z5, z6, z7, z8⟩ := hcon.cells.cells
  rw [hcl] at z7
  have fz := hcon.cells.fr 7
  obtain ⟨hrcon, hty⟩ := rshut_0 hcon (Below.refl _ _)
  have HSET := hide (h.set1 (c' := c.shut 0) rfl hty hrcon (Nat.le_refl _))
  have HTY := hide hty
  have hsz : (w.setCell ⟨(R c.id).C, 7, none⟩ (.bool true)).heap.size = w.heap.size := by simp [World.setCell]
  clear hg h hcon hrcon hty
  go_enter Try.func28, Try.ntmps28
  go_wp2_with fail
  refine (rfind_some (unhide HH) hn (unhide HG)).mono ?_
  rintro e w1 ⟨rfl, hw1⟩
  have hw1 := hw1.symm
  subst hw1
  go_wp2_with fail
  refine (end_r _ _ _ _ _ _ _ _ _ _ _ _ _ _ node (0) w (unhide HCN).cells (by show _ = _; have := hsd; unfold Cn.side at this; exact this.symm)).mono ?_
  rintro e w1 ⟨rfl, hw1⟩
  have hw1 := hw1.symm
  subst hw1
  go_wp2_with fail
  refine (rkeep (unhide HSET) (by show (M.cs.map _).length ≤ 1000000; rw [List.length_map]; exact hn) (by omega) (by omega)).mono ?_
  rintro e w7 ⟨rfl, g7, la7, lc7, HR7, HT7⟩
  go_wp2
  go_ret
  exact ⟨rfl, g7, _, ⟨la7, lc7, unhide HR7⟩, ((unhide HTY).mono (fun t h => .inl h)).trans ((unhide HT7).mono (fun t h => .inr h))⟩
#print axioms rclose_0

set_option maxHeartbeats 2000000 in
theorem rcarry_neg_1 {w : World} {g : Nat → Tag} {X base : Nat} {M : Nm} {R : Nat → Rg} {T : Nat} {la : Option Addr} {lc : Nat} (h : RNL w g X base M R T la lc) (hM : Mok M) (hT : T ≤ 120000000) (id node m : Int) {c : Cn} (hg : M.get id = some c) (hsd : c.side node = 1) (hm : m < 0) :
    Calls Try.prog 26 #[.pointer (some ⟨X, 0, none⟩), .int .i64 id, .int .i64 node, .int .i64 m] w fun e w' => e = .returned (.tuple #[.slice none 0 0, .int .i64 1]) ∧ w' = w := by
  obtain ⟨hmem, hid⟩ := Nm.get_some hg
  have hcon := h.con c hmem
  have HG := hide hg
  have HH := hide h
  have HCN := hide hcon
  have hn : M.cs.length ≤ 1000000 := Nat.le_trans hM.few (by omega)
  clear hg h hcon
  go_enter Try.func26, Try.ntmps26
  go_wp2_with fail
  refine (rfind_some (unhide HH) hn (unhide HG)).mono ?_
  rintro e w1 ⟨rfl, hw1⟩
  have hw1 := hw1.symm
  subst hw1
  go_wp2_with fail
  refine (end_r _ _ _ _ _ _ _ _ _ _ _ _ _ _ node (1) w (unhide HCN).cells (by show _ = _; have := hsd; unfold Cn.side at this; exact this.symm)).mono ?_
  rintro e w1 ⟨rfl, hw1⟩
  have hw1 := hw1.symm
  subst hw1
  go_wp2
  go_ret2
  exact ⟨rfl, rfl⟩

set_option maxHeartbeats 2000000 in
theorem rsend_shut_1 {w : World} {g : Nat → Tag} {X base : Nat} {M : Nm} {R : Nat → Rg} {T : Nat} {la : Option Addr} {lc : Nat} (h : RNL w g X base M R T la lc) (hM : Mok M) (hT : T ≤ 120000000) (id node : Int) (a : Option Addr) (cap : Nat) (lb : List UInt8) {c : Cn} (hg : M.get id = some c) (hsd : c.side node = 1) (hcl : c.c 1 = true) :
    Calls Try.prog 25 #[.pointer (some ⟨X, 0, none⟩), .int .i64 id, .int .i64 node, .slice a lb.length cap] w fun e w' => e = .returned (.int .i64 31) ∧ w' = w := by
  obtain ⟨hmem, hid⟩ := Nm.get_some hg
  have hcon := h.con c hmem
  have HG := hide hg
  have HH := hide h
  have HCN := hide hcon
  have hn : M.cs.length ≤ 1000000 := Nat.le_trans hM.few (by omega)
  obtain ⟨z0, z1, z2, z3, z4, z5, z6, z7, z8⟩ := hcon.cells.cells
  rw [hcl] at z8
  clear hg h hcon
  go_enter Try.func25, Try.ntmps25
  go_wp2_with fail
  refine (rfind_some (unhide HH) hn (unhide HG)).mono ?_
  rintro e w1 ⟨rfl, hw1⟩
  have hw1 := hw1.symm
  subst hw1
  go_wp2_with fail
  refine (end_r _ _ _ _ _ _ _ _ _ _ _ _ _ _ node (1) w (unhide HCN).cells (by show _ = _; have := hsd; unfold Cn.side at this; exact this.symm)).mono ?_
  rintro e w1 ⟨rfl, hw1⟩
  have hw1 := hw1.symm
  subst hw1
  go_wp2
  go_ret
  exact ⟨rfl, rfl⟩

set_option maxHeartbeats 2000000 in
theorem rclose_shut_1 {w : World} {g : Nat → Tag} {X base : Nat} {M : Nm} {R : Nat → Rg} {T : Nat} {la : Option Addr} {lc : Nat} (h : RNL w g X base M R T la lc) (hM : Mok M) (hT : T ≤ 120000000) (id node : Int) {c : Cn} (hg : M.get id = some c) (hsd : c.side node = 1) (hcl : c.c 1 = true) :
    Calls Try.prog 28 #[.pointer (some ⟨X, 0, none⟩), .int .i64 id, .int .i64 node] w fun e w' => e = .returned (.int .i64 31) ∧ w' = w := by
  obtain ⟨hmem, hid⟩ := Nm.get_some hg
  have hcon := h.con c hmem
  have HG := hide hg
  have HH := hide h
  have HCN := hide hcon
  have hn : M.cs.length ≤ 1000000 := Nat.le_trans hM.few (by omega)
  obtain ⟨z0, z1, z2, z3, z4, z5, z6, z7, z8⟩ := hcon.cells.cells
  rw [hcl] at z8
  clear hg h hcon
  go_enter Try.func28, Try.ntmps28
  go_wp2_with fail
  refine (rfind_some (unhide HH) hn (unhide HG)).mono ?_
  rintro e w1 ⟨rfl, hw1⟩
  have hw1 := hw1.symm
  subst hw1
  go_wp2_with fail
  refine (end_r _ _ _ _ _ _ _ _ _ _ _ _ _ _ node (1) w (unhide HCN).cells (by show _ = _; have := hsd; unfold Cn.side at this; exact this.symm)).mono ?_
  rintro e w1 ⟨rfl, hw1⟩
  have hw1 := hw1.symm
  subst hw1
  go_wp2
  go_ret
  exact ⟨rfl, rfl⟩

set_option maxHeartbeats 2000000 in
theorem rsend_full_1 {w : World} {g : Nat → Tag} {X base : Nat} {M : Nm} {R : Nat → Rg} {T : Nat} {la : Option Addr} {lc : Nat} (h : RNL w g X base M R T la lc) (hM : Mok M) (hT : T ≤ 120000000) (id node : Int) (a : Option Addr) (cap : Nat) (lb : List UInt8) {c : Cn} (hg : M.get id = some c) (hsd : c.side node = 1) (hcl : c.c 1 = false) (hfit : ¬ (c.L 0).length + lb.length ≤ 131072) (hlb : lb.length ≤ 120000000) :
    Calls Try.prog 25 #[.pointer (some ⟨X, 0, none⟩), .int .i64 id, .int .i64 node, .slice a lb.length cap] w fun e w' => e = .returned (.int .i64 7) ∧ Below w.heap.size w w' := by
  obtain ⟨hmem, hid⟩ := Nm.get_some hg
  have hcon := h.con c hmem
  have HG := hide hg
  have HH := hide h
  have HCN := hide hcon
  have hn : M.cs.length ≤ 1000000 := Nat.le_trans hM.few (by omega)
  obtain ⟨z0, z1, z2, z3, z4, z5, z6, z7, z8⟩ := hcon.cells.cells
  rw [hcl] at z8
  have hld : (c.L 0).length = ((R c.id).S 1).length - (R c.id).m 1 := by rw [hcon.d1, List.length_drop]
  have hm := hcon.m1
  have ht := hcon.t1
  obtain ⟨l1, hl1⟩ : ∃ l1, l1 = (c.L 0).length := ⟨_, rfl⟩
  have HW : Hid (∀ v : World, Below w.heap.size w v → Calls Try.prog 50 #[.pointer (some ⟨(R c.id).C, 0, none⟩), .int .i64 1] v fun e w' => e = .returned (.int .i64 (l1 : Int)) ∧ Below v.heap.size v w') := fun v hv => way_1 _ _ _ _ _ _ _ _ _ _ _ _ _ _ l1 v (hcon.cells.below hv) (by omega) (by omega) (by omega)
  have hfit' : ((131072 : Int) - (l1 : Int) < (lb.length : Int)) := by omega
  have hl2 : l1 ≤ 131072 := by have := hM.most c hmem; omega
  clear hg h hcon hl1 hld hm ht hfit
  go_enter Try.func25, Try.ntmps25
  go_wp2_with fail
  refine (rfind_some (unhide HH) hn (unhide HG)).mono ?_
  rintro e w1 ⟨rfl, hw1⟩
  have hw1 := hw1.symm
  subst hw1
  go_wp2_with fail
  refine (end_r _ _ _ _ _ _ _ _ _ _ _ _ _ _ node (1) w (unhide HCN).cells (by show _ = _; have := hsd; unfold Cn.side at this; exact this.symm)).mono ?_
  rintro e w1 ⟨rfl, hw1⟩
  have hw1 := hw1.symm
  subst hw1
  go_wp2_with fail
  refine (unhide HW w (Below.refl _ _)).mono ?_
  rintro e w2 ⟨rfl, hb2⟩
  go_wp2
  go_ret
  exact ⟨rfl, hb2⟩

set_option maxHeartbeats 4000000 in
theorem rclose_1 {w : World} {g : Nat → Tag} {X base : Nat} {M : Nm} {R : Nat → Rg} {T : Nat} {la : Option Addr} {lc : Nat} (h : RNL w g X base M R T la lc) (hM : Mok M) (hT : T ≤ 120000000) (id node : Int) {c : Cn} (hg : M.get id = some c) (hsd : c.side node = 1) (hcl : c.c 1 = false) (hbase : base ≤ w.heap.size) :
    Calls Try.prog 28 #[.pointer (some ⟨X, 0, none⟩), .int .i64 id, .int .i64 node] w fun e w' => e = .returned (.int .i64 0) ∧ ∃ g' R', Hid (RN w' g' X base (M.set (c.shut 1)).keep R' T) ∧ Hid (Ty w w' g g' (fun t => t = (2, c.id) ∨ t = (4, 0))) := by
  obtain ⟨hmem, hid⟩ := Nm.get_some hg
  have hcon := h.con c hmem
  have HG := hide hg
  have HH := hide h
  have HCN := hide hcon
  have hn : M.cs.length ≤ 1000000 := Nat.le_trans hM.few (by omega)
  obtain ⟨z0, z1, z2, z3, z4, z5, z6, z7, z8⟩ := hcon.cells.cells
  rw [hcl] at z8
  have fz := hcon.cells.fr 8
  obtain ⟨hrcon, hty⟩ := rshut_1 hcon (Below.refl _ _)
  have HSET := hide (h.set1 (c' := c.shut 1) rfl hty hrcon (Nat.le_refl _))
  have HTY := hide hty
  have hsz : (w.setCell ⟨(R c.id).C, 8, none⟩ (.bool true)).heap.size = w.heap.size := by simp [World.setCell]
  clear hg h hcon hrcon hty
  go_enter Try.func28, Try.ntmps28
  go_wp2_with fail
  refine (rfind_some (unhide HH) hn (unhide HG)).mono ?_
  rintro e w1 ⟨rfl, hw1⟩
  have hw1 := hw1.symm
  subst hw1
  go_wp2_with fail
  refine (end_r _ _ _ _ _ _ _ _ _ _ _ _ _ _ node (1) w (unhide HCN).cells (by show _ = _; have := hsd; unfold Cn.side at this; exact this.symm)).mono ?_
  rintro e w1 ⟨rfl, hw1⟩
  have hw1 := hw1.symm
  subst hw1
  go_wp2_with fail
  refine (rkeep (unhide HSET) (by show (M.cs.map _).length ≤ 1000000; rw [List.length_map]; exact hn) (by omega) (by omega)).mono ?_
  rintro e w7 ⟨rfl, g7, la7, lc7, HR7, HT7⟩
  go_wp2
  go_ret
  exact ⟨rfl, g7, _, ⟨la7, lc7, unhide HR7⟩, ((unhide HTY).mono (fun t h => .inl h)).trans ((unhide HT7).mono (fun t h => .inr h))⟩
#print axioms rclose_1
end Go.Proofs.Ytohlmfiicfoimaa
