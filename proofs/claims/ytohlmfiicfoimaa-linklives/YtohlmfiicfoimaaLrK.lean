/-
  link, the document's own net is asked: Ends, Waiting, Done, Conns.
-/
import Derived.Test.YtohlmfiicfoimaaLdL
set_option linter.unusedVariables false
set_option maxRecDepth 100000
namespace Go.Proofs.Ytohlmfiicfoimaa
open Go.RowKit Go.Maps

set_option maxHeartbeats 2000000 in
theorem rends_none {w : World} {g : Nat → Tag} {X base : Nat} {M : Nm} {R : Nat → Rg} {T : Nat} {la : Option Addr} {lc : Nat} (h : RNL w g X base M R T la lc) (hM : Mok M) (hT : T ≤ 120000000) (id : Int) (hg : M.get id = none) :
    Calls Try.prog 32 #[.pointer (some ⟨X, 0, none⟩), .int .i64 id] w fun e w' => e = .returned (.tuple #[.int .i64 0, .int .i64 0, .int .i64 30]) ∧ Below w.heap.size w w' := by
  have HG := hide hg
  have HH := hide h
  have hn : M.cs.length ≤ 1000000 := Nat.le_trans hM.few (by omega)
  clear hg h
  go_enter Try.func32, Try.ntmps32
  go_wp2_with fail
  refine (rfind_none (unhide HH) hn (unhide HG)).mono ?_
  rintro e w1 ⟨rfl, hw1⟩
  have hw1 := hw1.symm
  subst hw1
  go_wp2
  go_ret3
  exact ⟨rfl, Below.refl _ _⟩

set_option maxHeartbeats 2000000 in
theorem rwait_none {w : World} {g : Nat → Tag} {X base : Nat} {M : Nm} {R : Nat → Rg} {T : Nat} {la : Option Addr} {lc : Nat} (h : RNL w g X base M R T la lc) (hM : Mok M) (hT : T ≤ 120000000) (id node : Int) (hg : M.get id = none) :
    Calls Try.prog 34 #[.pointer (some ⟨X, 0, none⟩), .int .i64 id, .int .i64 node] w fun e w' => e = .returned (.tuple #[.int .i64 0, .int .i64 30]) ∧ Below w.heap.size w w' := by
  have HG := hide hg
  have HH := hide h
  have hn : M.cs.length ≤ 1000000 := Nat.le_trans hM.few (by omega)
  clear hg h
  go_enter Try.func34, Try.ntmps34
  go_wp2_with fail
  refine (rfind_none (unhide HH) hn (unhide HG)).mono ?_
  rintro e w1 ⟨rfl, hw1⟩
  have hw1 := hw1.symm
  subst hw1
  go_wp2
  go_ret2
  exact ⟨rfl, Below.refl _ _⟩

set_option maxHeartbeats 2000000 in
theorem rdone_none {w : World} {g : Nat → Tag} {X base : Nat} {M : Nm} {R : Nat → Rg} {T : Nat} {la : Option Addr} {lc : Nat} (h : RNL w g X base M R T la lc) (hM : Mok M) (hT : T ≤ 120000000) (id node : Int) (hg : M.get id = none) :
    Calls Try.prog 35 #[.pointer (some ⟨X, 0, none⟩), .int .i64 id, .int .i64 node] w fun e w' => e = .returned (.bool true) ∧ Below w.heap.size w w' := by
  have HG := hide hg
  have HH := hide h
  have hn : M.cs.length ≤ 1000000 := Nat.le_trans hM.few (by omega)
  clear hg h
  go_enter Try.func35, Try.ntmps35
  go_wp2_with fail
  refine (rfind_none (unhide HH) hn (unhide HG)).mono ?_
  rintro e w1 ⟨rfl, hw1⟩
  have hw1 := hw1.symm
  subst hw1
  go_wp2
  go_ret
  exact ⟨rfl, Below.refl _ _⟩

set_option maxHeartbeats 2000000 in
theorem rends_at {w : World} {g : Nat → Tag} {X base : Nat} {M : Nm} {R : Nat → Rg} {T : Nat} {la : Option Addr} {lc : Nat} (h : RNL w g X base M R T la lc) (hM : Mok M) (hT : T ≤ 120000000) (id : Int) {c : Cn} (hg : M.get id = some c) :
    Calls Try.prog 32 #[.pointer (some ⟨X, 0, none⟩), .int .i64 id] w fun e w' => e = .returned (.tuple #[.int .i64 c.p, .int .i64 c.q, .int .i64 0]) ∧ Below w.heap.size w w' := by
  obtain ⟨hmem, hid⟩ := Nm.get_some hg
  have hcon := h.con c hmem
  have HG := hide hg
  have HH := hide h
  have HCN := hide hcon
  have hn : M.cs.length ≤ 1000000 := Nat.le_trans hM.few (by omega)
  obtain ⟨z0, z1, z2, z3, z4, z5, z6, z7, z8⟩ := hcon.cells.cells
  clear hg h hcon
  go_enter Try.func32, Try.ntmps32
  go_wp2_with fail
  refine (rfind_some (unhide HH) hn (unhide HG)).mono ?_
  rintro e w1 ⟨rfl, hw1⟩
  have hw1 := hw1.symm
  subst hw1
  go_wp2_with fail
  go_region
  go_wp2
  go_ret3
  exact ⟨rfl, (Below.refl _ _).drew⟩

set_option maxHeartbeats 2000000 in
theorem rwait_side {w : World} {g : Nat → Tag} {X base : Nat} {M : Nm} {R : Nat → Rg} {T : Nat} {la : Option Addr} {lc : Nat} (h : RNL w g X base M R T la lc) (hM : Mok M) (hT : T ≤ 120000000) (id node : Int) {c : Cn} (hg : M.get id = some c) (hsd : c.side node = -1) :
    Calls Try.prog 34 #[.pointer (some ⟨X, 0, none⟩), .int .i64 id, .int .i64 node] w fun e w' => e = .returned (.tuple #[.int .i64 0, .int .i64 1]) ∧ Below w.heap.size w w' := by
  obtain ⟨hmem, hid⟩ := Nm.get_some hg
  have hcon := h.con c hmem
  have HG := hide hg
  have HH := hide h
  have HCN := hide hcon
  have hn : M.cs.length ≤ 1000000 := Nat.le_trans hM.few (by omega)
  clear hg h hcon
  go_enter Try.func34, Try.ntmps34
  go_wp2_with fail
  refine (rfind_some (unhide HH) hn (unhide HG)).mono ?_
  rintro e w1 ⟨rfl, hw1⟩
  have hw1 := hw1.symm
  subst hw1
  go_wp2_with fail
  refine (end_r _ _ _ _ _ _ _ _ _ _ _ _ _ _ node (-1) w (unhide HCN).cells (by show _ = _; have := hsd; unfold Cn.side at this; exact this.symm)).mono ?_
  rintro e w1 ⟨rfl, hw1⟩
  have hw1 := hw1.symm
  subst hw1
  go_wp2
  go_ret2
  exact ⟨rfl, Below.refl _ _⟩
set_option maxHeartbeats 2000000 in
theorem rdone_side {w : World} {g : Nat → Tag} {X base : Nat} {M : Nm} {R : Nat → Rg} {T : Nat} {la : Option Addr} {lc : Nat} (h : RNL w g X base M R T la lc) (hM : Mok M) (hT : T ≤ 120000000) (id node : Int) {c : Cn} (hg : M.get id = some c) (hsd : c.side node = -1) :
    Calls Try.prog 35 #[.pointer (some ⟨X, 0, none⟩), .int .i64 id, .int .i64 node] w fun e w' => e = .returned (.bool true) ∧ Below w.heap.size w w' := by
  obtain ⟨hmem, hid⟩ := Nm.get_some hg
  have hcon := h.con c hmem
  have HG := hide hg
  have HH := hide h
  have HCN := hide hcon
  have hn : M.cs.length ≤ 1000000 := Nat.le_trans hM.few (by omega)
  clear hg h hcon
  go_enter Try.func35, Try.ntmps35
  go_wp2_with fail
  refine (rfind_some (unhide HH) hn (unhide HG)).mono ?_
  rintro e w1 ⟨rfl, hw1⟩
  have hw1 := hw1.symm
  subst hw1
  go_wp2_with fail
  refine (end_r _ _ _ _ _ _ _ _ _ _ _ _ _ _ node (-1) w (unhide HCN).cells (by show _ = _; have := hsd; unfold Cn.side at this; exact this.symm)).mono ?_
  rintro e w1 ⟨rfl, hw1⟩
  have hw1 := hw1.symm
  subst hw1
  go_wp2
  go_ret
  exact ⟨rfl, Below.refl _ _⟩

set_option maxHeartbeats 2000000 in
theorem rwait_0 {w : World} {g : Nat → Tag} {X base : Nat} {M : Nm} {R : Nat → Rg} {T : Nat} {la : Option Addr} {lc : Nat} (h : RNL w g X base M R T la lc) (hM : Mok M) (hT : T ≤ 120000000) (id node : Int) {c : Cn} (hg : M.get id = some c) (hsd : c.side node = 0) :
    Calls Try.prog 34 #[.pointer (some ⟨X, 0, none⟩), .int .i64 id, .int .i64 node] w fun e w' => e = .returned (.tuple #[.int .i64 ((c.L 0).length : Int), .int .i64 0]) ∧ Below w.heap.size w w' := by
  obtain ⟨hmem, hid⟩ := Nm.get_some hg
  have hcon := h.con c hmem
  have HG := hide hg
  have HH := hide h
  have HCN := hide hcon
  have hn : M.cs.length ≤ 1000000 := Nat.le_trans hM.few (by omega)
  have hld : (c.L 0).length = ((R c.id).S 1).length - (R c.id).m 1 := by rw [hcon.d1, List.length_drop]
  have hm := hcon.m1
  have ht := hcon.t1
  obtain ⟨l1, hl1⟩ : ∃ l1, l1 = (c.L 0).length := ⟨_, rfl⟩
  have HW : Hid (∀ v : World, Below w.heap.size w v → Calls Try.prog 50 #[.pointer (some ⟨(R c.id).C, 0, none⟩), .int .i64 1] v fun e w' => e = .returned (.int .i64 (l1 : Int)) ∧ Below v.heap.size v w') := fun v hv => way_1 _ _ _ _ _ _ _ _ _ _ _ _ _ _ l1 v (hcon.cells.below hv) (by omega) (by omega) (by omega)
  rw [← hl1]
  have HL1 := hide hl1
  have hl131 : l1 ≤ 131072 := by have := hM.most c hmem; omega
  clear hg h hcon hl1 hld hm ht
  go_enter Try.func34, Try.ntmps34
  go_wp2_with fail
  refine (rfind_some (unhide HH) hn (unhide HG)).mono ?_
  rintro e w1 ⟨rfl, hw1⟩
  have hw1 := hw1.symm
  subst hw1
  go_wp2_with fail
  refine (end_r _ _ _ _ _ _ _ _ _ _ _ _ _ _ node (0) w (unhide HCN).cells (by show _ = _; have := hsd; unfold Cn.side at this; exact this.symm)).mono ?_
  rintro e w1 ⟨rfl, hw1⟩
  have hw1 := hw1.symm
  subst hw1
  go_wp2_with fail
  refine (unhide HW w (Below.refl _ _)).mono ?_
  rintro e w2 ⟨rfl, hb2⟩
  go_wp2
  go_ret2
  exact ⟨rfl, hb2⟩
set_option maxHeartbeats 2000000 in
theorem rdone_0 {w : World} {g : Nat → Tag} {X base : Nat} {M : Nm} {R : Nat → Rg} {T : Nat} {la : Option Addr} {lc : Nat} (h : RNL w g X base M R T la lc) (hM : Mok M) (hT : T ≤ 120000000) (id node : Int) {c : Cn} (hg : M.get id = some c) (hsd : c.side node = 0) :
    Calls Try.prog 35 #[.pointer (some ⟨X, 0, none⟩), .int .i64 id, .int .i64 node] w fun e w' => e = .returned (.bool (c.c 1 && decide (c.L 0 = []))) ∧ Below w.heap.size w w' := by
  obtain ⟨hmem, hid⟩ := Nm.get_some hg
  have hcon := h.con c hmem
  have HG := hide hg
  have HH := hide h
  have HCN := hide hcon
  have hn : M.cs.length ≤ 1000000 := Nat.le_trans hM.few (by omega)
  have hld : (c.L 0).length = ((R c.id).S 1).length - (R c.id).m 1 := by rw [hcon.d1, List.length_drop]
  have hm := hcon.m1
  have ht := hcon.t1
  obtain ⟨l1, hl1⟩ : ∃ l1, l1 = (c.L 0).length := ⟨_, rfl⟩
  have HW : Hid (∀ v : World, Below w.heap.size w v → Calls Try.prog 50 #[.pointer (some ⟨(R c.id).C, 0, none⟩), .int .i64 1] v fun e w' => e = .returned (.int .i64 (l1 : Int)) ∧ Below v.heap.size v w') := fun v hv => way_1 _ _ _ _ _ _ _ _ _ _ _ _ _ _ l1 v (hcon.cells.below hv) (by omega) (by omega) (by omega)
  have HL1 := hide hl1
  have hl131 : l1 ≤ 131072 := by have := hM.most c hmem; omega
  have hz : ((l1 : Int) == 0) = decide (c.L 0 = []) := by rw [hl1]; cases c.L 0 <;> simp; omega
  obtain ⟨z0, z1, z2, z3, z4, z5, z6, z7, z8⟩ := hcon.cells.cells
  clear hg h hcon hl1 hld hm ht
  cases hcc : c.c 1 with
  | false =>
    rw [hcc] at z8
    go_enter Try.func35, Try.ntmps35
    go_wp2_with fail
    refine (rfind_some (unhide HH) hn (unhide HG)).mono ?_
    rintro e w1 ⟨rfl, hw1⟩
    have hw1 := hw1.symm
    subst hw1
    go_wp2_with fail
    refine (end_r _ _ _ _ _ _ _ _ _ _ _ _ _ _ node (0) w (unhide HCN).cells (by show _ = _; have := hsd; unfold Cn.side at this; exact this.symm)).mono ?_
    rintro e w1 ⟨rfl, hw1⟩
    have hw1 := hw1.symm
    subst hw1
    go_wp2_with fail
    refine (end_r _ _ _ _ _ _ _ _ _ _ _ _ _ _ node (0) w (unhide HCN).cells (by show _ = _; have := hsd; unfold Cn.side at this; exact this.symm)).mono ?_
    rintro e w1 ⟨rfl, hw1⟩
    have hw1 := hw1.symm
    subst hw1
    go_wp2
    go_ret
    exact ⟨rfl, Below.refl _ _⟩
  | true =>
    rw [hcc] at z8
    go_enter Try.func35, Try.ntmps35
    go_wp2_with fail
    refine (rfind_some (unhide HH) hn (unhide HG)).mono ?_
    rintro e w1 ⟨rfl, hw1⟩
    have hw1 := hw1.symm
    subst hw1
    go_wp2_with fail
    refine (end_r _ _ _ _ _ _ _ _ _ _ _ _ _ _ node (0) w (unhide HCN).cells (by show _ = _; have := hsd; unfold Cn.side at this; exact this.symm)).mono ?_
    rintro e w1 ⟨rfl, hw1⟩
    have hw1 := hw1.symm
    subst hw1
    go_wp2_with fail
    refine (end_r _ _ _ _ _ _ _ _ _ _ _ _ _ _ node (0) w (unhide HCN).cells (by show _ = _; have := hsd; unfold Cn.side at this; exact this.symm)).mono ?_
    rintro e w1 ⟨rfl, hw1⟩
    have hw1 := hw1.symm
    subst hw1
    go_wp2_with fail
    refine (unhide HW w (Below.refl _ _)).mono ?_
    rintro e w2 ⟨rfl, hb2⟩
    go_wp2
    go_ret
    exact ⟨rfl, hb2⟩

set_option maxHeartbeats 2000000 in
theorem rwait_1 {w : World} {g : Nat → Tag} {X base : Nat} {M : Nm} {R : Nat → Rg} {T : Nat} {la : Option Addr} {lc : Nat} (h : RNL w g X base M R T la lc) (hM : Mok M) (hT : T ≤ 120000000) (id node : Int) {c : Cn} (hg : M.get id = some c) (hsd : c.side node = 1) :
    Calls Try.prog 34 #[.pointer (some ⟨X, 0, none⟩), .int .i64 id, .int .i64 node] w fun e w' => e = .returned (.tuple #[.int .i64 ((c.L 1).length : Int), .int .i64 0]) ∧ Below w.heap.size w w' := by
  obtain ⟨hmem, hid⟩ := Nm.get_some hg
  have hcon := h.con c hmem
  have HG := hide hg
  have HH := hide h
  have HCN := hide hcon
  have hn : M.cs.length ≤ 1000000 := Nat.le_trans hM.few (by omega)
  have hld : (c.L 1).length = ((R c.id).S 0).length - (R c.id).m 0 := by rw [hcon.d0, List.length_drop]
  have hm := hcon.m0
  have ht := hcon.t0
  obtain ⟨l1, hl1⟩ : ∃ l1, l1 = (c.L 1).length := ⟨_, rfl⟩
  have HW : Hid (∀ v : World, Below w.heap.size w v → Calls Try.prog 50 #[.pointer (some ⟨(R c.id).C, 0, none⟩), .int .i64 0] v fun e w' => e = .returned (.int .i64 (l1 : Int)) ∧ Below v.heap.size v w') := fun v hv => way_0 _ _ _ _ _ _ _ _ _ _ _ _ _ _ l1 v (hcon.cells.below hv) (by omega) (by omega) (by omega)
  rw [← hl1]
  have HL1 := hide hl1
  have hl131 : l1 ≤ 131072 := by have := hM.most c hmem; omega
  clear hg h hcon hl1 hld hm ht
  go_enter Try.func34, Try.ntmps34
  go_wp2_with fail
  refine (rfind_some (unhide HH) hn (unhide HG)).mono ?_
  rintro e w1 ⟨rfl, hw1⟩
  have hw1 := hw1.symm
  subst hw1
  go_wp2_with fail
  refine (end_r _ _ _ _ _ _ _ _ _ _ _ _ _ _ node (1) w (unhide HCN).cells (by show _ = _; have := hsd; unfold Cn.side at this; exact this.symm)).mono ?_
  rintro e w1 ⟨rfl, hw1⟩
  have hw1 := hw1.symm
  subst hw1
  go_wp2_with fail
  refine (unhide HW w (Below.refl _ _)).mono ?_
  rintro e w2 ⟨rfl, hb2⟩
  go_wp2
  go_ret2
  exact ⟨rfl, hb2⟩
set_option maxHeartbeats 2000000 in
theorem rdone_1 {w : World} {g : Nat → Tag} {X base : Nat} {M : Nm} {R : Nat → Rg} {T : Nat} {la : Option Addr} {lc : Nat} (h : RNL w g X base M R T la lc) (hM : Mok M) (hT : T ≤ 120000000) (id node : Int) {c : Cn} (hg : M.get id = some c) (hsd : c.side node = 1) :
    Calls Try.prog 35 #[.pointer (some ⟨X, 0, none⟩), .int .i64 id, .int .i64 node] w fun e w' => e = .returned (.bool (c.c 0 && decide (c.L 1 = []))) ∧ Below w.heap.size w w' := by
  obtain ⟨hmem, hid⟩ := Nm.get_some hg
  have hcon := h.con c hmem
  have HG := hide hg
  have HH := hide h
  have HCN := hide hcon
  have hn : M.cs.length ≤ 1000000 := Nat.le_trans hM.few (by omega)
  have hld : (c.L 1).length = ((R c.id).S 0).length - (R c.id).m 0 := by rw [hcon.d0, List.length_drop]
  have hm := hcon.m0
  have ht := hcon.t0
  obtain ⟨l1, hl1⟩ : ∃ l1, l1 = (c.L 1).length := ⟨_, rfl⟩
  have HW : Hid (∀ v : World, Below w.heap.size w v → Calls Try.prog 50 #[.pointer (some ⟨(R c.id).C, 0, none⟩), .int .i64 0] v fun e w' => e = .returned (.int .i64 (l1 : Int)) ∧ Below v.heap.size v w') := fun v hv => way_0 _ _ _ _ _ _ _ _ _ _ _ _ _ _ l1 v (hcon.cells.below hv) (by omega) (by omega) (by omega)
  have HL1 := hide hl1
  have hl131 : l1 ≤ 131072 := by have := hM.most c hmem; omega
  have hz : ((l1 : Int) == 0) = decide (c.L 1 = []) := by rw [hl1]; cases c.L 1 <;> simp; omega
  obtain ⟨z0, z1, z2, z3, z4, z5, z6, z7, z8⟩ := hcon.cells.cells
  clear hg h hcon hl1 hld hm ht
  cases hcc : c.c 0 with
  | false =>
    rw [hcc] at z7
    go_enter Try.func35, Try.ntmps35
    go_wp2_with fail
    refine (rfind_some (unhide HH) hn (unhide HG)).mono ?_
    rintro e w1 ⟨rfl, hw1⟩
    have hw1 := hw1.symm
    subst hw1
    go_wp2_with fail
    refine (end_r _ _ _ _ _ _ _ _ _ _ _ _ _ _ node (1) w (unhide HCN).cells (by show _ = _; have := hsd; unfold Cn.side at this; exact this.symm)).mono ?_
    rintro e w1 ⟨rfl, hw1⟩
    have hw1 := hw1.symm
    subst hw1
    go_wp2_with fail
    refine (end_r _ _ _ _ _ _ _ _ _ _ _ _ _ _ node (1) w (unhide HCN).cells (by show _ = _; have := hsd; unfold Cn.side at this; exact this.symm)).mono ?_
    rintro e w1 ⟨rfl, hw1⟩
    have hw1 := hw1.symm
    subst hw1
    go_wp2
    go_ret
    exact ⟨rfl, Below.refl _ _⟩
  | true =>
    rw [hcc] at z7
    go_enter Try.func35, Try.ntmps35
    go_wp2_with fail
    refine (rfind_some (unhide HH) hn (unhide HG)).mono ?_
    rintro e w1 ⟨rfl, hw1⟩
    have hw1 := hw1.symm
    subst hw1
    go_wp2_with fail
    refine (end_r _ _ _ _ _ _ _ _ _ _ _ _ _ _ node (1) w (unhide HCN).cells (by show _ = _; have := hsd; unfold Cn.side at this; exact this.symm)).mono ?_
    rintro e w1 ⟨rfl, hw1⟩
    have hw1 := hw1.symm
    subst hw1
    go_wp2_with fail
    refine (end_r _ _ _ _ _ _ _ _ _ _ _ _ _ _ node (1) w (unhide HCN).cells (by show _ = _; have := hsd; unfold Cn.side at this; exact this.symm)).mono ?_
    rintro e w1 ⟨rfl, hw1⟩
    have hw1 := hw1.symm
    subst hw1
    go_wp2_with fail
    refine (unhide HW w (Below.refl _ _)).mono ?_
    rintro e w2 ⟨rfl, hb2⟩
    go_wp2
    go_ret
    exact ⟨rfl, hb2⟩

set_option maxHeartbeats 4000000 in
theorem rconns_at {w : World} {g : Nat → Tag} {X base : Nat} {M : Nm} {R : Nat → Rg} {T : Nat} {la : Option Addr} {lc : Nat} (h : RNL w g X base M R T la lc) (hM : Mok M) (hT : T ≤ 120000000) :
    Calls Try.prog 30 #[.pointer (some ⟨X, 0, none⟩)] w fun e w' => ∃ a c r, e = .returned (.slice a r.length c) ∧ Hid (r = M.cs.map fun c => c.id) ∧ Hid (OwnI w' w.heap.size a c r) ∧ Hid (Below w.heap.size w w') := by
  have e0 := h.n0
  have HH := hide h
  have hX := h.lt
  have hfew := hM.few
  have HM := hide hM
  clear h hM
  go_enter Try.func30, Try.ntmps30
  go_wp2
  go_loopw [3, 11] (fun v i wr => ∃ (k : Nat) (a2 : Option Addr) (c2 : Nat) (r : List Nat), k ≤ M.cs.length ∧ i = .int .i64 (k : Int) ∧ v = .slice a2 r.length c2 ∧ Hid (r = (M.cs.take k).map fun c => c.id) ∧ Hid (OwnI wr w.heap.size a2 c2 r) ∧ Hid (Below w.heap.size w wr)) (fun _ i _ => M.cs.length - (intOf i).toNat)
  case atStart => exact ⟨0, none, 0, [], Nat.zero_le _, rfl, rfl, rfl, OwnI.nil _ _, Below.refl _ _⟩
  case round =>
    obtain ⟨k, a2, c2, r, hk, rfl, rfl, HR, HO, HB⟩ := hrel
    have hbs := (unhide HB).size
    have hrl : r.length ≤ 64 := by
      rw [unhide HR, List.length_map]
      have h2 := List.length_take_le k M.cs
      omega
    by_cases hlt : k < M.cs.length
    · obtain ⟨c, hc⟩ : ∃ c, M.cs[k]? = some c := ⟨M.cs[k]'hlt, List.getElem?_eq_getElem hlt⟩
      have hmem := List.mem_of_getElem? hc
      obtain ⟨b, hla, _, hbl, hcell⟩ := (unhide HH).own.some (by rw [List.length_map]; omega)
      subst hla
      have ck : wr.cell? ⟨b, k, none⟩ = some (.pointer (some ⟨(R c.id).C, 0, none⟩)) := by
        rw [(unhide HB).cell hbl, hcell k (by rw [List.length_map]; omega), List.getD_eq_getElem?_getD, List.getElem?_map, hc]
        rfl
      have z0 := (((unhide HH).con c hmem).cells.below (unhide HB)).cells.1
      have hkl : (k : Int) < (M.cs.length : Int) := by omega
      have HTk : Hid (M.cs.take (k + 1) = M.cs.take k ++ [c]) := by
        show _ = _
        rw [List.take_add_one, hc]; rfl
      clear hcell hbl hmem hc
      go_wp2_with (at_builtin; refine wp_appi _ rfl _ _ rfl w.heap.size a2 c2 r rfl ((unhide HO).alloc _) wr.heap.size 1 c.id rfl (cell_liti _ _ _ rfl) ?c5 ?c6 ?_)
      case c5 => omega
      case c6 => first | omega | (simp; omega)
      intro a3 c3 r3 w5 hr3 ho5 hg5
      have HB5 : Hid (Below w.heap.size w w5) := below_grown ((unhide HB).alloc (unhide HB).size _) hg5 (Nat.le_refl _) (fun j hj => ((unhide HO).lt j hj).1)
      have HR5 : Hid (r3 = (M.cs.take (k + 1)).map fun c => c.id) := by
        show _ = _
        rw [unhide hr3, unhide HR, unhide HTk, List.map_append]
        rfl
      have HO5 := hide ho5
      clear hr3 ho5 hg5 HO HB HR z0 ck
      go_wp2
      go_roundw
      case rel => exact ⟨k + 1, a3, c3, r3, by omega, by go_num, rfl, HR5, HO5, HB5⟩
      case measure => simp [intOf]; omega
    · obtain rfl : k = M.cs.length := by omega
      have HR5 : Hid (r = M.cs.map fun c => c.id) := by show _ = _; rw [unhide HR, List.take_length]
      clear hlt hk
      go_wp2
      go_ret
      exact ⟨a2, c2, r, rfl, HR5, HO, HB⟩

/-! ### By the model -/
theorem nr_ends {w0 w : World} {N bm X : Nat} {Mp Mr : Nm} {T : Nat} {Z : Nat → Prop} (h : NQ w0 w N bm X Mp Mr T Z) (hM : Mok Mr) (hT : T ≤ 120000000) (id : Int) :
    Calls Try.prog 32 #[.pointer (some ⟨X, 0, none⟩), .int .i64 id] w fun e w' => e = .returned (.tuple #[.int .i64 (enP Mr id), .int .i64 (enQ Mr id), .int .i64 (cuE Mr id)]) ∧ Hid (Below w.heap.size w w') := by
  obtain ⟨g, P, R, _, ⟨la, lc, h⟩, _⟩ := h
  unfold enP enQ cuE
  cases hg : Mr.get id with
  | none => exact rends_none h hM hT id hg
  | some c => exact rends_at h hM hT id hg
theorem nr_wait {w0 w : World} {N bm X : Nat} {Mp Mr : Nm} {T : Nat} {Z : Nat → Prop} (h : NQ w0 w N bm X Mp Mr T Z) (hM : Mok Mr) (hT : T ≤ 120000000) (id node : Int) :
    Calls Try.prog 34 #[.pointer (some ⟨X, 0, none⟩), .int .i64 id, .int .i64 node] w fun e w' => e = .returned (.tuple #[.int .i64 (waN Mr id node), .int .i64 (waE Mr id node)]) ∧ Hid (Below w.heap.size w w') := by
  obtain ⟨g, P, R, _, ⟨la, lc, h⟩, _⟩ := h
  unfold waN waE
  cases hg : Mr.get id with
  | none => exact rwait_none h hM hT id node hg
  | some c =>
    simp only
    have hx := c.side_le node
    by_cases hneg : c.side node < 0
    · rw [if_pos hneg, if_pos hneg]
      exact rwait_side h hM hT id node hg (by omega)
    · rw [if_neg hneg, if_neg hneg]
      have hat := c.at_side node hneg
      have hle := c.at_le node
      rcases (by omega : c.at node = 0 ∨ c.at node = 1) with h0 | h0
      · rw [h0]; exact rwait_0 h hM hT id node hg (by omega)
      · rw [h0]; exact rwait_1 h hM hT id node hg (by omega)
theorem nr_done {w0 w : World} {N bm X : Nat} {Mp Mr : Nm} {T : Nat} {Z : Nat → Prop} (h : NQ w0 w N bm X Mp Mr T Z) (hM : Mok Mr) (hT : T ≤ 120000000) (id node : Int) :
    Calls Try.prog 35 #[.pointer (some ⟨X, 0, none⟩), .int .i64 id, .int .i64 node] w fun e w' => e = .returned (.bool (dnB Mr id node)) ∧ Hid (Below w.heap.size w w') := by
  obtain ⟨g, P, R, _, ⟨la, lc, h⟩, _⟩ := h
  unfold dnB
  cases hg : Mr.get id with
  | none => exact rdone_none h hM hT id node hg
  | some c =>
    simp only
    have hx := c.side_le node
    by_cases hneg : c.side node < 0
    · rw [if_pos hneg]
      exact rdone_side h hM hT id node hg (by omega)
    · rw [if_neg hneg]
      have hat := c.at_side node hneg
      have hle := c.at_le node
      rcases (by omega : c.at node = 0 ∨ c.at node = 1) with h0 | h0
      · rw [h0]; exact rdone_0 h hM hT id node hg (by omega)
      · rw [h0]; exact rdone_1 h hM hT id node hg (by omega)
theorem nr_conns {w0 w : World} {N bm X : Nat} {Mp Mr : Nm} {T : Nat} {Z : Nat → Prop} (h : NQ w0 w N bm X Mp Mr T Z) (hM : Mok Mr) (hT : T ≤ 120000000) :
    Calls Try.prog 30 #[.pointer (some ⟨X, 0, none⟩)] w fun e w' => ∃ a c r, e = .returned (.slice a r.length c) ∧ Hid (r = Mr.cs.map fun c => c.id) ∧ Hid (OwnI w' w.heap.size a c r) ∧ Hid (Below w.heap.size w w') := by
  obtain ⟨g, P, R, _, ⟨la, lc, h⟩, _⟩ := h
  exact rconns_at h hM hT
#print axioms nr_ends
#print axioms nr_wait
#print axioms nr_done
#print axioms nr_conns
end Go.Proofs.Ytohlmfiicfoimaa
