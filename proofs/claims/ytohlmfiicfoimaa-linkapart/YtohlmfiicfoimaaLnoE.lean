/-
  A NET WITH ANY CONNECTIONS: calls on one that is not there; Carry of less than nothing; Dial.
-/
import Derived.Test.YtohlmfiicfoimaaLnoD
set_option linter.unusedVariables false
namespace Go.Proofs.Ytohlmfiicfoimaa
open Go.RowKit Go.Maps

set_option maxHeartbeats 2000000 in
theorem send_off (N bm : Nat) (last : Int) (n : Nat) (D : DataW Unit) (id node : Int) (a : Option Addr) (nb cap : Nat) (w : World) (h : NT w N bm last n D) (hid : (Lit.int .i64 id).wf = true) (ha : OffC D id) :
    Calls Try.prog 21 #[.pointer (some ⟨N, 0, none⟩), .int .i64 id, .int .i64 node, .slice a nb cap] w fun e w' => e = .returned (.int .i64 30) ∧ w' = w := by
  go_enter Try.func21, Try.ntmps21
  go_wp2_with fail
  refine (find_off N bm last n D id node w h hid ha).mono ?_
  rintro e w1 ⟨rfl, rfl⟩
  go_wp2
  go_ret
  exact ⟨rfl, rfl⟩
set_option maxHeartbeats 2000000 in
theorem carry_off (N bm : Nat) (last : Int) (n : Nat) (D : DataW Unit) (id node m : Int) (w : World) (h : NT w N bm last n D) (hid : (Lit.int .i64 id).wf = true) (ha : OffC D id) :
    Calls Try.prog 16 #[.pointer (some ⟨N, 0, none⟩), .int .i64 id, .int .i64 node, .int .i64 m] w fun e w' => e = .returned (.tuple #[.slice none 0 0, .int .i64 30]) ∧ w' = w := by
  go_enter Try.func16, Try.ntmps16
  go_wp2_with fail
  refine (find_off N bm last n D id node w h hid ha).mono ?_
  rintro e w1 ⟨rfl, rfl⟩
  go_wp2
  go_ret2
  exact ⟨rfl, rfl⟩
set_option maxHeartbeats 2000000 in
theorem close_off (N bm : Nat) (last : Int) (n : Nat) (D : DataW Unit) (id node : Int) (w : World) (h : NT w N bm last n D) (hid : (Lit.int .i64 id).wf = true) (ha : OffC D id) :
    Calls Try.prog 27 #[.pointer (some ⟨N, 0, none⟩), .int .i64 id, .int .i64 node] w fun e w' => e = .returned (.int .i64 30) ∧ w' = w := by
  go_enter Try.func27, Try.ntmps27
  go_wp2_with fail
  refine (find_off N bm last n D id node w h hid ha).mono ?_
  rintro e w1 ⟨rfl, rfl⟩
  go_wp2
  go_ret
  exact ⟨rfl, rfl⟩
set_option maxHeartbeats 2000000 in
theorem carry_neg (N bm : Nat) (last : Int) (n : Nat) (D : DataW Unit) (id : Int) (C : Nat) (p q : Int) (c : Nat → Bool) (A : Nat → Option Addr) (K : Nat → Nat) (L : Nat → List UInt8) (node r m : Int) (w : World)
    (h : NT w N bm last n D) (hid : (Lit.int .i64 id).wf = true) (ha : AtC D id C) (hc : Con w C p q c A K L) (Hr : Hid (r = if p = node then 0 else if q = node then 1 else -1)) (h0 : 0 ≤ r) (hm : m < 0) :
    Calls Try.prog 16 #[.pointer (some ⟨N, 0, none⟩), .int .i64 id, .int .i64 node, .int .i64 m] w fun e w' => e = .returned (.tuple #[.slice none 0 0, .int .i64 1]) ∧ Below w.heap.size w w' := by
  go_enter Try.func16, Try.ntmps16
  go_wp2_with fail
  refine (find_at N bm last n D id C p q (c 0) (c 1) (A 0) (L 0).length (K 0) (A 1) (L 1).length (K 1) node r w h hid ha hc Hr h0).mono ?_
  rintro e w1 ⟨rfl, hb⟩
  go_wp2
  go_ret2
  exact ⟨rfl, hb⟩

theorem isnode_b (n : Int) (b : Bool) (w : World) (Hb : Hid (b = (decide (0 ≤ n) && decide (n < 16)))) : Calls Try.prog 48 #[.int .i64 n] w fun e w' => e = .returned (.bool b) ∧ w' = w := by
  by_cases h0 : 0 ≤ n
  · by_cases h1 : n < 16
    · obtain rfl : b = true := by rw [unhide Hb]; simp [h0, h1]
      exact isnode_any n w h0 h1
    · obtain rfl : b = false := by rw [unhide Hb]; simp [h1]
      go_enter Try.func48, Try.ntmps48
      go_wp2
      go_ret
      exact ⟨rfl, rfl⟩
  · obtain rfl : b = false := by rw [unhide Hb]; simp [h0]
    go_enter Try.func48, Try.ntmps48
    go_wp2
    go_ret
    exact ⟨rfl, rfl⟩

/-- What Dial leaves: a connection with the next number. -/
def DialC (w w' : World) (N bm : Nat) (last : Int) (n : Nat) (D : DataW Unit) (a b : Int) : Prop :=
  ∃ C, w.heap.size ≤ C ∧ NT w' N bm (last + 1) (n + 1) (D.put (.int .i64 (last + 1)) (.lit (.int .i64 (C : Int)))) ∧ ConC w' C a b false false none 0 0 none 0 0 ∧ Kp w w' (fun j => j = N ∨ j = bm)

set_option maxHeartbeats 4000000 in
theorem dial_full (N bm : Nat) (last : Int) (n : Nat) (D : DataW Unit) (a b : Int) (w : World) (h : NT w N bm last n D) (ha0 : 0 ≤ a) (ha1 : a < 16) (hb0 : 0 ≤ b) (hb1 : b < 16) (hab : a ≠ b) (hf : 64 ≤ Maps.size D) :
    Calls Try.prog 20 #[.pointer (some ⟨N, 0, none⟩), .int .i64 a, .int .i64 b] w fun e w' => e = .returned (.tuple #[.int .i64 0, .int .i64 7]) ∧ w' = w := by
  have e0 := h.n0
  have hown := h.own
  have hpd : (a == b) = false := by simp [hab]
  have hfi : (64 : Int) ≤ (Maps.size D : Int) := by omega
  go_enter Try.func20, Try.ntmps20
  go_wp2_with fail
  refine (unmade_not N bm w e0).mono ?_
  rintro e w' ⟨rfl, rfl⟩
  go_wp2_with fail
  refine (isnode_any a w' ha0 ha1).mono ?_
  rintro e w'' ⟨rfl, rfl⟩
  go_wp2_with fail
  refine (isnode_any b w'' hb0 hb1).mono ?_
  rintro e w ⟨rfl, rfl⟩
  go_wp2_with (at_len; refine wpList_len_own _ rfl _ 57 rfl 3 68 Try.underlying57 _ bm n D rfl hown ?_)
  go_ret2
  exact ⟨rfl, rfl⟩

set_option maxHeartbeats 4000000 in
theorem dial_arg (N bm : Nat) (last : Int) (n : Nat) (D : DataW Unit) (a b : Int) (w : World) (h : NT w N bm last n D) (hbad : a = b ∨ ¬ (0 ≤ a ∧ a < 16) ∨ ¬ (0 ≤ b ∧ b < 16)) :
    Calls Try.prog 20 #[.pointer (some ⟨N, 0, none⟩), .int .i64 a, .int .i64 b] w fun e w' => e = .returned (.tuple #[.int .i64 0, .int .i64 1]) ∧ w' = w := by
  have e0 := h.n0
  by_cases hab : a = b
  · have hpd : (a == b) = true := by simp [hab]
    clear hbad hab
    go_enter Try.func20, Try.ntmps20
    go_wp2_with fail
    refine (unmade_not N bm w e0).mono ?_
    rintro e w' ⟨rfl, rfl⟩
    go_wp2
    go_ret2
    exact ⟨rfl, rfl⟩
  · have hpd : (a == b) = false := by simp [hab]
    by_cases ha : 0 ≤ a ∧ a < 16
    · have hb : ¬ (0 ≤ b ∧ b < 16) := by rcases hbad with h | h | h; exact absurd h hab; exact absurd ha h; exact h
      have HB : Hid (false = (decide (0 ≤ b) && decide (b < 16))) := by
        show _ = _
        symm
        simp only [Bool.and_eq_false_iff, decide_eq_false_iff_not]
        omega
      obtain ⟨ha0, ha1⟩ := ha
      clear hbad hab hb
      go_enter Try.func20, Try.ntmps20
      go_wp2_with fail
      refine (unmade_not N bm w e0).mono ?_
      rintro e w' ⟨rfl, rfl⟩
      go_wp2_with fail
      refine (isnode_any a w' ha0 ha1).mono ?_
      rintro e w'' ⟨rfl, rfl⟩
      go_wp2_with fail
      refine (isnode_b b false w'' HB).mono ?_
      rintro e w ⟨rfl, rfl⟩
      go_wp2
      go_ret2
      exact ⟨rfl, rfl⟩
    · have HA : Hid (false = (decide (0 ≤ a) && decide (a < 16))) := by
        show _ = _
        symm
        simp only [Bool.and_eq_false_iff, decide_eq_false_iff_not]
        omega
      clear hbad hab ha
      go_enter Try.func20, Try.ntmps20
      go_wp2_with fail
      refine (unmade_not N bm w e0).mono ?_
      rintro e w' ⟨rfl, rfl⟩
      go_wp2_with fail
      refine (isnode_b a false w' HA).mono ?_
      rintro e w'' ⟨rfl, rfl⟩
      go_wp2
      go_ret2
      exact ⟨rfl, rfl⟩

set_option maxHeartbeats 4000000 in
theorem dial_c (N bm : Nat) (last : Int) (n : Nat) (D : DataW Unit) (a b : Int) (w : World) (h : NT w N bm last n D) (ha0 : 0 ≤ a) (ha1 : a < 16) (hb0 : 0 ≤ b) (hb1 : b < 16) (hab : a ≠ b) (hf : Maps.size D < 64) (hl0 : 0 ≤ last) (hl1 : last < 1000000000) (hn : n < 1000000000) :
    Calls Try.prog 20 #[.pointer (some ⟨N, 0, none⟩), .int .i64 a, .int .i64 b] w fun e w' => e = .returned (.tuple #[.int .i64 (last + 1), .int .i64 0]) ∧ Hid (DialC w w' N bm last n D a b) := by
  have e0 := h.n0
  have e1 := h.n1
  have f1 : w.frozen? ⟨N, 1, none⟩ = false := frozen_of_row w N 1 _ _ h.net
  have hown := h.own
  have hpd : (a == b) = false := by simp [hab]
  have hfi : ¬ (64 : Int) ≤ (Maps.size D : Int) := by omega
  go_enter Try.func20, Try.ntmps20
  go_wp2_with fail
  refine (unmade_not N bm w e0).mono ?_
  rintro e w' ⟨rfl, rfl⟩
  go_wp2_with fail
  refine (isnode_any a w' ha0 ha1).mono ?_
  rintro e w'' ⟨rfl, rfl⟩
  go_wp2_with fail
  refine (isnode_any b w'' hb0 hb1).mono ?_
  rintro e w ⟨rfl, rfl⟩
  go_wp2_with (at_len; refine wpList_len_own _ rfl _ 57 rfl 3 68 Try.underlying57 _ bm n D rfl hown ?_)
  have hNM := h.neNM
  have hNlt := h.ltN
  have hm := h.own
  have hN := h.net
  obtain ⟨z, hz⟩ : ∃ z : Int, z = last + 1 := ⟨_, rfl⟩
  rw [← hz]
  have hzr : 0 ≤ z ∧ z ≤ 9223372036854775807 := by omega
  have hkz := key_of z (wf_i64 z hzr.1 hzr.2)
  obtain ⟨w1, hw1⟩ : ∃ w1, w1 = w.setCell ⟨N, 1, none⟩ (.int .i64 z) := ⟨_, rfl⟩
  have hN1 : w1.heap[N]? = some (.cells #[.map (some bm), .int .i64 z] 59 (0, 0)) := by
    rw [hw1]
    simp only [World.setCell, Array.getElem?_modify]
    rw [if_pos trivial, hN]
    rfl
  have g1 : w.grownBy w1 (some N) := by rw [hw1]; exact gset' w ⟨N, 1, none⟩ _
  have hm1 : w1.ownsMap Try.prog 3 ptrElem bm n D := hm.kept g1 (by simpa using hNM.symm)
  rw [← hw1]
  have hs1 : w1.heap.size = w.heap.size := by rw [hw1]; simp [World.setCell]
  have HS1 := hide hs1
  have HZ := hide hz
  have hNlt1 : N < w1.heap.size := by omega
  clear hw1 hm e0 e1 f1 hs1 hown h hz hN
  have c0 : w1.cell? ⟨N, 0, none⟩ = some (.map (some bm)) := by rw [cell_of_row w1 N 0 _ _ _ hN1]; rfl
  have c1 : w1.cell? ⟨N, 1, none⟩ = some (.int .i64 z) := by rw [cell_of_row w1 N 1 _ _ _ hN1]; rfl
  have ha : ∀ o, (w1.alloc o).heap[N]? = some (.cells #[.map (some bm), .int .i64 z] 59 (0, 0)) := fun o => by rw [Below.heap_alloc w1 o N hNlt1]; exact hN1
  have d0 : ∀ o, (w1.alloc o).cell? ⟨N, 0, none⟩ = some (.map (some bm)) := fun o => by rw [cell_of_row _ N 0 _ _ _ (ha o)]; rfl
  have d1 : ∀ o, (w1.alloc o).cell? ⟨N, 1, none⟩ = some (.int .i64 z) := fun o => by rw [cell_of_row _ N 1 _ _ _ (ha o)]; rfl
  obtain ⟨w2, hup, hown2, hturn2⟩ := ((hm1.alloc (.cells #[.int .i64 a, .bool false, .slice none 0 0, .int .i64 b, .bool false, .slice none 0 0] 83)).drew).store law Try.underlying57 (by unfold maxLen; omega) (key := .int .i64 z) (val := .pointer (some ⟨w1.heap.size, 0, none⟩)) (d := .lit (.int .i64 (w1.heap.size : Int))) (ps := []) hkz rfl
  have HA := hide ha
  clear ha
  go_region
  have hg2 := hturn2.grown
  obtain ⟨W, hW⟩ : ∃ W, W = (w1.alloc (.cells #[.int .i64 a, .bool false, .slice none 0 0, .int .i64 b, .bool false, .slice none 0 0] 83)).drew := ⟨_, rfl⟩
  have hWN : W.heap[N]? = some (.cells #[.map (some bm), .int .i64 z] 59 (0, 0)) := by rw [hW]; exact unhide HA _
  have hWC : ConC W w1.heap.size a b false false none 0 0 none 0 0 := by rw [hW]; exact heap_alloc_new w1 _
  have gW : Kp w1 W (fun j => j = N ∨ j = bm) := by rw [hW]; exact Kp.of ((Below.refl _ _).alloc (Nat.le_refl _) _).drew
  rw [← hW] at hg2
  clear hup d0 d1 HA hturn2
  have hsW : w1.heap.size < W.heap.size := hWC.lt
  have bml : bm < w1.heap.size := hm1.lt
  have hN2 : w2.heap[N]? = some (.cells #[.map (some bm), .int .i64 z] 59 (0, 0)) := by rw [hg2.block N (by omega) (by simp; exact hNM)]; exact hWN
  have hC2 : ConC w2 w1.heap.size a b false false none 0 0 none 0 0 := by
    unfold ConC
    rw [hg2.block w1.heap.size hsW (by simp; omega)]
    exact hWC
  have k1 : w2.cell? ⟨N, 1, none⟩ = some (.int .i64 z) := by rw [cell_of_row w2 N 1 _ _ _ hN2]; rfl
  clear c0 c1 hW
  go_wp2
  go_ret2
  have hz' := unhide HZ
  subst hz'
  refine ⟨rfl, w1.heap.size, Nat.le_of_eq (unhide HS1).symm, ?_, hC2, ?_⟩
  · exact ⟨hN2, hown2⟩
  · have q1 : Kp w w1 (fun j => j = N ∨ j = bm) := Kp.ofG g1 (fun k hk => by simp at hk; exact .inl hk.symm)
    exact (q1.trans gW).trans (Kp.ofG hg2 (fun k hk => by simp at hk; exact .inr hk.symm))
#print axioms dial_c
end Go.Proofs.Ytohlmfiicfoimaa
