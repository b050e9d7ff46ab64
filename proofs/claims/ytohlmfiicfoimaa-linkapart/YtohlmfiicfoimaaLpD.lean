/-
  link, the program's net: Send, Carry, Close, Cut, Dial, Ends, Waiting, Done by the model.
-/
import Derived.Test.YtohlmfiicfoimaaLpC
set_option linter.unusedVariables false
namespace Go.Proofs.Ytohlmfiicfoimaa
open Go.RowKit Go.Maps

def enP (M : Nm) (id : Int) : Int := match M.get id with
  | none => 0
  | some c => c.p
def enQ (M : Nm) (id : Int) : Int := match M.get id with
  | none => 0
  | some c => c.q
def waN (M : Nm) (id node : Int) : Int := match M.get id with
  | none => 0
  | some c => if c.side node < 0 then 0 else ((c.L (c.at node)).length : Int)
def waE (M : Nm) (id node : Int) : Int := match M.get id with
  | none => 30
  | some c => if c.side node < 0 then 1 else 0
def dnB (M : Nm) (id node : Int) : Bool := match M.get id with
  | none => true
  | some c => if c.side node < 0 then true else c.c (1 - c.at node) && decide (c.L (c.at node) = [])
theorem side_m1 {c : Cn} {node : Int} (h : c.side node < 0) : Hid ((-1 : Int) = if c.p = node then 0 else if c.q = node then 1 else -1) := by
  show _ = _
  have h1 := c.side_le node
  have h2 : c.side node = -1 := by omega
  unfold Cn.side at h2
  exact h2.symm
theorem side_p {c : Cn} {node : Int} (h : c.side node = 0) : node = c.p := by
  unfold Cn.side at h
  split at h
  · rename_i e; exact e.symm
  · split at h <;> omega
theorem side_q {c : Cn} {node : Int} (h : c.side node = 1) : node = c.q := by
  unfold Cn.side at h
  split at h
  · omega
  · split at h
    · rename_i e; exact e.symm
    · omega

theorem psend_all {w : World} {g : Nat → Tag} {N bm base : Nat} {M : Nm} {P : Nat → Pg} (h : PN w g N bm base M P) (hM : Mok M) (id node : Int) (hid : (Lit.int .i64 id).wf = true) (a : Option Addr) (cap : Nat) (lb : List UInt8) (hs : Bs w a cap lb) (hlb : lb.length ≤ 1000000) (hbase : base ≤ w.heap.size) :
    Calls Try.prog 21 #[.pointer (some ⟨N, 0, none⟩), .int .i64 id, .int .i64 node, .slice a lb.length cap] w fun e w' => e = .returned (.int .i64 (sdE M id node lb.length)) ∧ Hid (PEnd w w' g N bm base (sdM M id node lb)) := by
  obtain ⟨n, D, h⟩ := h
  have hok := sdM_ok hM id node lb
  cases hg : M.get id with
  | none =>
    refine (send_off N bm _ n D id node a lb.length cap w h.nt hid (h.off id hg)).mono ?_
    rintro e w' ⟨rfl, rfl⟩
    unfold sdM sdE
    rw [hg]
    exact ⟨rfl, PEnd.same h (Below.refl _ _)⟩
  | some c =>
    obtain ⟨hc, hci⟩ := Nm.get_some hg
    subst hci
    have hp := h.con c hc
    have hmo := hM.most c hc
    by_cases hneg : c.side node < 0
    · refine (send_side N bm _ n D c.id _ _ _ _ _ _ _ node a lb.length cap w h.nt hid (h.at_ c hc) hp.con (side_m1 hneg)).mono ?_
      rintro e w' ⟨rfl, hb⟩
      have e1 : sdE M c.id node lb.length = 1 := by unfold sdE; rw [hg]; simp only; rw [if_pos hneg]
      unfold sdM
      rw [hg]
      simp only
      rw [e1]
      exact ⟨rfl, PEnd.same h hb⟩
    · have hat := c.at_side node hneg
      have hle := c.at_le node
      rcases (by omega : c.at node = 0 ∨ c.at node = 1) with h0 | h0
      · have hsd : c.side node = 0 := by omega
        obtain rfl := side_p hsd
        have e1 : sdE M c.id c.p lb.length = if c.c 0 = true then 31 else if 131072 < (c.L 1).length + lb.length then 7 else 0 := by unfold sdE; rw [hg]; simp only; rw [if_neg hneg, h0]
        refine (send_c0 N bm _ n D c.id _ c.p c.q c.c (P c.id).A (P c.id).K c.L base a cap lb lb.length (sdE M c.id c.p lb.length) w h.nt hid (h.at_ c hc) hp.con (hM.ends c hc) hp.c1 hbase hs rfl (by omega) hlb e1).mono ?_
        rintro e w' ⟨rfl, ⟨hne, hb⟩ | ⟨hz, hse⟩⟩
        · refine ⟨rfl, ?_⟩
          have e2 : sdM M c.id c.p lb = M := by unfold sdM; rw [hg]; simp only; rw [if_neg hne]
          rw [e2]
          exact PEnd.same h hb
        · refine ⟨rfl, ?_⟩
          have e2 : sdM M c.id c.p lb = M.set (c.rows 1 (c.L 1 ++ lb)) := by unfold sdM; rw [hg]; simp only; rw [if_pos hz, h0]
          rw [e2] at hok ⊢
          have hl : (c.rows 1 (c.L 1 ++ lb)).live = true := hok.live _ (List.mem_map.2 ⟨c, hc, if_pos rfl⟩)
          have hfin := psent_1 h hM hc lb hl (unhide hse)
          rw [keep_live hok.live] at hfin
          exact hfin
      · have hsd : c.side node = 1 := by omega
        obtain rfl := side_q hsd
        have e1 : sdE M c.id c.q lb.length = if c.c 1 = true then 31 else if 131072 < (c.L 0).length + lb.length then 7 else 0 := by unfold sdE; rw [hg]; simp only; rw [if_neg hneg, h0]
        refine (send_c1 N bm _ n D c.id _ c.p c.q c.c (P c.id).A (P c.id).K c.L base a cap lb lb.length (sdE M c.id c.q lb.length) w h.nt hid (h.at_ c hc) hp.con (hM.ends c hc) hp.c0 hbase hs rfl (by omega) hlb e1).mono ?_
        rintro e w' ⟨rfl, ⟨hne, hb⟩ | ⟨hz, hse⟩⟩
        · refine ⟨rfl, ?_⟩
          have e2 : sdM M c.id c.q lb = M := by unfold sdM; rw [hg]; simp only; rw [if_neg hne]
          rw [e2]
          exact PEnd.same h hb
        · refine ⟨rfl, ?_⟩
          have e2 : sdM M c.id c.q lb = M.set (c.rows 0 (c.L 0 ++ lb)) := by unfold sdM; rw [hg]; simp only; rw [if_pos hz, h0]
          rw [e2] at hok ⊢
          have hl : (c.rows 0 (c.L 0 ++ lb)).live = true := hok.live _ (List.mem_map.2 ⟨c, hc, if_pos rfl⟩)
          have hfin := psent_0 h hM hc lb hl (unhide hse)
          rw [keep_live hok.live] at hfin
          exact hfin

theorem pcarry_all {w : World} {g : Nat → Tag} {N bm base : Nat} {M : Nm} {P : Nat → Pg} (h : PN w g N bm base M P) (hM : Mok M) (id node m : Int) (hid : (Lit.int .i64 id).wf = true) (hm1 : m ≤ 9223372036854775807) :
    Calls Try.prog 16 #[.pointer (some ⟨N, 0, none⟩), .int .i64 id, .int .i64 node, .int .i64 m] w fun e w' => ∃ x' k' r, e = .returned (.tuple #[.slice x' r.length k', .int .i64 (crE M id node m)]) ∧ Hid (r = crB M id node m) ∧ Hid (OwnB w' w.heap.size x' k' r) ∧ Hid (∃ P', PN w' g N bm base (crM M id node m) P' ∧ Ty w w' g g Sp) := by
  obtain ⟨n, D, h⟩ := h
  cases hg : M.get id with
  | none =>
    refine (carry_off N bm _ n D id node m w h.nt hid (h.off id hg)).mono ?_
    rintro e w' ⟨rfl, rfl⟩
    unfold crM crE crB
    rw [hg]
    exact ⟨none, 0, [], rfl, rfl, OwnB.nil _ _, P, ⟨n, D, h⟩, Ty.refl _ _ _⟩
  | some c =>
    obtain ⟨hc, hci⟩ := Nm.get_some hg
    subst hci
    have hp := h.con c hc
    have hmo := hM.most c hc
    by_cases hneg : c.side node < 0
    · refine (carry_side N bm _ n D c.id _ _ _ _ _ _ _ node m w h.nt hid (h.at_ c hc) hp.con (side_m1 hneg)).mono ?_
      rintro e w' ⟨rfl, hb⟩
      have e1 : crE M c.id node m = 1 := by unfold crE; rw [hg]; simp only; rw [if_pos (.inl hneg)]
      unfold crM crB
      rw [hg]
      simp only
      rw [e1]
      exact ⟨none, 0, [], rfl, rfl, OwnB.nil _ _, P, ⟨n, D, h.below hb⟩, Ty.of g hb⟩
    · have hat := c.at_side node hneg
      have hle := c.at_le node
      rcases (by omega : c.at node = 0 ∨ c.at node = 1) with h0 | h0
      · have hsd : c.side node = 0 := by omega
        obtain rfl := side_p hsd
        by_cases hm : m < 0
        · refine (carry_neg N bm _ n D c.id _ c.p c.q c.c _ _ _ c.p 0 m w h.nt hid (h.at_ c hc) hp.con (by show _ = _; simp) (by omega) hm).mono ?_
          rintro e w' ⟨rfl, hb⟩
          have e1 : crE M c.id c.p m = 1 := by unfold crE; rw [hg]; simp only; rw [if_pos (.inr hm)]
          unfold crM crB
          rw [hg]
          simp only
          rw [e1]
          exact ⟨none, 0, [], rfl, rfl, OwnB.nil _ _, P, ⟨n, D, h.below hb⟩, Ty.of g hb⟩
        · refine (carry_c0 N bm _ n D c.id _ c.p c.q c.c (P c.id).A (P c.id).K c.L base m _ w h.nt hid (h.at_ c hc) hp.con (hM.ends c hc) hp.c0 (by omega) (by omega) (by omega) hm1 rfl).mono ?_
          rintro e w' ⟨x', k', r, rfl, hr, ho, hcc⟩
          have e1 : crE M c.id c.p m = 0 := by unfold crE; rw [hg]; simp only; rw [if_neg (by omega)]
          have e2 : crB M c.id c.p m = (c.L 0).take (min m.toNat (c.L 0).length) := by unfold crB crN; rw [hg]; simp only; rw [if_pos e1, h0]
          have e3 : crM M c.id c.p m = (M.set (c.rows 0 ((c.L 0).drop (min m.toNat (c.L 0).length)))).keep := by unfold crM crN; rw [hg]; simp only; rw [if_pos e1, h0]
          rw [e1, e2, e3]
          exact ⟨x', k', r, rfl, hr, ho, pcarr_0 h hM hc _ (unhide hcc)⟩
      · have hsd : c.side node = 1 := by omega
        obtain rfl := side_q hsd
        by_cases hm : m < 0
        · refine (carry_neg N bm _ n D c.id _ c.p c.q c.c _ _ _ c.q 1 m w h.nt hid (h.at_ c hc) hp.con (by show _ = _; rw [if_neg (hM.ends c hc), if_pos rfl]) (by omega) hm).mono ?_
          rintro e w' ⟨rfl, hb⟩
          have e1 : crE M c.id c.q m = 1 := by unfold crE; rw [hg]; simp only; rw [if_pos (.inr hm)]
          unfold crM crB
          rw [hg]
          simp only
          rw [e1]
          exact ⟨none, 0, [], rfl, rfl, OwnB.nil _ _, P, ⟨n, D, h.below hb⟩, Ty.of g hb⟩
        · refine (carry_c1 N bm _ n D c.id _ c.p c.q c.c (P c.id).A (P c.id).K c.L base m _ w h.nt hid (h.at_ c hc) hp.con (hM.ends c hc) hp.c1 (by omega) (by omega) (by omega) hm1 rfl).mono ?_
          rintro e w' ⟨x', k', r, rfl, hr, ho, hcc⟩
          have e1 : crE M c.id c.q m = 0 := by unfold crE; rw [hg]; simp only; rw [if_neg (by omega)]
          have e2 : crB M c.id c.q m = (c.L 1).take (min m.toNat (c.L 1).length) := by unfold crB crN; rw [hg]; simp only; rw [if_pos e1, h0]
          have e3 : crM M c.id c.q m = (M.set (c.rows 1 ((c.L 1).drop (min m.toNat (c.L 1).length)))).keep := by unfold crM crN; rw [hg]; simp only; rw [if_pos e1, h0]
          rw [e1, e2, e3]
          exact ⟨x', k', r, rfl, hr, ho, pcarr_1 h hM hc _ (unhide hcc)⟩

theorem pclose_all {w : World} {g : Nat → Tag} {N bm base : Nat} {M : Nm} {P : Nat → Pg} (h : PN w g N bm base M P) (hM : Mok M) (id node : Int) (hid : (Lit.int .i64 id).wf = true) :
    Calls Try.prog 27 #[.pointer (some ⟨N, 0, none⟩), .int .i64 id, .int .i64 node] w fun e w' => e = .returned (.int .i64 (clE M id node)) ∧ Hid (PEnd w w' g N bm base (clM M id node)) := by
  obtain ⟨n, D, h⟩ := h
  cases hg : M.get id with
  | none =>
    refine (close_off N bm _ n D id node w h.nt hid (h.off id hg)).mono ?_
    rintro e w' ⟨rfl, rfl⟩
    unfold clM clE
    rw [hg]
    exact ⟨rfl, PEnd.same h (Below.refl _ _)⟩
  | some c =>
    obtain ⟨hc, hci⟩ := Nm.get_some hg
    subst hci
    have hp := h.con c hc
    have hmo := hM.most c hc
    by_cases hneg : c.side node < 0
    · refine (close_side N bm _ n D c.id _ _ _ _ _ _ _ node w h.nt hid (h.at_ c hc) hp.con (side_m1 hneg)).mono ?_
      rintro e w' ⟨rfl, hb⟩
      have e1 : clE M c.id node = 1 := by unfold clE; rw [hg]; simp only; rw [if_pos hneg]
      unfold clM
      rw [hg]
      simp only
      rw [e1]
      exact ⟨rfl, PEnd.same h hb⟩
    · have hat := c.at_side node hneg
      have hle := c.at_le node
      rcases (by omega : c.at node = 0 ∨ c.at node = 1) with h0 | h0
      · have hsd : c.side node = 0 := by omega
        obtain rfl := side_p hsd
        have e1 : clE M c.id c.p = if c.c 0 = true then 31 else 0 := by unfold clE; rw [hg]; simp only; rw [if_neg hneg, h0]
        refine (close_c0 N bm _ n D c.id _ c.p c.q c.c (P c.id).A (P c.id).K c.L w h.nt hid (h.at_ c hc) hp.con (hM.ends c hc) (by omega) (by omega) (clE M c.id c.p) e1).mono ?_
        rintro e w' ⟨rfl, ⟨hne, hb⟩ | ⟨hz, hse⟩⟩
        · refine ⟨rfl, ?_⟩
          have e2 : clM M c.id c.p = M := by unfold clM; rw [hg]; simp only; rw [if_neg hne]
          rw [e2]
          exact PEnd.same h hb
        · refine ⟨rfl, ?_⟩
          have e2 : clM M c.id c.p = (M.set (c.shut 0)).keep := by unfold clM; rw [hg]; simp only; rw [if_pos hz, h0]
          rw [e2]
          exact pclos_0 h hM hc (unhide hse)
      · have hsd : c.side node = 1 := by omega
        obtain rfl := side_q hsd
        have e1 : clE M c.id c.q = if c.c 1 = true then 31 else 0 := by unfold clE; rw [hg]; simp only; rw [if_neg hneg, h0]
        refine (close_c1 N bm _ n D c.id _ c.p c.q c.c (P c.id).A (P c.id).K c.L w h.nt hid (h.at_ c hc) hp.con (hM.ends c hc) (by omega) (by omega) (clE M c.id c.q) e1).mono ?_
        rintro e w' ⟨rfl, ⟨hne, hb⟩ | ⟨hz, hse⟩⟩
        · refine ⟨rfl, ?_⟩
          have e2 : clM M c.id c.q = M := by unfold clM; rw [hg]; simp only; rw [if_neg hne]
          rw [e2]
          exact PEnd.same h hb
        · refine ⟨rfl, ?_⟩
          have e2 : clM M c.id c.q = (M.set (c.shut 1)).keep := by unfold clM; rw [hg]; simp only; rw [if_pos hz, h0]
          rw [e2]
          exact pclos_1 h hM hc (unhide hse)

theorem pends_all {w : World} {g : Nat → Tag} {N bm base : Nat} {M : Nm} {P : Nat → Pg} (h : PN w g N bm base M P) (hM : Mok M) (id : Int) (hid : (Lit.int .i64 id).wf = true) :
    Calls Try.prog 13 #[.pointer (some ⟨N, 0, none⟩), .int .i64 id] w fun e w' => e = .returned (.tuple #[.int .i64 (enP M id), .int .i64 (enQ M id), .int .i64 (cuE M id)]) ∧ Hid (Below w.heap.size w w') := by
  obtain ⟨n, D, h⟩ := h
  unfold enP enQ cuE
  cases hg : M.get id with
  | none => exact ends_off N bm _ n D id w h.nt hid (h.off id hg)
  | some c =>
    obtain ⟨hc, hci⟩ := Nm.get_some hg
    subst hci
    exact ends_at N bm _ n D c.id _ _ _ _ _ _ _ w h.nt hid (h.at_ c hc) (h.con c hc).con
theorem pwait_all {w : World} {g : Nat → Tag} {N bm base : Nat} {M : Nm} {P : Nat → Pg} (h : PN w g N bm base M P) (hM : Mok M) (id node : Int) (hid : (Lit.int .i64 id).wf = true) :
    Calls Try.prog 33 #[.pointer (some ⟨N, 0, none⟩), .int .i64 id, .int .i64 node] w fun e w' => e = .returned (.tuple #[.int .i64 (waN M id node), .int .i64 (waE M id node)]) ∧ Hid (Below w.heap.size w w') := by
  obtain ⟨n, D, h⟩ := h
  unfold waN waE
  cases hg : M.get id with
  | none => exact waiting_off N bm _ n D id node w h.nt hid (h.off id hg)
  | some c =>
    obtain ⟨hc, hci⟩ := Nm.get_some hg
    subst hci
    simp only
    by_cases hneg : c.side node < 0
    · rw [if_pos hneg, if_pos hneg]
      exact waiting_side N bm _ n D c.id _ _ _ _ _ _ _ node w h.nt hid (h.at_ c hc) (h.con c hc).con (side_m1 hneg)
    · rw [if_neg hneg, if_neg hneg]
      have hat := c.at_side node hneg
      have hle := c.at_le node
      rcases (by omega : c.at node = 0 ∨ c.at node = 1) with h0 | h0
      · obtain rfl := side_p (show c.side node = 0 by omega)
        rw [h0]
        exact waiting_at0 N bm _ n D c.id _ _ _ _ _ _ _ w h.nt hid (h.at_ c hc) (h.con c hc).con (hM.ends c hc)
      · obtain rfl := side_q (show c.side node = 1 by omega)
        rw [h0]
        exact waiting_at1 N bm _ n D c.id _ _ _ _ _ _ _ w h.nt hid (h.at_ c hc) (h.con c hc).con (hM.ends c hc)
theorem pdone_all {w : World} {g : Nat → Tag} {N bm base : Nat} {M : Nm} {P : Nat → Pg} (h : PN w g N bm base M P) (hM : Mok M) (id node : Int) (hid : (Lit.int .i64 id).wf = true) :
    Calls Try.prog 18 #[.pointer (some ⟨N, 0, none⟩), .int .i64 id, .int .i64 node] w fun e w' => e = .returned (.bool (dnB M id node)) ∧ Hid (Below w.heap.size w w') := by
  obtain ⟨n, D, h⟩ := h
  unfold dnB
  cases hg : M.get id with
  | none => exact done_off N bm _ n D id node w h.nt hid (h.off id hg)
  | some c =>
    obtain ⟨hc, hci⟩ := Nm.get_some hg
    subst hci
    simp only
    by_cases hneg : c.side node < 0
    · rw [if_pos hneg]
      exact done_side N bm _ n D c.id _ _ _ _ _ _ _ node w h.nt hid (h.at_ c hc) (h.con c hc).con (side_m1 hneg)
    · rw [if_neg hneg]
      have hat := c.at_side node hneg
      have hle := c.at_le node
      rcases (by omega : c.at node = 0 ∨ c.at node = 1) with h0 | h0
      · obtain rfl := side_p (show c.side node = 0 by omega)
        rw [h0]
        exact done_at0 N bm _ n D c.id _ _ _ _ _ _ _ w h.nt hid (h.at_ c hc) (h.con c hc).con (hM.ends c hc)
      · obtain rfl := side_q (show c.side node = 1 by omega)
        rw [h0]
        exact done_at1 N bm _ n D c.id _ _ _ _ _ _ _ w h.nt hid (h.at_ c hc) (h.con c hc).con (hM.ends c hc)

/-! ### Cut -/
set_option maxHeartbeats 2000000 in
theorem cut_at (N bm : Nat) (last : Int) (n : Nat) (D : DataW Unit) (id : Int) (w : World) (h : NT w N bm last n D) (hid : (Lit.int .i64 id).wf = true) (ha : Maps.has D (.int .i64 id) = true) :
    Calls Try.prog 17 #[.pointer (some ⟨N, 0, none⟩), .int .i64 id] w fun e w' => e = .returned (.int .i64 0) ∧ Hid (NT w' N bm last n (D.del (.int .i64 id))) ∧ Hid (Kp w w' (fun j => j = bm)) := by
  have e0 := h.n0
  have hkey := key_of id hid
  have hown := h.own
  go_enter Try.func17, Try.ntmps17
  go_wp2_with fail
  refine (conn_v N bm last n D id w h hid ha).mono ?_
  rintro e w' ⟨⟨v, rfl⟩, rfl⟩
  go_wp2_with (at_delete; refine wpList_delete_own _ rfl _ _ 57 3 rfl 68 law Try.underlying57 _ bm n D rfl hown _ _ rfl hkey ?_; intro w2 hown2 hturn2)
  go_ret
  refine ⟨rfl, ⟨?_, hown2⟩, Kp.ofG hturn2.grown (fun k hk => by simp at hk; exact hk.symm)⟩
  rw [hturn2.grown.block N h.ltN (by simp; exact h.neNM)]
  exact h.net
set_option maxHeartbeats 2000000 in
theorem cut_off (N bm : Nat) (last : Int) (n : Nat) (D : DataW Unit) (id : Int) (w : World) (h : NT w N bm last n D) (hid : (Lit.int .i64 id).wf = true) (ha : OffC D id) :
    Calls Try.prog 17 #[.pointer (some ⟨N, 0, none⟩), .int .i64 id] w fun e w' => e = .returned (.int .i64 30) ∧ w' = w := by
  go_enter Try.func17, Try.ntmps17
  go_wp2_with fail
  refine (conn_off N bm last n D id w h hid ha).mono ?_
  rintro e w' ⟨rfl, rfl⟩
  go_wp2
  go_ret
  exact ⟨rfl, rfl⟩
theorem get_filter {M : Nm} {f : Cn → Bool} {id : Int} (h : Nm.get { M with cs := M.cs.filter f } id = none) {c : Cn} (hc : c ∈ M.cs) (hi : (c.id : Int) = id) : f c = false := by
  cases hf : f c with
  | false => rfl
  | true => exact absurd h (nm_get_of (List.mem_filter.2 ⟨hc, hf⟩) hi)
theorem pcut_all {w : World} {g : Nat → Tag} {N bm base : Nat} {M : Nm} {P : Nat → Pg} (h : PN w g N bm base M P) (hM : Mok M) (id : Int) (hid : (Lit.int .i64 id).wf = true) :
    Calls Try.prog 17 #[.pointer (some ⟨N, 0, none⟩), .int .i64 id] w fun e w' => e = .returned (.int .i64 (cuE M id)) ∧ Hid (PEnd w w' g N bm base (cuM M id)) := by
  obtain ⟨n, D, h⟩ := h
  unfold cuE cuM
  cases hg : M.get id with
  | none =>
    refine (cut_off N bm _ n D id w h.nt hid (h.off id hg)).mono ?_
    rintro e w' ⟨rfl, rfl⟩
    exact ⟨rfl, PEnd.same h (Below.refl _ _)⟩
  | some c =>
    obtain ⟨hc, hci⟩ := Nm.get_some hg
    refine (cut_at N bm _ n D id w h.nt hid (hci ▸ (h.at_ c hc).2)).mono ?_
    rintro e w' ⟨rfl, hnt, hk⟩
    have hy : Ty w w' g g Sp := Ty.ofKp (unhide hk) (fun k e => by rw [e, h.tM]; exact sp3)
    have hy3 : Ty w w' g g (fun t => t = (3, 0)) := Ty.ofKp (unhide hk) (fun k e => by rw [e]; exact h.tM)
    refine ⟨rfl, g, P, ⟨n, D.del (.int .i64 id), unhide hnt, h.hn, fun d hd => ?_, fun i hi => ?_, h.tN, h.tM, fun d hd => (h.con d (List.mem_filter.1 hd).1).ty hy3 (by simp)⟩, hy⟩
    · obtain ⟨h1, h2⟩ := List.mem_filter.1 hd
      have hk := key_ne (i := (d.id : Int)) (j := id) (by simpa using h2)
      exact ⟨(atKey_del_other hk _).trans (h.at_ d h1).1, (has_del_other hk).trans (h.at_ d h1).2⟩
    · by_cases he : i = id
      · subst he; exact has_del_same
      · have h0 : M.get i = none := by
          cases hg2 : M.get i with
          | none => rfl
          | some d =>
            obtain ⟨hd, hdi⟩ := Nm.get_some hg2
            have := get_filter hi hd hdi
            simp at this
            omega
        exact (has_del_other (key_ne he)).trans (h.off i h0)
#print axioms psend_all
#print axioms pcarry_all
#print axioms pclose_all
#print axioms pdone_all
#print axioms pcut_all
end Go.Proofs.Ytohlmfiicfoimaa
