/-
  A NET WITH ANY CONNECTIONS: Send, Carry, Close on one of them, and Dial.
-/
import Derived.Test.YtohlmfiicfoimaaLnoC
set_option linter.unusedVariables false
namespace Go.Proofs.Ytohlmfiicfoimaa
open Go.RowKit Go.Maps

/-- What Send leaves: the row on the way is longer. -/
def SentC (w w' : World) (N bm : Nat) (last : Int) (n : Nat) (D : DataW Unit) (C : Nat) (p q : Int) (c : Nat → Bool) (A : Nat → Option Addr) (K : Nat → Nat) (L : Nat → List UInt8) (t base : Nat) (lb : List UInt8) : Prop :=
  ∃ x' k' r, r = L t ++ lb ∧ NT w' N bm last n D ∧ Con w' C p q c (upd A t x') (upd K t k') (upd L t r) ∧ Cmg w' base x' k' r ∧ Kp w w' (fun j => j = C ∨ blk (A t) = some j) ∧ (blk x' = blk (A t) ∨ ∀ g, blk x' = some g → w.heap.size ≤ g)

/-- A connection in which nothing can happen any more is taken away, any other one stays. -/
def Forg (D D' : DataW Unit) (id : Int) (c : Nat → Bool) (L : Nat → List UInt8) : Prop :=
  (D' = D ∧ ¬ (c 0 = true ∧ L 0 = [] ∧ c 1 = true ∧ L 1 = [])) ∨ (D' = D.del (.int .i64 id) ∧ c 0 = true ∧ L 0 = [] ∧ c 1 = true ∧ L 1 = [])
/-- What Carry leaves: the row on the way has lost its first bytes. -/
def CarrC (w w' : World) (N bm : Nat) (last : Int) (n : Nat) (D : DataW Unit) (id : Int) (C : Nat) (p q : Int) (c : Nat → Bool) (A : Nat → Option Addr) (K : Nat → Nat) (L : Nat → List UInt8) (s base M : Nat) : Prop :=
  ∃ x' k' D', NT w' N bm last n D' ∧ Con w' C p q c (upd A s x') (upd K s k') (upd L s ((L s).drop M)) ∧ Cmg w' base x' k' ((L s).drop M) ∧ Kp w w' (fun j => j = C ∨ j = bm) ∧ (blk x' = none ∨ blk x' = blk (A s)) ∧ Forg D D' id c (upd L s ((L s).drop M))
/-- What Close leaves. -/
def ClosC (w w' : World) (N bm : Nat) (last : Int) (n : Nat) (D : DataW Unit) (id : Int) (C : Nat) (p q : Int) (c : Nat → Bool) (A : Nat → Option Addr) (K : Nat → Nat) (L : Nat → List UInt8) (s : Nat) : Prop :=
  ∃ D', NT w' N bm last n D' ∧ Con w' C p q (upd c s true) A K L ∧ Kp w w' (fun j => j = C ∨ j = bm) ∧ Forg D D' id (upd c s true) L

set_option maxHeartbeats 4000000 in
theorem send_c0 (N bm : Nat) (last : Int) (n : Nat) (D : DataW Unit) (id : Int) (C : Nat) (p q : Int) (c : Nat → Bool) (A : Nat → Option Addr) (K : Nat → Nat) (L : Nat → List UInt8) (base : Nat) (a : Option Addr) (cap : Nat) (lb : List UInt8) (nb : Nat) (code : Int) (w : World)
    (h : NT w N bm last n D) (hid : (Lit.int .i64 id).wf = true) (ha : AtC D id C) (hc : Con w C p q c A K L) (hpq : p ≠ q) (hrow : Cmg w base (A 1) (K 1) (L 1)) (hbase : base ≤ w.heap.size) (hs : Bs w a cap lb) (hnb : nb = lb.length) (hl : (L 1).length ≤ 1000000) (hlb : lb.length ≤ 1000000)
    (Hcode : Hid (code = if c 0 = true then 31 else if 131072 < (L 1).length + lb.length then 7 else 0)) :
    Calls Try.prog 21 #[.pointer (some ⟨N, 0, none⟩), .int .i64 id, .int .i64 p, .slice a nb cap] w fun e w' => e = .returned (.int .i64 code) ∧ ((code ≠ 0 ∧ Below w.heap.size w w') ∨ (code = 0 ∧ Hid (SentC w w' N bm last n D C p q c A K L 1 base lb))) := by
  subst hnb
  go_enter Try.func21, Try.ntmps21
  go_wp2_with fail
  refine (find_at N bm last n D id C p q (c 0) (c 1) (A 0) (L 0).length (K 0) (A 1) (L 1).length (K 1) p 0 w h hid ha hc (by show _ = _; simp) (by omega)).mono ?_
  rintro e w1 ⟨rfl, hb1⟩
  have h1 := h.below hb1
  have hc1 := hc.below hb1
  have hr1 := hrow.below hb1 (Nat.le_refl _)
  have hs1 := hs.below hb1 (Nat.le_refl _)
  have hsz := hb1.size
  clear h hc hrow hs
  obtain ⟨e0, e1, e2, e3, e4, e5⟩ := ConC.cells hc1
  by_cases hcl : c 0 = true
  · obtain rfl : code = 31 := by rw [unhide Hcode, if_pos hcl]
    rw [hcl] at e1
    clear Hcode hcl
    go_wp2
    go_ret
    exact ⟨rfl, .inl ⟨by omega, hb1⟩⟩
  · have hcl' : c 0 = false := by simpa using hcl
    rw [hcl'] at e1
    by_cases hfull : 131072 < (L 1).length + lb.length
    · obtain rfl : code = 7 := by rw [unhide Hcode, if_neg hcl, if_pos hfull]
      have hf : (131072 : Int) < ((L 1).length : Int) + (lb.length : Int) := by omega
      clear Hcode hcl hfull
      go_wp2
      go_ret
      exact ⟨rfl, .inl ⟨by omega, hb1⟩⟩
    · obtain rfl : code = 0 := by rw [unhide Hcode, if_neg hcl, if_neg hfull]
      have hf : ¬ (131072 : Int) < ((L 1).length : Int) + (lb.length : Int) := by omega
      clear Hcode hcl hfull
      go_wp2_with (at_builtin; refine wp_appc _ rfl _ _ rfl base (A 1) (K 1) (L 1) _ rfl rfl hr1 a cap lb _ rfl rfl hs1.row hs1.nz ?c5 ?c6 ?_)
      case c5 => omega
      case c6 => omega
      intro x2 k2 r w2 hr ho2 hg2 hfresh
      have hne := hc1.neB hr1
      have hnN := h1.neB hr1
      have hnC := h1.neC hc1
      have hc2 : Con w2 C p q c A K L := hc1.move ((unhide hg2).block C hc1.lt (fun e => hne e.symm))
      obtain ⟨g0, g1, g2, g3, g4, g5⟩ := ConC.cells hc2
      have fr := ConC.fr hc2 5
      have hk2 : Kp w1 w2 (fun j => j = C ∨ blk (A 1) = some j) := Kp.ofG (unhide hg2) (fun j hj => .inr hj)
      have hn2 := h1.kp hk2 (by rintro (h | h); exact hnC.1 h; exact hnN.1 h) (by rintro (h | h); exact hnC.2 h; exact hnN.2 h)
      have hrl : r.length ≤ 131072 := by rw [unhide hr, List.length_append]; omega
      have hne2 := hc2.neB (unhide ho2)
      have kset : Kp w2 (w2.setCell ⟨C, 5, none⟩ (.slice x2 r.length k2)) (fun j => j = C ∨ blk (A 1) = some j) := Kp.ofG (gset' w2 ⟨C, 5, none⟩ _) (fun j hj => by simp at hj; exact .inl hj.symm)
      have HQ : Hid (SentC w (w2.setCell ⟨C, 5, none⟩ (.slice x2 r.length k2)) N bm last n D C p q c A K L 1 base lb) := by
        refine ⟨x2, k2, r, unhide hr, hn2.kp kset (by rintro (h | h); exact hnC.1 h; exact hnN.1 h) (by rintro (h | h); exact hnC.2 h; exact hnN.2 h), hc2.setRow (t := 1) (e := 3) (by simp) x2 k2 r, (unhide ho2).kept (gset' w2 ⟨C, 5, none⟩ _) (fun g hg => by simp; intro e; subst e; exact hne2 hg), ((Kp.of hb1).trans hk2).trans kset, ?_⟩
        rcases unhide hfresh with h | h
        · exact .inl h
        · exact .inr (fun g hg => Nat.le_trans hsz (h g hg))
      clear hr ho2 hg2 hfresh hne hnN hnC hc2 hk2 hn2 hne2 kset h1 hc1 hr1 hs1 e0 e1 e2 e3 e4 e5
      go_wp2
      go_ret
      exact ⟨rfl, HQ⟩
#print axioms send_c0

set_option maxHeartbeats 4000000 in
theorem send_c1 (N bm : Nat) (last : Int) (n : Nat) (D : DataW Unit) (id : Int) (C : Nat) (p q : Int) (c : Nat → Bool) (A : Nat → Option Addr) (K : Nat → Nat) (L : Nat → List UInt8) (base : Nat) (a : Option Addr) (cap : Nat) (lb : List UInt8) (nb : Nat) (code : Int) (w : World)
    (h : NT w N bm last n D) (hid : (Lit.int .i64 id).wf = true) (ha : AtC D id C) (hc : Con w C p q c A K L) (hpq : p ≠ q) (hrow : Cmg w base (A 0) (K 0) (L 0)) (hbase : base ≤ w.heap.size) (hs : Bs w a cap lb) (hnb : nb = lb.length) (hl : (L 0).length ≤ 1000000) (hlb : lb.length ≤ 1000000)
    (Hcode : Hid (code = if c 1 = true then 31 else if 131072 < (L 0).length + lb.length then 7 else 0)) :
    Calls Try.prog 21 #[.pointer (some ⟨N, 0, none⟩), .int .i64 id, .int .i64 q, .slice a nb cap] w fun e w' => e = .returned (.int .i64 code) ∧ ((code ≠ 0 ∧ Below w.heap.size w w') ∨ (code = 0 ∧ Hid (SentC w w' N bm last n D C p q c A K L 0 base lb))) := by
  subst hnb
  go_enter Try.func21, Try.ntmps21
  go_wp2_with fail
  refine (find_at N bm last n D id C p q (c 0) (c 1) (A 0) (L 0).length (K 0) (A 1) (L 1).length (K 1) q 1 w h hid ha hc (by show _ = _; rw [if_neg hpq, if_pos rfl]) (by omega)).mono ?_
  rintro e w1 ⟨rfl, hb1⟩
  have h1 := h.below hb1
  have hc1 := hc.below hb1
  have hr1 := hrow.below hb1 (Nat.le_refl _)
  have hs1 := hs.below hb1 (Nat.le_refl _)
  have hsz := hb1.size
  clear h hc hrow hs
  obtain ⟨e0, e1, e2, e3, e4, e5⟩ := ConC.cells hc1
  by_cases hcl : c 1 = true
  · obtain rfl : code = 31 := by rw [unhide Hcode, if_pos hcl]
    rw [hcl] at e4
    clear Hcode hcl
    go_wp2
    go_ret
    exact ⟨rfl, .inl ⟨by omega, hb1⟩⟩
  · have hcl' : c 1 = false := by simpa using hcl
    rw [hcl'] at e4
    by_cases hfull : 131072 < (L 0).length + lb.length
    · obtain rfl : code = 7 := by rw [unhide Hcode, if_neg hcl, if_pos hfull]
      have hf : (131072 : Int) < ((L 0).length : Int) + (lb.length : Int) := by omega
      clear Hcode hcl hfull
      go_wp2
      go_ret
      exact ⟨rfl, .inl ⟨by omega, hb1⟩⟩
    · obtain rfl : code = 0 := by rw [unhide Hcode, if_neg hcl, if_neg hfull]
      have hf : ¬ (131072 : Int) < ((L 0).length : Int) + (lb.length : Int) := by omega
      clear Hcode hcl hfull
      go_wp2_with (at_builtin; refine wp_appc _ rfl _ _ rfl base (A 0) (K 0) (L 0) _ rfl rfl hr1 a cap lb _ rfl rfl hs1.row hs1.nz ?c5 ?c6 ?_)
      case c5 => omega
      case c6 => omega
      intro x2 k2 r w2 hr ho2 hg2 hfresh
      have hne := hc1.neB hr1
      have hnN := h1.neB hr1
      have hnC := h1.neC hc1
      have hc2 : Con w2 C p q c A K L := hc1.move ((unhide hg2).block C hc1.lt (fun e => hne e.symm))
      obtain ⟨g0, g1, g2, g3, g4, g5⟩ := ConC.cells hc2
      have fr := ConC.fr hc2 2
      have hk2 : Kp w1 w2 (fun j => j = C ∨ blk (A 0) = some j) := Kp.ofG (unhide hg2) (fun j hj => .inr hj)
      have hn2 := h1.kp hk2 (by rintro (h | h); exact hnC.1 h; exact hnN.1 h) (by rintro (h | h); exact hnC.2 h; exact hnN.2 h)
      have hrl : r.length ≤ 131072 := by rw [unhide hr, List.length_append]; omega
      have hne2 := hc2.neB (unhide ho2)
      have kset : Kp w2 (w2.setCell ⟨C, 2, none⟩ (.slice x2 r.length k2)) (fun j => j = C ∨ blk (A 0) = some j) := Kp.ofG (gset' w2 ⟨C, 2, none⟩ _) (fun j hj => by simp at hj; exact .inl hj.symm)
      have HQ : Hid (SentC w (w2.setCell ⟨C, 2, none⟩ (.slice x2 r.length k2)) N bm last n D C p q c A K L 0 base lb) := by
        refine ⟨x2, k2, r, unhide hr, hn2.kp kset (by rintro (h | h); exact hnC.1 h; exact hnN.1 h) (by rintro (h | h); exact hnC.2 h; exact hnN.2 h), hc2.setRow (t := 0) (e := 0) (by simp) x2 k2 r, (unhide ho2).kept (gset' w2 ⟨C, 2, none⟩ _) (fun g hg => by simp; intro e; subst e; exact hne2 hg), ((Kp.of hb1).trans hk2).trans kset, ?_⟩
        rcases unhide hfresh with h | h
        · exact .inl h
        · exact .inr (fun g hg => Nat.le_trans hsz (h g hg))
      clear hr ho2 hg2 hfresh hne hnN hnC hc2 hk2 hn2 hne2 kset h1 hc1 hr1 hs1 e0 e1 e2 e3 e4 e5
      go_wp2
      go_ret
      exact ⟨rfl, HQ⟩
#print axioms send_c1

set_option maxHeartbeats 4000000 in
theorem carry_c0 (N bm : Nat) (last : Int) (n : Nat) (D : DataW Unit) (id : Int) (C : Nat) (p q : Int) (c : Nat → Bool) (A : Nat → Option Addr) (K : Nat → Nat) (L : Nat → List UInt8) (base : Nat) (m : Int) (M : Nat) (w : World)
    (h : NT w N bm last n D) (hid : (Lit.int .i64 id).wf = true) (ha : AtC D id C) (hc : Con w C p q c A K L) (hpq : p ≠ q) (hrow : Cmg w base (A 0) (K 0) (L 0)) (hl : (L 0).length ≤ 1000000) (hl2 : (L 1).length ≤ 1000000) (hm : 0 ≤ m) (hm1 : m ≤ 9223372036854775807) (HM : Hid (M = min m.toNat (L 0).length)) :
    Calls Try.prog 16 #[.pointer (some ⟨N, 0, none⟩), .int .i64 id, .int .i64 p, .int .i64 m] w fun e w' => ∃ a' cap' r, e = .returned (.tuple #[.slice a' r.length cap', .int .i64 0]) ∧ Hid (r = (L 0).take M) ∧ Hid (OwnB w' w.heap.size a' cap' r) ∧ Hid (CarrC w w' N bm last n D id C p q c A K L 0 base M) := by
  go_enter Try.func16, Try.ntmps16
  go_wp2_with fail
  refine (find_at N bm last n D id C p q (c 0) (c 1) (A 0) (L 0).length (K 0) (A 1) (L 1).length (K 1) p 0 w h hid ha hc (by show _ = _; simp) (by omega)).mono ?_
  rintro e w1 ⟨rfl, hb1⟩
  have h1 := h.below hb1
  have hc1 := hc.below hb1
  have hr1 := hrow.below hb1 (Nat.le_refl _)
  have hsz := hb1.size
  clear h hc hrow
  have hcell := (ConC.cells hc1).2.2.1
  have hfr := ConC.fr hc1 2
  have hne := hc1.neB hr1
  have hnN := h1.neB hr1
  have hnC := h1.neC hc1
  have hneg : ¬ m < 0 := by omega
  go_wp2_with fail
  refine (take_c C 0 base (A 0) (K 0) (L 0) m M w1 hcell hfr hr1 hne hl hm hm1 HM).mono ?_
  rintro e w2 ⟨a1, cap1, r, x2, k2, w1', rfl, hr, ho, hb2, hw2, hbx, hC2⟩
  have hsz2 := hb2.size
  have hc1' := hc1.below hb2
  have h1' := h1.below hb2
  have hne2 := hc1'.neB (unhide hC2)
  have hnC' := h1'.neC hc1'
  have hlo := (unhide ho).lt
  have gs := gset' w1' ⟨C, 2, none⟩ (.slice x2 ((L 0).drop M).length k2)
  have hc2 : Con w2 C p q c (upd A 0 x2) (upd K 0 k2) (upd L 0 ((L 0).drop M)) := by rw [hw2]; exact hc1'.setRow (t := 0) (e := 0) (by simp) x2 k2 _
  have kset : Kp w1' w2 (fun j => j = C ∨ j = bm) := by rw [hw2]; exact Kp.ofG gs (fun j hj => by simp at hj; exact .inl hj.symm)
  have h2 : NT w2 N bm last n D := by rw [hw2]; exact h1'.kp (S := fun j => j = C) (Kp.ofG gs (fun j hj => by simp at hj; exact hj.symm)) hnC'.1 hnC'.2
  have hC2' : Cmg w2 base x2 k2 ((L 0).drop M) := by rw [hw2]; exact (unhide hC2).kept gs (fun g hg => by simp; intro e; subst e; exact hne2 hg)
  have ho2 : OwnB w2 w.heap.size a1 cap1 r := by
    rw [hw2]
    refine ((unhide ho).base hsz).kept gs (.inr ?_)
    intro e
    have := (hlo C e).1
    have := hc1.lt
    omega
  have kp2 : Kp w w2 (fun j => j = C ∨ j = bm) := ((Kp.of hb1).trans (Kp.of hb2)).trans kset
  have hlz : (upd L 0 ((L 0).drop M) 0).length ≤ 1000000 := by simp [upd]; omega
  have hlz1 : (upd L 0 ((L 0).drop M) 1).length ≤ 1000000 := by simp [upd]; omega
  have HR := hr
  have HX := hbx
  clear h1 hc1 hr1 hcell hfr hne hnN hnC ho hb2 hw2 hc1' h1' hne2 hnC' hlo gs kset hC2 hr hbx
  go_wp2_with fail
  refine (forget_any N bm last n D id C p q c _ _ _ w2 h2 hid ha hc2 hlz hlz1).mono ?_
  rintro e w3 ⟨rfl, D', h3, hk3, hD⟩
  have hc3 : Con w3 C p q c (upd A 0 x2) (upd K 0 k2) (upd L 0 ((L 0).drop M)) := hc2.move (hk3.block C hc2.lt (fun e => (h2.neC hc2).2 e.symm))
  have hC3 := hC2'.kp hk3 (fun g hg e => by subst e; exact (h2.neB hC2').2 hg)
  have ho3 : OwnB w3 w.heap.size a1 cap1 r := hk3.own ho2 (fun g hg e => by subst e; exact (h2.neB ho2.toCmg).2 hg)
  have kp3 : Kp w w3 (fun j => j = C ∨ j = bm) := kp2.trans ⟨hk3.os, hk3.tape, hk3.output, hk3.size, fun j hj hs => hk3.block j hj (fun e => hs (.inr e))⟩
  have HQ : Hid (CarrC w w3 N bm last n D id C p q c A K L 0 base M) := ⟨x2, k2, D', h3, hc3, hC3, kp3, unhide HX, unhide hD⟩
  have HO := hide ho3
  clear h2 hc2 hC2' ho2 kp2 h3 hk3 hD hc3 hC3 ho3 kp3 HX
  go_wp2
  go_ret2
  exact ⟨a1, cap1, r, rfl, HR, HO, HQ⟩
#print axioms carry_c0
set_option maxHeartbeats 4000000 in
theorem close_c0 (N bm : Nat) (last : Int) (n : Nat) (D : DataW Unit) (id : Int) (C : Nat) (p q : Int) (c : Nat → Bool) (A : Nat → Option Addr) (K : Nat → Nat) (L : Nat → List UInt8) (w : World)
    (h : NT w N bm last n D) (hid : (Lit.int .i64 id).wf = true) (ha : AtC D id C) (hc : Con w C p q c A K L) (hpq : p ≠ q) (hl : (L 0).length ≤ 1000000) (hl2 : (L 1).length ≤ 1000000) (code : Int) (Hcode : Hid (code = if c 0 = true then 31 else 0)) :
    Calls Try.prog 27 #[.pointer (some ⟨N, 0, none⟩), .int .i64 id, .int .i64 p] w fun e w' => e = .returned (.int .i64 code) ∧ ((code ≠ 0 ∧ Below w.heap.size w w') ∨ (code = 0 ∧ Hid (ClosC w w' N bm last n D id C p q c A K L 0))) := by
  go_enter Try.func27, Try.ntmps27
  go_wp2_with fail
  refine (find_at N bm last n D id C p q (c 0) (c 1) (A 0) (L 0).length (K 0) (A 1) (L 1).length (K 1) p 0 w h hid ha hc (by show _ = _; simp) (by omega)).mono ?_
  rintro e w1 ⟨rfl, hb1⟩
  have h1 := h.below hb1
  have hc1 := hc.below hb1
  have hsz := hb1.size
  clear h hc
  obtain ⟨e0, e1, e2, e3, e4, e5⟩ := ConC.cells hc1
  by_cases hcl : c 0 = true
  · obtain rfl : code = 31 := by rw [unhide Hcode, if_pos hcl]
    rw [hcl] at e1
    clear Hcode hcl
    go_wp2
    go_ret
    exact ⟨rfl, .inl ⟨by omega, hb1⟩⟩
  · have hcl' : c 0 = false := by simpa using hcl
    obtain rfl : code = 0 := by rw [unhide Hcode, if_neg hcl]
    rw [hcl'] at e1
    have fr := ConC.fr hc1 1
    have hnC := h1.neC hc1
    have gs := gset' w1 ⟨C, 1, none⟩ (.bool true)
    have h2 : NT (w1.setCell ⟨C, 1, none⟩ (.bool true)) N bm last n D := h1.kp (S := fun j => j = C) (Kp.ofG gs (fun j hj => by simp at hj; exact hj.symm)) hnC.1 hnC.2
    have hc2 : Con (w1.setCell ⟨C, 1, none⟩ (.bool true)) C p q (upd c 0 true) A K L := hc1.setCl (t := 0) (e := 0) (by simp) true
    have kp2 : Kp w (w1.setCell ⟨C, 1, none⟩ (.bool true)) (fun j => j = C ∨ j = bm) := (Kp.of hb1).trans (Kp.ofG gs (fun j hj => by simp at hj; exact .inl hj.symm))
    have hlz : (L 0).length ≤ 1000000 := by omega
    have hlz1 : (L 1).length ≤ 1000000 := by omega
    clear hcl Hcode h1 hc1 hnC gs
    go_wp2_with fail
    refine (forget_any N bm last n D id C p q (upd c 0 true) A K L _ h2 hid ha hc2 hlz hlz1).mono ?_
    rintro e w3 ⟨rfl, D', h3, hk3, hD⟩
    have hc3 : Con w3 C p q (upd c 0 true) A K L := hc2.move (hk3.block C hc2.lt (fun e => (h2.neC hc2).2 e.symm))
    have kp3 : Kp w w3 (fun j => j = C ∨ j = bm) := kp2.trans ⟨hk3.os, hk3.tape, hk3.output, hk3.size, fun j hj hs => hk3.block j hj (fun e => hs (.inr e))⟩
    have HQ : Hid (ClosC w w3 N bm last n D id C p q c A K L 0) := ⟨D', h3, hc3, kp3, unhide hD⟩
    clear h2 hc2 kp2 h3 hk3 hD hc3 kp3
    go_wp2
    go_ret
    exact ⟨rfl, HQ⟩
#print axioms close_c0

set_option maxHeartbeats 4000000 in
theorem carry_c1 (N bm : Nat) (last : Int) (n : Nat) (D : DataW Unit) (id : Int) (C : Nat) (p q : Int) (c : Nat → Bool) (A : Nat → Option Addr) (K : Nat → Nat) (L : Nat → List UInt8) (base : Nat) (m : Int) (M : Nat) (w : World)
    (h : NT w N bm last n D) (hid : (Lit.int .i64 id).wf = true) (ha : AtC D id C) (hc : Con w C p q c A K L) (hpq : p ≠ q) (hrow : Cmg w base (A 1) (K 1) (L 1)) (hl : (L 1).length ≤ 1000000) (hl2 : (L 0).length ≤ 1000000) (hm : 0 ≤ m) (hm1 : m ≤ 9223372036854775807) (HM : Hid (M = min m.toNat (L 1).length)) :
    Calls Try.prog 16 #[.pointer (some ⟨N, 0, none⟩), .int .i64 id, .int .i64 q, .int .i64 m] w fun e w' => ∃ a' cap' r, e = .returned (.tuple #[.slice a' r.length cap', .int .i64 0]) ∧ Hid (r = (L 1).take M) ∧ Hid (OwnB w' w.heap.size a' cap' r) ∧ Hid (CarrC w w' N bm last n D id C p q c A K L 1 base M) := by
  go_enter Try.func16, Try.ntmps16
  go_wp2_with fail
  refine (find_at N bm last n D id C p q (c 0) (c 1) (A 0) (L 0).length (K 0) (A 1) (L 1).length (K 1) q 1 w h hid ha hc (by show _ = _; rw [if_neg hpq, if_pos rfl]) (by omega)).mono ?_
  rintro e w1 ⟨rfl, hb1⟩
  have h1 := h.below hb1
  have hc1 := hc.below hb1
  have hr1 := hrow.below hb1 (Nat.le_refl _)
  have hsz := hb1.size
  clear h hc hrow
  have hcell := (ConC.cells hc1).2.2.2.2.2
  have hfr := ConC.fr hc1 5
  have hne := hc1.neB hr1
  have hnN := h1.neB hr1
  have hnC := h1.neC hc1
  have hneg : ¬ m < 0 := by omega
  go_wp2_with fail
  refine (take_c C 3 base (A 1) (K 1) (L 1) m M w1 hcell hfr hr1 hne hl hm hm1 HM).mono ?_
  rintro e w2 ⟨a1, cap1, r, x2, k2, w1', rfl, hr, ho, hb2, hw2, hbx, hC2⟩
  have hsz2 := hb2.size
  have hc1' := hc1.below hb2
  have h1' := h1.below hb2
  have hne2 := hc1'.neB (unhide hC2)
  have hnC' := h1'.neC hc1'
  have hlo := (unhide ho).lt
  have gs := gset' w1' ⟨C, 5, none⟩ (.slice x2 ((L 1).drop M).length k2)
  have hc2 : Con w2 C p q c (upd A 1 x2) (upd K 1 k2) (upd L 1 ((L 1).drop M)) := by rw [hw2]; exact hc1'.setRow (t := 1) (e := 3) (by simp) x2 k2 _
  have kset : Kp w1' w2 (fun j => j = C ∨ j = bm) := by rw [hw2]; exact Kp.ofG gs (fun j hj => by simp at hj; exact .inl hj.symm)
  have h2 : NT w2 N bm last n D := by rw [hw2]; exact h1'.kp (S := fun j => j = C) (Kp.ofG gs (fun j hj => by simp at hj; exact hj.symm)) hnC'.1 hnC'.2
  have hC2' : Cmg w2 base x2 k2 ((L 1).drop M) := by rw [hw2]; exact (unhide hC2).kept gs (fun g hg => by simp; intro e; subst e; exact hne2 hg)
  have ho2 : OwnB w2 w.heap.size a1 cap1 r := by
    rw [hw2]
    refine ((unhide ho).base hsz).kept gs (.inr ?_)
    intro e
    have := (hlo C e).1
    have := hc1.lt
    omega
  have kp2 : Kp w w2 (fun j => j = C ∨ j = bm) := ((Kp.of hb1).trans (Kp.of hb2)).trans kset
  have hlz : (upd L 1 ((L 1).drop M) 0).length ≤ 1000000 := by simp [upd]; omega
  have hlz1 : (upd L 1 ((L 1).drop M) 1).length ≤ 1000000 := by simp [upd]; omega
  have HR := hr
  have HX := hbx
  clear h1 hc1 hr1 hcell hfr hne hnN hnC ho hb2 hw2 hc1' h1' hne2 hnC' hlo gs kset hC2 hr hbx
  go_wp2_with fail
  refine (forget_any N bm last n D id C p q c _ _ _ w2 h2 hid ha hc2 hlz hlz1).mono ?_
  rintro e w3 ⟨rfl, D', h3, hk3, hD⟩
  have hc3 : Con w3 C p q c (upd A 1 x2) (upd K 1 k2) (upd L 1 ((L 1).drop M)) := hc2.move (hk3.block C hc2.lt (fun e => (h2.neC hc2).2 e.symm))
  have hC3 := hC2'.kp hk3 (fun g hg e => by subst e; exact (h2.neB hC2').2 hg)
  have ho3 : OwnB w3 w.heap.size a1 cap1 r := hk3.own ho2 (fun g hg e => by subst e; exact (h2.neB ho2.toCmg).2 hg)
  have kp3 : Kp w w3 (fun j => j = C ∨ j = bm) := kp2.trans ⟨hk3.os, hk3.tape, hk3.output, hk3.size, fun j hj hs => hk3.block j hj (fun e => hs (.inr e))⟩
  have HQ : Hid (CarrC w w3 N bm last n D id C p q c A K L 1 base M) := ⟨x2, k2, D', h3, hc3, hC3, kp3, unhide HX, unhide hD⟩
  have HO := hide ho3
  clear h2 hc2 hC2' ho2 kp2 h3 hk3 hD hc3 hC3 ho3 kp3 HX
  go_wp2
  go_ret2
  exact ⟨a1, cap1, r, rfl, HR, HO, HQ⟩
#print axioms carry_c1
set_option maxHeartbeats 4000000 in
theorem close_c1 (N bm : Nat) (last : Int) (n : Nat) (D : DataW Unit) (id : Int) (C : Nat) (p q : Int) (c : Nat → Bool) (A : Nat → Option Addr) (K : Nat → Nat) (L : Nat → List UInt8) (w : World)
    (h : NT w N bm last n D) (hid : (Lit.int .i64 id).wf = true) (ha : AtC D id C) (hc : Con w C p q c A K L) (hpq : p ≠ q) (hl : (L 1).length ≤ 1000000) (hl2 : (L 0).length ≤ 1000000) (code : Int) (Hcode : Hid (code = if c 1 = true then 31 else 0)) :
    Calls Try.prog 27 #[.pointer (some ⟨N, 0, none⟩), .int .i64 id, .int .i64 q] w fun e w' => e = .returned (.int .i64 code) ∧ ((code ≠ 0 ∧ Below w.heap.size w w') ∨ (code = 0 ∧ Hid (ClosC w w' N bm last n D id C p q c A K L 1))) := by
  go_enter Try.func27, Try.ntmps27
  go_wp2_with fail
  refine (find_at N bm last n D id C p q (c 0) (c 1) (A 0) (L 0).length (K 0) (A 1) (L 1).length (K 1) q 1 w h hid ha hc (by show _ = _; rw [if_neg hpq, if_pos rfl]) (by omega)).mono ?_
  rintro e w1 ⟨rfl, hb1⟩
  have h1 := h.below hb1
  have hc1 := hc.below hb1
  have hsz := hb1.size
  clear h hc
  obtain ⟨e0, e1, e2, e3, e4, e5⟩ := ConC.cells hc1
  by_cases hcl : c 1 = true
  · obtain rfl : code = 31 := by rw [unhide Hcode, if_pos hcl]
    rw [hcl] at e4
    clear Hcode hcl
    go_wp2
    go_ret
    exact ⟨rfl, .inl ⟨by omega, hb1⟩⟩
  · have hcl' : c 1 = false := by simpa using hcl
    obtain rfl : code = 0 := by rw [unhide Hcode, if_neg hcl]
    rw [hcl'] at e4
    have fr := ConC.fr hc1 4
    have hnC := h1.neC hc1
    have gs := gset' w1 ⟨C, 4, none⟩ (.bool true)
    have h2 : NT (w1.setCell ⟨C, 4, none⟩ (.bool true)) N bm last n D := h1.kp (S := fun j => j = C) (Kp.ofG gs (fun j hj => by simp at hj; exact hj.symm)) hnC.1 hnC.2
    have hc2 : Con (w1.setCell ⟨C, 4, none⟩ (.bool true)) C p q (upd c 1 true) A K L := hc1.setCl (t := 1) (e := 3) (by simp) true
    have kp2 : Kp w (w1.setCell ⟨C, 4, none⟩ (.bool true)) (fun j => j = C ∨ j = bm) := (Kp.of hb1).trans (Kp.ofG gs (fun j hj => by simp at hj; exact .inl hj.symm))
    have hlz : (L 0).length ≤ 1000000 := by omega
    have hlz1 : (L 1).length ≤ 1000000 := by omega
    clear hcl Hcode h1 hc1 hnC gs
    go_wp2_with fail
    refine (forget_any N bm last n D id C p q (upd c 1 true) A K L _ h2 hid ha hc2 hlz hlz1).mono ?_
    rintro e w3 ⟨rfl, D', h3, hk3, hD⟩
    have hc3 : Con w3 C p q (upd c 1 true) A K L := hc2.move (hk3.block C hc2.lt (fun e => (h2.neC hc2).2 e.symm))
    have kp3 : Kp w w3 (fun j => j = C ∨ j = bm) := kp2.trans ⟨hk3.os, hk3.tape, hk3.output, hk3.size, fun j hj hs => hk3.block j hj (fun e => hs (.inr e))⟩
    have HQ : Hid (ClosC w w3 N bm last n D id C p q c A K L 1) := ⟨D', h3, hc3, kp3, unhide hD⟩
    clear h2 hc2 kp2 h3 hk3 hD hc3 kp3
    go_wp2
    go_ret
    exact ⟨rfl, HQ⟩
#print axioms close_c1
end Go.Proofs.Ytohlmfiicfoimaa
