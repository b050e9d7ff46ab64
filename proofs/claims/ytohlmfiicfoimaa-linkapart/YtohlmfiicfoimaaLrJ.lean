/-
  link, the document's own net: each call, by the model.
-/
import Derived.Test.YtohlmfiicfoimaaLrE
import Derived.Test.YtohlmfiicfoimaaLrF
import Derived.Test.YtohlmfiicfoimaaLrG
import Derived.Test.YtohlmfiicfoimaaLrH
set_option linter.unusedVariables false
namespace Go.Proofs.Ytohlmfiicfoimaa
open Go.RowKit Go.Maps

def Sr (t : Tag) : Prop := t.1 = 2 ∨ t.1 = 4
theorem sr2 (i : Nat) : Sr (2, i) := .inl rfl
theorem sr4 : Sr (4, 0) := .inr rfl
def REnd (w w' : World) (g : Nat → Tag) (X base : Nat) (M' : Nm) (T' : Nat) : Prop := ∃ g' R', RN w' g' X base M' R' T' ∧ Ty w w' g g' Sr
theorem REnd.same {w w' : World} {g : Nat → Tag} {X base : Nat} {M : Nm} {R : Nat → Rg} {T T' : Nat} {la : Option Addr} {lc : Nat} (h : RNL w g X base M R T la lc) (hb : Below w.heap.size w w') (hT : T ≤ T') : REnd w w' g X base M T' :=
  ⟨g, R, RN.up ⟨la, lc, h.below hb⟩ hT, Ty.of g hb⟩

theorem rsend_all {w : World} {g : Nat → Tag} {X base : Nat} {M : Nm} {R : Nat → Rg} {T : Nat} (h : RN w g X base M R T) (hM : Mok M) (hT : T ≤ 120000000) (id node : Int) (a : Option Addr) (cap : Nat) (lb : List UInt8) (hs : Bs w a cap lb) (hlb : lb.length ≤ 120000000) (hbase : base ≤ w.heap.size) :
    Calls Try.prog 25 #[.pointer (some ⟨X, 0, none⟩), .int .i64 id, .int .i64 node, .slice a lb.length cap] w fun e w' => e = .returned (.int .i64 (sdE M id node lb.length)) ∧ Hid (REnd w w' g X base (sdM M id node lb) (T + lb.length)) := by
  obtain ⟨la, lc, h⟩ := h
  cases hg : M.get id with
  | none =>
    refine (rsend_none h hM hT id node a cap lb hg).mono ?_
    rintro e w' ⟨rfl, rfl⟩
    unfold sdM sdE
    rw [hg]
    exact ⟨rfl, REnd.same h (Below.refl _ _) (Nat.le_add_right _ _)⟩
  | some c =>
    have hx := c.side_le node
    by_cases hneg : c.side node < 0
    · refine (rsend_side h hM hT id node a cap lb hg (by omega)).mono ?_
      rintro e w' ⟨rfl, rfl⟩
      have e1 : sdE M id node lb.length = 1 := by unfold sdE; rw [hg]; simp only; rw [if_pos hneg]
      unfold sdM
      rw [hg]
      simp only
      rw [e1]
      exact ⟨rfl, REnd.same h (Below.refl _ _) (Nat.le_add_right _ _)⟩
    · have hat := c.at_side node hneg
      rcases (by omega : c.at node = 0 ∨ c.at node = 1) with h0 | h0
      · have hsd : c.side node = 0 := by omega
        cases hcl : c.c 0 with
        | true =>
          refine (rsend_shut_0 h hM hT id node a cap lb hg hsd hcl).mono ?_
          rintro e w' ⟨rfl, rfl⟩
          have e1 : sdE M id node lb.length = 31 := by unfold sdE; rw [hg]; simp only; rw [if_neg hneg, h0, if_pos hcl]
          unfold sdM
          rw [hg]
          simp only
          rw [e1]
          exact ⟨rfl, REnd.same h (Below.refl _ _) (Nat.le_add_right _ _)⟩
        | false =>
          have hcl' : ¬ c.c 0 = true := by rw [hcl]; simp
          by_cases hfit : (c.L 1).length + lb.length ≤ 131072
          · refine (rsend_0 h hM hT id node a cap lb hs hlb hg hsd hcl hfit hbase).mono ?_
            rintro e w' ⟨rfl, g', r', h1, h2, h3⟩
            have e1 : sdE M id node lb.length = 0 := by unfold sdE; rw [hg]; simp only; rw [if_neg hneg, h0, if_neg hcl', if_neg (by first | (show ¬ 131072 < (c.L 1).length + _; omega) | (show ¬ 131072 < (c.L 0).length + _; omega))]
            unfold sdM
            rw [hg]
            simp only
            rw [e1, h0]
            exact ⟨rfl, g', _, ⟨la, lc, h.set1 (c' := c.rows 1 (c.L 1 ++ lb)) (unhide h1) (unhide h3) (unhide h2) (Nat.le_add_right _ _)⟩, (unhide h3).mono (fun t ht => by rw [ht]; exact sr2 _)⟩
          · refine (rsend_full_0 h hM hT id node a cap lb hg hsd hcl hfit hlb).mono ?_
            rintro e w' ⟨rfl, hb⟩
            have e1 : sdE M id node lb.length = 7 := by unfold sdE; rw [hg]; simp only; rw [if_neg hneg, h0, if_neg hcl', if_pos (by first | (show 131072 < (c.L 1).length + _; omega) | (show 131072 < (c.L 0).length + _; omega))]
            unfold sdM
            rw [hg]
            simp only
            rw [e1]
            exact ⟨rfl, REnd.same h hb (Nat.le_add_right _ _)⟩
      · have hsd : c.side node = 1 := by omega
        cases hcl : c.c 1 with
        | true =>
          refine (rsend_shut_1 h hM hT id node a cap lb hg hsd hcl).mono ?_
          rintro e w' ⟨rfl, rfl⟩
          have e1 : sdE M id node lb.length = 31 := by unfold sdE; rw [hg]; simp only; rw [if_neg hneg, h0, if_pos hcl]
          unfold sdM
          rw [hg]
          simp only
          rw [e1]
          exact ⟨rfl, REnd.same h (Below.refl _ _) (Nat.le_add_right _ _)⟩
        | false =>
          have hcl' : ¬ c.c 1 = true := by rw [hcl]; simp
          by_cases hfit : (c.L 0).length + lb.length ≤ 131072
          · refine (rsend_1 h hM hT id node a cap lb hs hlb hg hsd hcl hfit hbase).mono ?_
            rintro e w' ⟨rfl, g', r', h1, h2, h3⟩
            have e1 : sdE M id node lb.length = 0 := by unfold sdE; rw [hg]; simp only; rw [if_neg hneg, h0, if_neg hcl', if_neg (by first | (show ¬ 131072 < (c.L 1).length + _; omega) | (show ¬ 131072 < (c.L 0).length + _; omega))]
            unfold sdM
            rw [hg]
            simp only
            rw [e1, h0]
            exact ⟨rfl, g', _, ⟨la, lc, h.set1 (c' := c.rows 0 (c.L 0 ++ lb)) (unhide h1) (unhide h3) (unhide h2) (Nat.le_add_right _ _)⟩, (unhide h3).mono (fun t ht => by rw [ht]; exact sr2 _)⟩
          · refine (rsend_full_1 h hM hT id node a cap lb hg hsd hcl hfit hlb).mono ?_
            rintro e w' ⟨rfl, hb⟩
            have e1 : sdE M id node lb.length = 7 := by unfold sdE; rw [hg]; simp only; rw [if_neg hneg, h0, if_neg hcl', if_pos (by first | (show 131072 < (c.L 1).length + _; omega) | (show 131072 < (c.L 0).length + _; omega))]
            unfold sdM
            rw [hg]
            simp only
            rw [e1]
            exact ⟨rfl, REnd.same h hb (Nat.le_add_right _ _)⟩
theorem rcarry_all {w : World} {g : Nat → Tag} {X base : Nat} {M : Nm} {R : Nat → Rg} {T : Nat} (h : RN w g X base M R T) (hM : Mok M) (hT : T ≤ 120000000) (hfr : Fr g w) (id node m : Int) (hbase : base ≤ w.heap.size) :
    Calls Try.prog 26 #[.pointer (some ⟨X, 0, none⟩), .int .i64 id, .int .i64 node, .int .i64 m] w fun e w' => ∃ x' k' r, e = .returned (.tuple #[.slice x' r.length k', .int .i64 (crE M id node m)]) ∧ Hid (r = crB M id node m) ∧ Hid (Bs w' x' k' r) ∧ Hid (REnd w w' g X base (crM M id node m) T) := by
  obtain ⟨la, lc, h⟩ := h
  cases hg : M.get id with
  | none =>
    refine (rcarry_none h hM hT id node m hg).mono ?_
    rintro e w' ⟨rfl, rfl⟩
    unfold crM crE crB
    rw [hg]
    exact ⟨none, 0, [], rfl, rfl, bs_none _, REnd.same h (Below.refl _ _) (Nat.le_refl _)⟩
  | some c =>
    have hx := c.side_le node
    by_cases hneg : c.side node < 0
    · refine (rcarry_side h hM hT id node m hg (by omega)).mono ?_
      rintro e w' ⟨rfl, rfl⟩
      have e1 : crE M id node m = 1 := by unfold crE; rw [hg]; simp only; rw [if_pos (.inl hneg)]
      unfold crM crB
      rw [hg]
      simp only
      rw [e1]
      exact ⟨none, 0, [], rfl, rfl, bs_none _, REnd.same h (Below.refl _ _) (Nat.le_refl _)⟩
    · have hat := c.at_side node hneg
      rcases (by omega : c.at node = 0 ∨ c.at node = 1) with h0 | h0
      · have hsd : c.side node = 0 := by omega
        by_cases hm : m < 0
        · refine (rcarry_neg_0 h hM hT id node m hg hsd hm).mono ?_
          rintro e w' ⟨rfl, rfl⟩
          have e1 : crE M id node m = 1 := by unfold crE; rw [hg]; simp only; rw [if_pos (.inr hm)]
          unfold crM crB
          rw [hg]
          simp only
          rw [e1]
          exact ⟨none, 0, [], rfl, rfl, bs_none _, REnd.same h (Below.refl _ _) (Nat.le_refl _)⟩
        · refine (rcarry_0 h hM hT hfr id node m hg hsd (by omega) hbase _ rfl).mono ?_
          rintro e w' ⟨x', k', r, rfl, hr, hb, g', R', h1, h2⟩
          have e1 : crE M id node m = 0 := by unfold crE; rw [hg]; simp only; rw [if_neg (by omega)]
          have e2 : crB M id node m = (c.L 0).take (min m.toNat (c.L 0).length) := by unfold crB crN; rw [hg]; simp only; rw [if_pos e1, h0]
          have e3 : crM M id node m = (M.set (c.rows 0 ((c.L 0).drop (min m.toNat (c.L 0).length)))).keep := by unfold crM crN; rw [hg]; simp only; rw [if_pos e1, h0]
          rw [e1, e2, e3]
          exact ⟨x', k', r, rfl, hr, hb, g', R', unhide h1, (unhide h2).mono (fun t ht => by rcases ht with rfl | rfl; exact sr2 _; exact sr4)⟩
      · have hsd : c.side node = 1 := by omega
        by_cases hm : m < 0
        · refine (rcarry_neg_1 h hM hT id node m hg hsd hm).mono ?_
          rintro e w' ⟨rfl, rfl⟩
          have e1 : crE M id node m = 1 := by unfold crE; rw [hg]; simp only; rw [if_pos (.inr hm)]
          unfold crM crB
          rw [hg]
          simp only
          rw [e1]
          exact ⟨none, 0, [], rfl, rfl, bs_none _, REnd.same h (Below.refl _ _) (Nat.le_refl _)⟩
        · refine (rcarry_1 h hM hT hfr id node m hg hsd (by omega) hbase _ rfl).mono ?_
          rintro e w' ⟨x', k', r, rfl, hr, hb, g', R', h1, h2⟩
          have e1 : crE M id node m = 0 := by unfold crE; rw [hg]; simp only; rw [if_neg (by omega)]
          have e2 : crB M id node m = (c.L 1).take (min m.toNat (c.L 1).length) := by unfold crB crN; rw [hg]; simp only; rw [if_pos e1, h0]
          have e3 : crM M id node m = (M.set (c.rows 1 ((c.L 1).drop (min m.toNat (c.L 1).length)))).keep := by unfold crM crN; rw [hg]; simp only; rw [if_pos e1, h0]
          rw [e1, e2, e3]
          exact ⟨x', k', r, rfl, hr, hb, g', R', unhide h1, (unhide h2).mono (fun t ht => by rcases ht with rfl | rfl; exact sr2 _; exact sr4)⟩
theorem rclose_all {w : World} {g : Nat → Tag} {X base : Nat} {M : Nm} {R : Nat → Rg} {T : Nat} (h : RN w g X base M R T) (hM : Mok M) (hT : T ≤ 120000000) (id node : Int) (hbase : base ≤ w.heap.size) :
    Calls Try.prog 28 #[.pointer (some ⟨X, 0, none⟩), .int .i64 id, .int .i64 node] w fun e w' => e = .returned (.int .i64 (clE M id node)) ∧ Hid (REnd w w' g X base (clM M id node) T) := by
  obtain ⟨la, lc, h⟩ := h
  cases hg : M.get id with
  | none =>
    refine (rclose_none h hM hT id node hg).mono ?_
    rintro e w' ⟨rfl, rfl⟩
    unfold clM clE
    rw [hg]
    exact ⟨rfl, REnd.same h (Below.refl _ _) (Nat.le_refl _)⟩
  | some c =>
    have hx := c.side_le node
    by_cases hneg : c.side node < 0
    · refine (rclose_side h hM hT id node hg (by omega)).mono ?_
      rintro e w' ⟨rfl, rfl⟩
      have e1 : clE M id node = 1 := by unfold clE; rw [hg]; simp only; rw [if_pos hneg]
      unfold clM
      rw [hg]
      simp only
      rw [e1]
      exact ⟨rfl, REnd.same h (Below.refl _ _) (Nat.le_refl _)⟩
    · have hat := c.at_side node hneg
      rcases (by omega : c.at node = 0 ∨ c.at node = 1) with h0 | h0
      · have hsd : c.side node = 0 := by omega
        cases hcl : c.c 0 with
        | true =>
          refine (rclose_shut_0 h hM hT id node hg hsd hcl).mono ?_
          rintro e w' ⟨rfl, rfl⟩
          have e1 : clE M id node = 31 := by unfold clE; rw [hg]; simp only; rw [if_neg hneg, h0, if_pos hcl]
          unfold clM
          rw [hg]
          simp only
          rw [e1]
          exact ⟨rfl, REnd.same h (Below.refl _ _) (Nat.le_refl _)⟩
        | false =>
          have hcl' : ¬ c.c 0 = true := by rw [hcl]; simp
          refine (rclose_0 h hM hT id node hg hsd hcl hbase).mono ?_
          rintro e w' ⟨rfl, g', R', h1, h2⟩
          have e1 : clE M id node = 0 := by unfold clE; rw [hg]; simp only; rw [if_neg hneg, h0, if_neg hcl']
          have e3 : clM M id node = (M.set (c.shut 0)).keep := by unfold clM; rw [hg]; simp only; rw [if_pos e1, h0]
          rw [e1, e3]
          exact ⟨rfl, g', R', unhide h1, (unhide h2).mono (fun t ht => by rcases ht with rfl | rfl; exact sr2 _; exact sr4)⟩
      · have hsd : c.side node = 1 := by omega
        cases hcl : c.c 1 with
        | true =>
          refine (rclose_shut_1 h hM hT id node hg hsd hcl).mono ?_
          rintro e w' ⟨rfl, rfl⟩
          have e1 : clE M id node = 31 := by unfold clE; rw [hg]; simp only; rw [if_neg hneg, h0, if_pos hcl]
          unfold clM
          rw [hg]
          simp only
          rw [e1]
          exact ⟨rfl, REnd.same h (Below.refl _ _) (Nat.le_refl _)⟩
        | false =>
          have hcl' : ¬ c.c 1 = true := by rw [hcl]; simp
          refine (rclose_1 h hM hT id node hg hsd hcl hbase).mono ?_
          rintro e w' ⟨rfl, g', R', h1, h2⟩
          have e1 : clE M id node = 0 := by unfold clE; rw [hg]; simp only; rw [if_neg hneg, h0, if_neg hcl']
          have e3 : clM M id node = (M.set (c.shut 1)).keep := by unfold clM; rw [hg]; simp only; rw [if_pos e1, h0]
          rw [e1, e3]
          exact ⟨rfl, g', R', unhide h1, (unhide h2).mono (fun t ht => by rcases ht with rfl | rfl; exact sr2 _; exact sr4)⟩
theorem rcut_all {w : World} {g : Nat → Tag} {X base : Nat} {M : Nm} {R : Nat → Rg} {T : Nat} (h : RN w g X base M R T) (hM : Mok M) (hT : T ≤ 120000000) (id : Int) (hbase : base ≤ w.heap.size) :
    Calls Try.prog 29 #[.pointer (some ⟨X, 0, none⟩), .int .i64 id] w fun e w' => e = .returned (.int .i64 (cuE M id)) ∧ Hid (REnd w w' g X base (cuM M id) T) := by
  obtain ⟨la, lc, h⟩ := h
  cases hg : M.get id with
  | none =>
    refine (rcut_none h hM hT id hg).mono ?_
    rintro e w' ⟨rfl, rfl⟩
    unfold cuM cuE
    rw [hg]
    exact ⟨rfl, REnd.same h (Below.refl _ _) (Nat.le_refl _)⟩
  | some c =>
    refine (rcut_at id h (Nat.le_trans hM.few (by omega)) (by omega) hbase (d := c) (hide hg)).mono ?_
    rintro e w' ⟨rfl, g', la', lc', h1, h2⟩
    unfold cuM cuE
    rw [hg]
    exact ⟨rfl, g', R, ⟨la', lc', unhide h1⟩, (unhide h2).mono (fun t ht => by rw [ht]; exact sr4)⟩
theorem rdrop_all {w : World} {g : Nat → Tag} {X base : Nat} {M : Nm} {R : Nat → Rg} {T : Nat} (h : RN w g X base M R T) (hM : Mok M) (hT : T ≤ 120000000) (node : Int) (hbase : base ≤ w.heap.size) :
    Calls Try.prog 15 #[.pointer (some ⟨X, 0, none⟩), .int .i64 node] w fun e w' => e = .returned (.int .i64 (drN M node)) ∧ Hid (REnd w w' g X base (drM M node) T) := by
  obtain ⟨la, lc, h⟩ := h
  refine (rdrop node h (Nat.le_trans hM.few (by omega)) (by omega) hbase).mono ?_
  rintro e w' ⟨rfl, g', la', lc', h1, h2⟩
  exact ⟨rfl, g', R, ⟨la', lc', unhide h1⟩, (unhide h2).mono (fun t ht => by rw [ht]; exact sr4)⟩
theorem rdial_all {w : World} {g : Nat → Tag} {X base : Nat} {M : Nm} {R : Nat → Rg} {T : Nat} (h : RN w g X base M R T) (hM : Mok M) (hfr : Fr g w) (a b : Int) (hbase : base ≤ w.heap.size) (hl : M.last < 1000000) :
    Calls Try.prog 23 #[.pointer (some ⟨X, 0, none⟩), .int .i64 a, .int .i64 b] w fun e w' => e = .returned (.tuple #[.int .i64 (diN M a b), .int .i64 (diE M a b)]) ∧ Hid (REnd w w' g X base (diM M a b) T) := by
  obtain ⟨la, lc, h⟩ := h
  by_cases hb : diBad a b
  · refine (rdial_bad h a b hb).mono ?_
    rintro e w' ⟨rfl, rfl⟩
    have e1 : diE M a b = 1 := by unfold diE; rw [if_pos hb]
    unfold diN diM
    rw [e1]
    exact ⟨rfl, REnd.same h (Below.refl _ _) (Nat.le_refl _)⟩
  · by_cases hf : 64 ≤ M.cs.length
    · refine (rdial_full h a b hb hf).mono ?_
      rintro e w' ⟨rfl, rfl⟩
      have e1 : diE M a b = 7 := by unfold diE; rw [if_neg hb, if_pos hf]
      unfold diN diM
      rw [e1]
      exact ⟨rfl, REnd.same h (Below.refl _ _) (Nat.le_refl _)⟩
    · refine (rdial_ok h hM hfr a b hb hf hbase hl).mono ?_
      rintro e w' ⟨rfl, g', R', h1, h2⟩
      have e1 : diE M a b = 0 := by unfold diE; rw [if_neg hb, if_neg hf]
      unfold diN diM
      rw [e1]
      exact ⟨rfl, g', R', unhide h1, (unhide h2).mono (fun t ht => by rw [ht]; exact sr4)⟩
#print axioms rsend_all
#print axioms rcarry_all
#print axioms rclose_all
#print axioms rcut_all
#print axioms rdrop_all
#print axioms rdial_all
end Go.Proofs.Ytohlmfiicfoimaa
