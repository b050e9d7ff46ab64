/-
  MORE ON SLICES OF THE CALL's OWN: where an append leaves them, one byte read, one byte stored.
-/
import Derived.Test.YthkadboeokgjnacGreatDoorOwn
set_option linter.unusedVariables false
namespace Go.Proofs.YthkadboeokgjnacGreatDoor
open Go.RowKit

theorem grownBy_setCell (w : World) (p : Addr) (u : Value) : w.grownBy (w.setCell p u) (some p.block) :=
  ⟨rfl, rfl, rfl, by simp [World.setCell], fun k hk hne => Below.heap_setCell w p u k (by intro h; subst h; exact hne rfl)⟩

theorem OwnB.some {w : World} {base : Nat} {a : Option Addr} {cap : Nat} {l : List UInt8} (h : OwnB w base a cap l) (hne : 0 < l.length) :
    ∃ g, a = Option.some ⟨g, 0, none⟩ ∧ base ≤ g ∧ g < w.heap.size ∧ (∀ i, i < l.length → w.cell? ⟨g, i, none⟩ = Option.some (.int .u8 ((l.getD i 0).toNat : Int))) ∧ ∀ i, w.frozen? ⟨g, i, none⟩ = false := by
  rcases h.cases with ⟨rfl, rfl, rfl⟩ | ⟨g, cur, rfl, hb, hg, hle, hm, hs, ht⟩
  · simp at hne
  · refine ⟨g, rfl, hb, (Array.getElem?_eq_some_iff.1 hg).1, fun i hi => ?_, fun i => frozen_of_row w g i cur _ hg⟩
    rw [cell_of_row w g i cur _ (0, 0) hg, ← bs_get l i hi, ← ht, List.getElem?_take, if_pos hi]
    simp

/-- append(s, x...), as 'wp_app', with where the new slice lies: at the old one's place, or in a new block. -/
theorem wp_app2 (w : World) {ops : Array Oper} {rest : List Oper} {o : Oper} {a : Act} {Q : Exit → Act → World → Prop} (hgd : o.guard = none) (s x : Operand)
    (ho : o.op = .call { callee := .builtin .append, args := #[s, x], argTypes := #[22, 22] })
    (base : Nat) (a1 : Option Addr) (cap1 : Nat) (l1 : List UInt8) (hs : a.eval s = .slice a1 l1.length cap1) (hown : OwnB w base a1 cap1 l1)
    (a2 : Option Addr) (cap2 : Nat) (l2 : List UInt8) (n2 : Nat) (hx : a.eval x = .slice a2 n2 cap2) (hn2 : n2 = l2.length) (hsrc : Row w a2 l2) (hnone : a2 = none → cap2 = 0)
    (hlen : l1.length + l2.length ≤ 140737488355328) (hbase : base ≤ w.heap.size)
    (h : ∀ a' cap' r w', Hid (r = l1 ++ l2) → OwnB w' base a' cap' r → w.grownBy w' (blk a1) → Hid (a' = a1 ∨ ∀ k, blk a' = some k → w.heap.size ≤ k) → wpList Tryz.prog ops Q rest (a.put o.dst (.slice a' r.length cap')) w') : wpList Tryz.prog ops Q (o :: rest) a w := by
  subst hn2
  obtain ⟨i, hi, hz0, hz1, hz2⟩ := info_parts Tryz.infoB
  cases a2 with
  | none =>
    have hl2 : l2 = [] := by
      apply Classical.byContradiction
      intro hne
      obtain ⟨b, off, hh, _⟩ := hsrc hne
      cases hh
    subst hl2
    have hc0 := hnone rfl
    subst hc0
    refine wpList_append_own_none hgd s x 22 ho base 5 i 1 Tryz.underlying22 hi _ _ _ hs hown hx ?_
    exact h a1 cap1 l1 w (by show _ = _; simp) hown (World.grownBy.refl _ _) (.inl rfl)
  | some ad =>
    have hcells : ∀ j u, (bs l2)[j]? = Option.some u → w.cell? (ad.add j) = Option.some u := by
      intro j u hu
      have hj : j < l2.length := by
        have := (List.getElem?_eq_some_iff.1 hu).1
        simpa [bs_length] using this
      obtain ⟨b, off, hh, hc⟩ := hsrc (by intro e; subst e; simp at hj)
      obtain rfl := Option.some.inj hh
      rw [bs_get l2 j hj] at hu
      obtain rfl := Option.some.inj hu
      rw [addr_add]
      exact hc j hj
    have e1 : l1.length + l2.length = (l1 ++ l2).length := by simp
    have e2 : bs l1 ++ bs l2 = bs (l1 ++ l2) := (bs_append l1 l2).symm
    by_cases hfit : l1.length + l2.length ≤ cap1
    · cases a1 with
      | none =>
        rcases hown.cases with ⟨_, rfl, rfl⟩ | ⟨g, cur, hh, _⟩
        · refine wpList_append_own w hgd s x 22 ho base 5 i (.int .u8 0) 1 1 Tryz.underlying22 hi hz0 hz1 hz2 rfl (by decide) _ _ _ hs hown ad l2.length cap2 (bs l2) hx (by simp [bs_length]) hcells (bs_one l2) (by unfold maxLen; omega) (by omega) hbase ?_
          intro v' w' h1 h2 h3
          have hl2 : l2 = [] := by simpa using hfit
          subst hl2
          have hv := h3.2 ⟨rfl, rfl⟩
          subst hv
          exact h none 0 [] w' rfl h1 h2 (.inl rfl)
        · cases hh
      | some x1 =>
        rcases hown.cases with ⟨hh, _⟩ | ⟨g, cur, hh, _⟩
        · cases hh
        · obtain rfl := Option.some.inj hh
          refine wpList_append_fits w hgd s x 22 ho base 5 i 1 Tryz.underlying22 hi hz1 g l1.length cap1 (bs l1) hs hown ad l2.length cap2 (bs l2) hx (by simp [bs_length]) hcells (bs_one l2) hfit ?_
          intro w' h1 h2
          rw [e1, e2] at h1
          rw [e1]
          exact h _ cap1 (l1 ++ l2) w' rfl h1 h2 (.inl rfl)
    · refine wpList_append_grows w hgd s x 22 ho 5 i (.int .u8 0) 1 1 Tryz.underlying22 hi hz0 hz1 hz2 rfl (by decide) a1 l1.length cap1 (bs l1) hs ?_ (by simp [bs_length]) ?_ ad l2.length cap2 (bs l2) hx (by simp [bs_length]) hcells (bs_one l2) (by omega) (by unfold maxLen; omega) (by omega) ?_
      · intro hn
        rcases hown.cases with ⟨_, h1, h2⟩ | ⟨g, cur, hh, _⟩
        · subst h2; exact ⟨rfl, h1⟩
        · rw [hn] at hh; cases hh
      · intro b hb j u hu
        rcases hown.cases with ⟨hh, _⟩ | ⟨g, cur, hh, _⟩
        · rw [hb] at hh; cases hh
        · rw [hb] at hh
          obtain rfl := Option.some.inj hh
          exact World.ownsRow.cells hown (g := g) (by rw [hb]; rfl) j u hu
      · intro v' w' h1 h2
        rw [e1, e2] at h1
        have hv : ∃ a' cap', v' = .slice a' (l1 ++ l2).length cap' := by
          rcases h1.2 with ⟨hv, hn⟩ | ⟨g, cap, cur, hv, _⟩
          · exact ⟨none, 0, by rw [hv, hn]⟩
          · exact ⟨_, _, hv⟩
        obtain ⟨a', cap', rfl⟩ := hv
        have hO : OwnB w' w.heap.size a' cap' (l1 ++ l2) := h1
        exact h a' cap' (l1 ++ l2) w' rfl (hO.base hbase) ⟨h2.os, h2.tape, h2.output, h2.size, fun k hk _ => h2.block k hk (by simp)⟩ (.inr fun k hk => (hO.lt k hk).1)

#print axioms wp_app2
end Go.Proofs.YthkadboeokgjnacGreatDoor
