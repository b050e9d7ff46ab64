/-
  authtok: THE WALKS of slices.Clone and slices.Delete of secrets.
-/
import Derived.Test.YthliodpihbbjfaaDoorAutT
import Derived.Deep.RegionLaw
set_option linter.unusedVariables false
set_option maxRecDepth 1000000
namespace Go.Proofs.YthliodpihbbjfaaDoor
open Go.RowKit

/-- The secrets of a row with where their bytes lie. -/
theorem SecR.list {w : World} {b off : Nat} {L : List Sec} (h : SecR w (some ⟨b, off, none⟩) L) : ∃ l : List Se, l.map (·.1) = L ∧ (∀ j u, (ses l)[j]? = some u → w.cell? ⟨b, off + j, none⟩ = some u) ∧ ∀ t ∈ l, Bs w t.2.1 t.2.2 t.1.2 := by
  have each : ∀ i, ∃ t : Se, ∀ s, L[i]? = some s → t.1 = s ∧ w.cell? ⟨b, off + i * 2, none⟩ = some (.int .i64 s.1) ∧ w.cell? ⟨b, off + i * 2 + 1, none⟩ = some (.slice t.2.1 s.2.length t.2.2) ∧ Bs w t.2.1 t.2.2 s.2 := by
    intro i
    cases hs : L[i]? with
    | none => exact ⟨((0, []), none, 0), fun s h => by cases h⟩
    | some s =>
      obtain ⟨b', off', x, c, e, h1, h2, h3, _⟩ := h.at hs
      obtain ⟨rfl, rfl⟩ : b = b' ∧ off = off' := by simpa using e
      exact ⟨(s, x, c), fun s' h' => by rw [← Option.some.inj h']; exact ⟨rfl, h1, h2, h3⟩⟩
  obtain ⟨f, hf⟩ : ∃ f : Nat → Se, ∀ i s, L[i]? = some s → (f i).1 = s ∧ w.cell? ⟨b, off + i * 2, none⟩ = some (.int .i64 s.1) ∧ w.cell? ⟨b, off + i * 2 + 1, none⟩ = some (.slice (f i).2.1 s.2.length (f i).2.2) ∧ Bs w (f i).2.1 (f i).2.2 s.2 :=
    ⟨fun i => (each i).choose, fun i => (each i).choose_spec⟩
  have hget : ∀ (i : Nat) (t : Se), ((List.range L.length).map f)[i]? = some t → i < L.length ∧ f i = t := by
    intro i t ht
    have hi : i < L.length := by
      have := (List.getElem?_eq_some_iff.1 ht).1
      simpa using this
    exact ⟨hi, by simpa [hi] using ht⟩
  refine ⟨(List.range L.length).map f, ?_, ?_, ?_⟩
  · apply List.ext_getElem?
    intro i
    by_cases hi : i < L.length
    · rw [List.getElem?_map, List.getElem?_map, List.getElem?_range hi, List.getElem?_eq_getElem hi]
      simp only [Option.map_some]
      rw [(hf i _ (List.getElem?_eq_getElem hi)).1]
    · rw [List.getElem?_eq_none (by simp; omega), List.getElem?_eq_none (by omega)]
  · intro j u hu
    have hlen : j < L.length * 2 := by
      have := (List.getElem?_eq_some_iff.1 hu).1
      rw [ses_length] at this
      simpa using this
    have hi : j / 2 < L.length := by omega
    have ht : ((List.range L.length).map f)[j / 2]? = some (f (j / 2)) := by simp [hi]
    have hc := hf (j / 2) _ (List.getElem?_eq_getElem hi)
    have hj : j = j / 2 * 2 + j % 2 := by omega
    rw [hj, ses_get _ (j / 2) (j % 2) _ ht (by omega)] at hu
    rcases Nat.mod_two_eq_zero_or_one j with h0 | h0
    · rw [h0] at hu hj
      have : u = .int .i64 (f (j / 2)).1.1 := by simpa [seC] using hu.symm
      rw [this, hc.1, show (⟨b, off + j, none⟩ : Addr) = ⟨b, off + j / 2 * 2, none⟩ by congr 1; omega]
      exact hc.2.1
    · rw [h0] at hu hj
      have : u = .slice (f (j / 2)).2.1 (f (j / 2)).1.2.length (f (j / 2)).2.2 := by simpa [seC] using hu.symm
      rw [this, hc.1, show (⟨b, off + j, none⟩ : Addr) = ⟨b, off + j / 2 * 2 + 1, none⟩ by congr 1; omega]
      exact hc.2.2.1
  · intro t ht
    obtain ⟨i, hi⟩ := List.getElem?_of_mem ht
    obtain ⟨h1, rfl⟩ := hget i t hi
    have := hf i _ (List.getElem?_eq_getElem h1)
    rw [this.1]
    exact this.2.2.2

/-- append(s, x...) of secrets, s the call's own. -/
theorem wp_appe (w : World) {ops : Array Oper} {rest : List Oper} {o : Oper} {a : Act} {Q : Exit → Act → World → Prop} (hgd : o.guard = none) (s x : Operand)
    (ho : o.op = .call { callee := .builtin .append, args := #[s, x], argTypes := #[22, 22] })
    (base : Nat) (a1 : Option Addr) (cap1 : Nat) (l1 : List Se) (hs : a.eval s = .slice a1 l1.length cap1) (hown : OwnE w base a1 cap1 l1)
    (b off c2 n2 : Nat) (l2 : List Se) (hx : a.eval x = .slice (some ⟨b, off, none⟩) n2 c2) (hn2 : n2 = l2.length) (hsrc : ∀ j u, (ses l2)[j]? = some u → w.cell? ⟨b, off + j, none⟩ = some u) (hpos : 0 < l2.length) (hlen : l1.length + l2.length ≤ 1000000) (hbase : base ≤ w.heap.size)
    (h : ∀ g cap w', Hid (OwnE w' base (some ⟨g, 0, none⟩) cap (l1 ++ l2)) → Hid (w.grownBy w' (blk a1)) → Hid (blk a1 = some g ∨ g = w.heap.size) → wpList Tryd.prog ops Q rest (a.put o.dst (.slice (some ⟨g, 0, none⟩) (l1.length + n2) cap)) w') : wpList Tryd.prog ops Q (o :: rest) a w := by
  subst hn2
  obtain ⟨i, hi, hz0, hz1, hz2⟩ := info_parts Tryd.infoE
  refine wpList_append_lies w hgd s x 22 ho base 52 i _ 2 32 Tryd.underlying22 hi hz0 hz1 hz2 rfl (by decide) _ _ _ hs hown ⟨b, off, none⟩ l2.length c2 (ses l2) hx (by rw [ses_length]) (fun j u hu => by rw [addr_add]; exact hsrc j u hu) (ses_one l2) hpos (by unfold maxLen; omega) (by omega) hbase _ rfl ?_
  intro g cap w' h1 h2 h3 h4
  rw [ownBlk] at h2 h3
  refine h g cap w' ?_ h2 h3
  have e1 : l1.length + l2.length = (l1 ++ l2).length := by simp
  show OwnE _ _ _ _ _
  unfold OwnE
  rw [← e1, ses_append]
  exact h1
#print axioms wp_appe
end Go.Proofs.YthliodpihbbjfaaDoor
