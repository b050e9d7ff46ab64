/-
  ROWS OF REQUESTS THAT A CALL MAKES ITSELF.
-/
import Derived.Test.YtonaekkenggmbaaGreatDoorPkHedsbe
import Derived.Deep.AppendLies
section
set_option linter.unusedVariables false
namespace Go.Proofs.YtonaekkenggmbaaGreatDoor
open Go.RowKit

/-- A request, with where its headers and its body lie. -/
abbrev Rv := Rq × (Option Addr × Nat) × (Option Addr × Nat)
def rqC (t : Rv) : List Value := [.string (str t.1.m), .string (str t.1.p), .slice t.2.1.1 t.1.h.length t.2.1.2, .slice t.2.2.1 t.1.b.length t.2.2.2]
def rqs (l : List Rv) : List Value := l.flatMap rqC
theorem rqs_length (l : List Rv) : (rqs l).length = l.length * 4 := by
  induction l with
  | nil => rfl
  | cons t r ih => simp [rqs, rqC] at ih ⊢; omega
theorem rqs_append (l r : List Rv) : rqs (l ++ r) = rqs l ++ rqs r := by simp [rqs]
theorem rqs_one (l : List Rv) : ∀ u ∈ rqs l, u.oneCell' = true := by
  intro u hu
  obtain ⟨t, _, ht⟩ := List.mem_flatMap.1 hu
  simp [rqC] at ht
  rcases ht with rfl | rfl | rfl | rfl <;> rfl
theorem rqs_get : ∀ (l : List Rv) (i j : Nat) (t : Rv), l[i]? = some t → j < 4 → (rqs l)[i * 4 + j]? = (rqC t)[j]?
  | [], i, j, t, h, _ => by simp at h
  | u :: r, 0, j, t, h, hj => by
    simp at h
    subst h
    show (rqC u ++ rqs r)[0 * 4 + j]? = _
    rw [List.getElem?_append_left (by simp [rqC]; omega)]
    simp
  | u :: r, i + 1, j, t, h, hj => by
    show (rqC u ++ rqs r)[(i + 1) * 4 + j]? = _
    have e : (i + 1) * 4 + j = (rqC u).length + (i * 4 + j) := by simp [rqC]; omega
    rw [e, List.getElem?_append_right (by omega), Nat.add_sub_cancel_left]
    exact rqs_get r i j t (by simpa using h) hj
def OwnR (w : World) (base : Nat) (a : Option Addr) (cap : Nat) (l : List Rv) : Prop := w.ownsRow base 39 4 (.slice a l.length cap) l.length (rqs l)
theorem OwnR.cases {w : World} {base : Nat} {a : Option Addr} {cap : Nat} {l : List Rv} (h : OwnR w base a cap l) :
    (a = none ∧ cap = 0 ∧ l = []) ∨ ∃ g cur, a = some ⟨g, 0, none⟩ ∧ base ≤ g ∧ w.heap[g]? = some (.cells cur 39 (0, 0)) ∧ l.length ≤ cap ∧ cap ≤ maxLen ∧ cur.size = cap * 4 ∧ cur.toList.take (l.length * 4) = rqs l := by
  rcases h.2 with ⟨hv, hn⟩ | ⟨g, cap', cur, hv, hb, hg, hle, hm, hs, ht⟩
  · simp only [Value.slice.injEq] at hv
    exact .inl ⟨hv.1, hv.2.2, List.eq_nil_of_length_eq_zero hn⟩
  · simp only [Value.slice.injEq, true_and] at hv
    obtain ⟨rfl, rfl⟩ := hv
    exact .inr ⟨g, cur, rfl, hb, hg, hle, hm, hs, ht⟩
theorem OwnR.nil (w : World) (base : Nat) : OwnR w base none 0 [] := World.ownsRow_nil w base _ _
theorem OwnR.lt {w : World} {base : Nat} {a : Option Addr} {cap : Nat} {l : List Rv} (h : OwnR w base a cap l) : ∀ k, blk a = some k → base ≤ k ∧ k < w.heap.size := by
  intro k hk
  rcases h.cases with ⟨rfl, rfl, rfl⟩ | ⟨g, cur, rfl, hb, hg, _⟩
  · simp [blk] at hk
  · simp [blk] at hk
    subst hk
    exact ⟨hb, (Array.getElem?_eq_some_iff.1 hg).1⟩
theorem OwnR.same {w w' : World} {base : Nat} {a : Option Addr} {cap : Nat} {l : List Rv} (h : OwnR w base a cap l) (e : ∀ k, blk a = some k → w'.heap[k]? = w.heap[k]?) : OwnR w' base a cap l := by
  refine ⟨h.1, ?_⟩
  rcases h.2 with hn | ⟨g, cap', cur, hv, hbb, hgg, rest⟩
  · exact .inl hn
  · refine .inr ⟨g, cap', cur, hv, hbb, ?_, rest⟩
    simp only [Value.slice.injEq] at hv
    rw [e g (by rw [hv.1]; rfl)]
    exact hgg
theorem OwnR.below {w w' : World} {base B : Nat} {a : Option Addr} {cap : Nat} {l : List Rv} (h : OwnR w base a cap l) (hb : Below B w w') (hB : w.heap.size ≤ B) : OwnR w' base a cap l :=
  h.same (fun k hk => hb.block k (by have := (h.lt k hk).2; omega))
/-- A row of requests that can be read. -/
structure RqR (w : World) (a : Option Addr) (l : List Rv) : Prop where
  mem : l ≠ [] → ∃ b off, a = some ⟨b, off, none⟩ ∧ ∀ i t, l[i]? = some t → ∀ j, j < 4 → w.cell? ⟨b, off + (i * 4 + j), none⟩ = (rqC t)[j]?
  part : ∀ t ∈ l, HdR w t.2.1.1 t.1.h ∧ Bs w t.2.2.1 t.2.2.2 t.1.b
theorem OwnR.rqR {w : World} {base : Nat} {a : Option Addr} {cap : Nat} {l : List Rv} (h : OwnR w base a cap l) (hp : ∀ t ∈ l, HdR w t.2.1.1 t.1.h ∧ Bs w t.2.2.1 t.2.2.2 t.1.b) : RqR w a l := by
  rcases h.cases with ⟨rfl, rfl, rfl⟩ | ⟨g, cur, rfl, hb, hg, hle, hm, hs, ht⟩
  · exact ⟨fun hne => absurd rfl hne, hp⟩
  · refine ⟨fun hne => ⟨g, 0, rfl, fun i s hs' j hj => ?_⟩, hp⟩
    have hlt := (List.getElem?_eq_some_iff.1 hs').1
    rw [Nat.zero_add, cell_of_row w g (i * 4 + j) cur _ (0, 0) hg, ← rqs_get l i j s hs' hj, ← ht, List.getElem?_take, if_pos (by omega)]
    simp
theorem RqR.below {w w' : World} {a : Option Addr} {l : List Rv} (h : RqR w a l) (hb : Below w.heap.size w w') : RqR w' a l := by
  refine ⟨fun hne => ?_, fun t ht => ⟨(h.part t ht).1.below hb (Nat.le_refl _), (h.part t ht).2.below hb (Nat.le_refl _)⟩⟩
  obtain ⟨b, off, e, hc⟩ := h.mem hne
  refine ⟨b, off, e, fun i t ht j hj => ?_⟩
  have := hc i t ht j hj
  obtain ⟨v, hv⟩ : ∃ v, (rqC t)[j]? = some v := ⟨_, List.getElem?_eq_getElem (by simp [rqC]; omega)⟩
  rw [hv] at this ⊢
  rw [hb.cell (World.block_lt_of_cell? w _ this)]
  exact this
end Go.Proofs.YtonaekkenggmbaaGreatDoor
end
