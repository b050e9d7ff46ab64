/-
  kvstore's statements: a slice of ops that came in, opened.
-/
import Derived.Test.YtmcgghjeocnpnaaGreatDoorPkKodybg
import Derived.Deep.Grids
section
set_option linter.unusedVariables false
namespace Go.Proofs.YtmcgghjeocnpnaaGreatDoor
open Go.RowKit Go.Joins Go.WideShapes Go.ChangeShapes

theorem Tryz.cells6S : Tryz.prog.cellsOf 9 = 1 := by kernel_rfl
theorem Tryz.cells6B : Tryz.prog.cellsOf 4 = 1 := by kernel_rfl
theorem Tryz.cells6O : Tryz.prog.cellsOf 55 = 3 := by kernel_rfl
section
variable {H : Type} {enc : TypeId × Value → H} {w : World}
set_option maxRecDepth 100000 in
theorem op_el {fuel : Nat} {cs : List Value} {x : DataW H × List MemPlace} (h : DataW.trod enc Tryz.prog w 0 (fun _ => true) true fuel 55 cs = some x) : ∃ o : Op6, cs = ocC o ∧ o.k.length ≤ maxLen ∧ o.v.length ≤ maxLen := by
  obtain ⟨xs, k, _, _, hl, hlen, hf'⟩ := DataW.trod_struct Tryz.underlying55 h
  rw [Tryz.cells6O] at hl
  match cs, hl with
  | [v0, v1, v2], _ =>
    have t0 := hf' 0 _ rfl
    have t1 := hf' 1 _ rfl
    have t2 := hf' 2 _ rfl
    simp [Tryz.cells6S, Tryz.cells6B] at t0 t1 t2
    match xs, hlen with
    | [y0, y1, y2], _ =>
      simp only [List.getElem?_cons_zero, List.getElem?_cons_succ] at t0 t1 t2
      obtain ⟨a, e0, _, h0⟩ := DataW.trod_string Tryz.underlying9 t0
      obtain ⟨g, e1, _⟩ := DataW.trod_bool Tryz.underlying4 t1
      obtain ⟨b, e2, _, h2⟩ := DataW.trod_string Tryz.underlying9 t2
      simp only [List.cons.injEq, and_true] at e0 e1 e2
      subst e0 e1 e2
      refine ⟨⟨a.data.toList, g, b.data.toList⟩, ?_, ?_, ?_⟩
      · unfold ocC
        simp only [str_back]
      · simpa using h0
      · simpa using h2
set_option maxRecDepth 100000 in
theorem ops_open {fuel : Nat} {cs : List Value} {x : DataW H × List MemPlace} (h : DataW.trod enc Tryz.prog w 0 (fun _ => true) true fuel 31 cs = some x) : ∃ p c l, cs = [.slice p l.length c] ∧ OpR6 w p l := by
  rcases Go.Deep.open_slice Tryz.underlying31 h with ⟨hcs, _⟩ | ⟨x, len, cap, m, n, D, Pl, hcs, _, hl, hm, hmm, _, hr⟩
  · exact ⟨none, 0, [], hcs, ⟨fun h => absurd rfl h, Nat.zero_le _, fun o ho => by cases ho⟩⟩
  · simp only [if_true] at hmm
    subst hmm
    have each : ∀ i, i < len → ∃ o : Op6, (o.k.length ≤ maxLen ∧ o.v.length ≤ maxLen) ∧ w.cells? 0 (x.add (i * 3)) 3 = some (ocC o) := by
      intro i hi
      obtain ⟨cs', k1, k2⟩ := hr i (by omega)
      obtain ⟨o, rfl, hv⟩ := op_el k2
      refine ⟨o, hv, ?_⟩
      have k3 : w.cells? 0 (x.add (i * Tryz.prog.cellsOf 55)) (Tryz.prog.cellsOf 55) = some (ocC o) := k1
      rw [Tryz.cells6O] at k3
      exact k3
    obtain ⟨f, hf⟩ : ∃ f : Nat → Op6, ∀ i, i < len → ((f i).k.length ≤ maxLen ∧ (f i).v.length ≤ maxLen) ∧ w.cells? 0 (x.add (i * 3)) 3 = some (ocC (f i)) :=
      ⟨fun i => if h : i < len then (each i h).choose else ⟨[], false, []⟩, fun i h => by simp only [dif_pos h]; exact (each i h).choose_spec⟩
    refine ⟨some x, m, (List.range len).map f, by simpa using hcs, ⟨fun hne => ?_, by simp; omega, fun o ho => ?_⟩⟩
    · have h0 : 0 < len := by
        rcases Nat.eq_zero_or_pos len with h | h
        · subst h; simp at hne
        · exact h
      have key : ∀ i j v, w.cells? 0 (x.add (i * 3)) 3 = some (ocC (f i)) → (ocC (f i))[j]? = some v → w.cell? ((x.add (i * 3)).add j) = some v := by
        intro i j v e1 e2
        have hj : j < 3 := by have := (List.getElem?_eq_some_iff.1 e2).1; simpa [ocC] using this
        rw [(World.cells?_some e1).2.2 j hj, e2]
      obtain ⟨b, off, spot⟩ := x
      have hspot : spot = Option.none := by
        have := key 0 0 _ (hf 0 h0).2 rfl
        simpa [Addr.add] using World.cell?_spot this
      subst hspot
      refine ⟨b, off, rfl, fun t d hd => ?_⟩
      have ht : t < len := by have := (List.getElem?_eq_some_iff.1 hd).1; simpa using this
      obtain rfl : f t = d := by simpa [ht] using hd
      have k := fun j v => key t j v (hf t ht).2
      rw [addr_add] at k
      simp only [addr_add] at k
      exact ⟨k 0 _ rfl, k 1 _ rfl, k 2 _ rfl⟩
    · obtain ⟨i, hi, rfl⟩ := List.mem_map.1 ho
      exact (hf i (List.mem_range.1 hi)).1
end
#print axioms ops_open
end Go.Proofs.YtmcgghjeocnpnaaGreatDoor
end
