/-
  A SLICE OF CALLS THAT CAME IN; of bools; of bytes: opened.
-/
import Derived.Test.YtkhpjlgbiicdcaaDdO
import Derived.Test.YtkhpjlgbiicdcaaDskY
import Derived.Deep.Grids
set_option linter.unusedVariables false
namespace Go.Proofs.Ytkhpjlgbiicdcaa
open Go.RowKit Go.Joins Go.WideShapes Go.ChangeShapes

section
variable {H : Type} {enc : TypeId × Value → H} {w : World}

theorem bytes_open {fuel : Nat} {cs : List Value} {x : DataW H × List MemPlace} (h : DataW.trod enc Try.prog w 0 (fun _ => true) true fuel 33 cs = some x) : ∃ a c l, cs = [.slice a l.length c] ∧ Bs w a c l := by
  obtain ⟨a, n, c, zs, rfl, hz⟩ : ∃ a n c zs, cs = [.slice a n c] ∧ IsRow w a n c zs := by
    rcases open_ints Try.underlying33 Try.underlying5 (by kernel_rfl) h with ⟨hcs, _⟩ | ⟨x, l, c, zs, hcs, _, hl, hm, hz, _, hcell, hwz⟩
    · exact ⟨none, 0, 0, [], hcs, .inl ⟨rfl, rfl, rfl, rfl⟩⟩
    · exact ⟨some x, l, c, zs, hcs, .inr ⟨_, rfl, hl, hm, by simpa using hz, hcell, hwz⟩⟩
  obtain ⟨l, rfl, hb⟩ := bs_of hz
  exact ⟨a, c, l, rfl, hb⟩
theorem bools_open {fuel : Nat} {cs : List Value} {x : DataW H × List MemPlace} (h : DataW.trod enc Try.prog w 0 (fun _ => true) true fuel 34 cs = some x) : ∃ a c l, cs = [.slice a l.length c] ∧ BRow w a l ∧ l.length ≤ maxLen := by
  rcases Go.Deep.open_bools Try.underlying34 Try.underlying4 (by kernel_rfl) h with ⟨hcs, _⟩ | ⟨x, l, c, B, hcs, _, hl, hm, _, hcell⟩
  · exact ⟨none, 0, [], hcs, fun h => absurd rfl h, Nat.zero_le _⟩
  · refine ⟨some x, c, (List.range l).map B, by simpa using hcs, fun hne => ?_, by simp; omega⟩
    have h0 : 0 < l := by
      rcases Nat.eq_zero_or_pos l with h | h
      · subst h; simp at hne
      · exact h
    obtain ⟨b, off, spot⟩ := x
    have hc0 := hcell 0 (by omega)
    have hspot : spot = Option.none := by simpa [Addr.add] using World.cell?_spot hc0
    subst hspot
    refine ⟨b, off, rfl, fun i hi => ?_⟩
    have hi' : i < l := by simpa using hi
    have := hcell i (by omega)
    rw [addr_add] at this
    rw [this]
    simp [List.getD, hi']
set_option maxRecDepth 100000 in
theorem do_el {fuel : Nat} {cs : List Value} {x : DataW H × List MemPlace} (h : DataW.trod enc Try.prog w 0 (fun _ => true) true fuel 36 cs = some x) : ∃ d a, cs = (DoV.cells d a).toList ∧ DoV w d a := by
  obtain ⟨xs, k, _, _, hl, hlen, hf'⟩ := DataW.trod_struct Try.underlying36 h
  rw [Try.cellsD2] at hl
  match cs, hl with
  | [v0, v1, v2, v3, v4], _ =>
    have t0 := hf' 0 _ rfl
    have t1 := hf' 1 _ rfl
    have t2 := hf' 2 _ rfl
    have t3 := hf' 3 _ rfl
    have t4 := hf' 4 _ rfl
    simp [Try.cellsI, Try.cellsB, Try.cellsS, Try.cellsK] at t0 t1 t2 t3 t4
    match xs, hlen with
    | [y0, y1, y2, y3, y4], _ =>
      simp only [List.getElem?_cons_zero, List.getElem?_cons_succ] at t0 t1 t2 t3 t4
      obtain ⟨o, e0, _⟩ := DataW.trod_int Try.underlying3 t0
      obtain ⟨s, e1, _, hs⟩ := DataW.trod_string Try.underlying9 t1
      obtain ⟨a, c, l, e2, hb⟩ := bytes_open t2
      obtain ⟨z, e3, _⟩ := DataW.trod_int Try.underlying3 t3
      obtain ⟨y, m, kl, e4, hk, hkm⟩ := bools_open t4
      simp only [List.cons.injEq, and_true] at e0 e1 e2 e3 e4
      subst e0 e1 e2 e3 e4
      have es : str s.data.toList = s := rfl
      exact ⟨⟨o, s.data.toList, l, z, kl⟩, ⟨a, c, y, m⟩, rfl, ⟨by rw [Array.length_toList]; exact hs, hb, hk, hkm⟩⟩
set_option maxRecDepth 100000 in
theorem dos_open {fuel : Nat} {cs : List Value} {x : DataW H × List MemPlace} (h : DataW.trod enc Try.prog w 0 (fun _ => true) true fuel 22 cs = some x) : ∃ p c l, cs = [.slice p l.length c] ∧ DoR w p l := by
  rcases Go.Deep.open_slice Try.underlying22 h with ⟨hcs, _⟩ | ⟨x, len, cap, m, n, D, Pl, hcs, _, hl, hm, hmm, _, hr⟩
  · exact ⟨none, 0, [], hcs, ⟨fun h => absurd rfl h, Nat.zero_le _⟩⟩
  · simp only [if_true] at hmm
    subst hmm
    have each : ∀ i, i < len → ∃ d : Dm, ∃ a, DoV w d a ∧ w.cells? 0 (x.add (i * 5)) 5 = some (DoV.cells d a).toList := by
      intro i hi
      obtain ⟨cs', k1, k2⟩ := hr i (by omega)
      obtain ⟨d, a, rfl, hv⟩ := do_el k2
      refine ⟨d, a, hv, ?_⟩
      have k3 : w.cells? 0 (x.add (i * Try.prog.cellsOf 36)) (Try.prog.cellsOf 36) = some (DoV.cells d a).toList := k1
      rw [Try.cellsD2] at k3
      exact k3
    obtain ⟨f, hf⟩ : ∃ f : Nat → Dm, ∀ i, i < len → ∃ a, DoV w (f i) a ∧ w.cells? 0 (x.add (i * 5)) 5 = some (DoV.cells (f i) a).toList :=
      ⟨fun i => if h : i < len then (each i h).choose else ⟨0, [], [], 0, []⟩, fun i h => by simp only [dif_pos h]; exact (each i h).choose_spec⟩
    refine ⟨some x, m, (List.range len).map f, by simpa using hcs, ⟨fun hne => ?_, by simp; omega⟩⟩
    have h0 : 0 < len := by
      rcases Nat.eq_zero_or_pos len with h | h
      · subst h; simp at hne
      · exact h
    have key : ∀ i a j v, w.cells? 0 (x.add (i * 5)) 5 = some (DoV.cells (f i) a).toList → (DoV.cells (f i) a).toList[j]? = some v → w.cell? ((x.add (i * 5)).add j) = some v := by
      intro i a j v e1 e2
      have hj : j < 5 := by have := (List.getElem?_eq_some_iff.1 e2).1; simpa [DoV.cells] using this
      rw [(World.cells?_some e1).2.2 j hj, e2]
    obtain ⟨b, off, spot⟩ := x
    have hspot : spot = Option.none := by
      obtain ⟨a, _, e⟩ := hf 0 h0
      have := key 0 a 0 _ e rfl
      simpa [Addr.add] using World.cell?_spot this
    subst hspot
    refine ⟨b, off, rfl, fun t d hd => ?_⟩
    have ht : t < len := by have := (List.getElem?_eq_some_iff.1 hd).1; simpa using this
    obtain rfl : f t = d := by simpa [ht] using hd
    obtain ⟨a, hv, e⟩ := hf t ht
    have k := fun j v => key t a j v e
    rw [addr_add] at k
    simp only [addr_add] at k
    exact ⟨a, hv, k 0 _ rfl, k 1 _ rfl, k 2 _ rfl, k 3 _ rfl, k 4 _ rfl⟩
set_option maxRecDepth 100000 in
theorem do3_open {base : Nat} {v : Value} {x : DataW H} {p : List MemPlace} (hv : Value.okWide Try.prog w .any base 36 v) (h : DataW.Trod enc Try.prog w 0 (fun _ => true) true 36 v x p) :
    ∃ d a, v = .agg #[.int .i64 d.o, .string (str d.n), .slice a.x d.b.length a.c, .int .i64 d.z, .slice a.y d.k.length a.m] ∧ DoV w d a := by
  obtain ⟨cs, rfl, hsz⟩ := okWide_struct Try.underlying36 hv
  obtain ⟨fuel, hf⟩ := h
  obtain ⟨d, a, e, hd⟩ := do_el hf
  refine ⟨d, a, ?_, hd⟩
  have : cs.toList = (DoV.cells d a).toList := e
  rw [Array.toList_inj.1 this]
  rfl
end
#print axioms dos_open
end Go.Proofs.Ytkhpjlgbiicdcaa
