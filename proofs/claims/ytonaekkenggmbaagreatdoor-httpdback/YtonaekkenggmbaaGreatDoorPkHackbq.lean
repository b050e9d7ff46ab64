/-
  A REQUEST THAT CAME IN, opened.
-/
import Derived.Test.YtonaekkenggmbaaGreatDoorPkHackae
import Derived.Deep.SlicePairs
import Derived.Deep.Grids
import Derived.Lib.SmallJoins
section
set_option linter.unusedVariables false
namespace Go.Proofs.YtonaekkenggmbaaGreatDoor
open Go.RowKit Go.Joins Go.WideShapes Go.ChangeShapes Go.ChangeAt

section
variable {H : Type} {enc : TypeId × Value → H} {w : World}
theorem Tryz.cellsHdr : Tryz.prog.cellsOf 49 = 2 := by kernel_rfl
theorem Tryz.cellsReq : Tryz.prog.cellsOf 39 = 4 := by kernel_rfl
theorem Tryz.cellsRb : Tryz.prog.cellsOf 28 = 1 := by kernel_rfl
theorem Tryz.cellsRh : Tryz.prog.cellsOf 37 = 1 := by kernel_rfl
theorem Tryz.cellsRs : Tryz.prog.cellsOf 9 = 1 := by kernel_rfl

theorem rbyt_open {fuel : Nat} {cs : List Value} {x : DataW H × List MemPlace} (h : DataW.trod enc Tryz.prog w 0 (fun _ => true) true fuel 28 cs = some x) : ∃ a n c, cs = [.slice a n c] := by
  rcases open_ints Tryz.underlying28 Tryz.underlying5 (by kernel_rfl) h with ⟨hcs, _⟩ | ⟨x, l, c, zs, hcs, _⟩
  · exact ⟨none, 0, 0, hcs⟩
  · exact ⟨some x, l, c, hcs⟩
set_option maxRecDepth 100000 in
theorem hdr_el {fuel : Nat} {cs : List Value} {x : DataW H × List MemPlace} (h : DataW.trod enc Tryz.prog w 0 (fun _ => true) true fuel 49 cs = some x) : ∃ s : Hd, cs = [.string (str s.1), .string (str s.2)] := by
  obtain ⟨xs, k, _, _, hl, hlen, hf'⟩ := DataW.trod_struct Tryz.underlying49 h
  rw [Tryz.cellsHdr] at hl
  match cs, hl with
  | [v0, v1], _ =>
    have t0 := hf' 0 _ rfl
    have t1 := hf' 1 _ rfl
    simp [Tryz.cellsRs] at t0 t1
    match xs, hlen with
    | [y0, y1], _ =>
      simp only [List.getElem?_cons_zero, List.getElem?_cons_succ] at t0 t1
      obtain ⟨s0, e0, _, h0⟩ := DataW.trod_string Tryz.underlying9 t0
      obtain ⟨s1, e1, _, h1⟩ := DataW.trod_string Tryz.underlying9 t1
      simp only [List.cons.injEq, and_true] at e0 e1
      subst e0 e1
      exact ⟨(s0.data.toList, s1.data.toList), rfl⟩
set_option maxRecDepth 100000 in
theorem hdrs_open {fuel : Nat} {cs : List Value} {x : DataW H × List MemPlace} (h : DataW.trod enc Tryz.prog w 0 (fun _ => true) true fuel 37 cs = some x) : ∃ p c L, cs = [.slice p L.length c] ∧ HdR w p L := by
  rcases Go.Deep.open_slice Tryz.underlying37 h with ⟨hcs, _⟩ | ⟨x, len, cap, m, n, D, Pl, hcs, _, hl, hm, hmm, _, hr⟩
  · exact ⟨none, 0, [], hcs, ⟨fun h => absurd rfl h, Nat.zero_le _⟩⟩
  · simp only [if_true] at hmm
    subst hmm
    have each : ∀ i, i < len → ∃ s : Hd, w.cells? 0 (x.add (i * 2)) 2 = some [.string (str s.1), .string (str s.2)] := by
      intro i hi
      obtain ⟨cs', k1, k2⟩ := hr i (by omega)
      obtain ⟨s, rfl⟩ := hdr_el k2
      refine ⟨s, ?_⟩
      have k3 : w.cells? 0 (x.add (i * Tryz.prog.cellsOf 49)) (Tryz.prog.cellsOf 49) = some [.string (str s.1), .string (str s.2)] := k1
      rw [Tryz.cellsHdr] at k3
      exact k3
    obtain ⟨f, hf⟩ : ∃ f : Nat → Hd, ∀ i, i < len → w.cells? 0 (x.add (i * 2)) 2 = some [.string (str (f i).1), .string (str (f i).2)] :=
      ⟨fun i => if h : i < len then (each i h).choose else ([], []), fun i h => by simp only [dif_pos h]; exact (each i h).choose_spec⟩
    refine ⟨some x, m, (List.range len).map f, by simpa using hcs, ⟨fun hne => ?_, by simp; omega⟩⟩
    have h0 : 0 < len := by
      rcases Nat.eq_zero_or_pos len with h | h
      · subst h; simp at hne
      · exact h
    have key : ∀ i j v, w.cells? 0 (x.add (i * 2)) 2 = some [.string (str (f i).1), .string (str (f i).2)] → ([.string (str (f i).1), .string (str (f i).2)] : List Value)[j]? = some v → w.cell? ((x.add (i * 2)).add j) = some v := by
      intro i j v e1 e2
      have hj : j < 2 := by have := (List.getElem?_eq_some_iff.1 e2).1; simpa using this
      rw [(World.cells?_some e1).2.2 j hj, e2]
    obtain ⟨b, off, spot⟩ := x
    have hspot : spot = Option.none := by
      have := key 0 0 _ (hf 0 h0) rfl
      simpa [Addr.add] using World.cell?_spot this
    subst hspot
    refine ⟨b, off, rfl, fun t d hd => ?_⟩
    have ht : t < len := by have := (List.getElem?_eq_some_iff.1 hd).1; simpa using this
    obtain rfl : f t = d := by simpa [ht] using hd
    have k := fun j v => key t j v (hf t ht)
    rw [addr_add] at k
    simp only [addr_add] at k
    exact ⟨k 0 _ rfl, k 1 _ rfl⟩
set_option maxRecDepth 100000 in
theorem req_open {base : Nat} {v : Value} {x : DataW H} {p : List MemPlace} (hv : Value.okWide Tryz.prog w .any base 39 v) (h : DataW.Trod enc Tryz.prog w 0 (fun _ => true) true 39 v x p) :
    ∃ (m q : ByteArray) (a : Option Addr) (c : Nat) (L : List Hd) (y : Option Addr) (yn yc : Nat), v = .agg #[.string m, .string q, .slice a L.length c, .slice y yn yc] ∧ HdR w a L := by
  obtain ⟨cs, rfl, hsz⟩ := okWide_struct Tryz.underlying39 hv
  obtain ⟨fuel, hf⟩ := h
  obtain ⟨xs, k, _, _, hl, hlen, hf'⟩ := DataW.trod_struct Tryz.underlying39 hf
  rw [Tryz.cellsReq] at hsz
  obtain ⟨cl⟩ := cs
  match cl, hsz with
  | [v0, v1, v2, v3], _ =>
    have t0 := hf' 0 _ rfl
    have t1 := hf' 1 _ rfl
    have t2 := hf' 2 _ rfl
    have t3 := hf' 3 _ rfl
    simp [Value.cells, Tryz.cellsRs, Tryz.cellsRb, Tryz.cellsRh] at t0 t1 t2 t3
    match xs, hlen with
    | [y0, y1, y2, y3], _ =>
      simp only [List.getElem?_cons_zero, List.getElem?_cons_succ] at t0 t1 t2 t3
      obtain ⟨s0, e0, _, _⟩ := DataW.trod_string Tryz.underlying9 t0
      obtain ⟨s1, e1, _, _⟩ := DataW.trod_string Tryz.underlying9 t1
      obtain ⟨a, c, L, e2, hb⟩ := hdrs_open t2
      obtain ⟨y, yn, yc, e3⟩ := rbyt_open t3
      simp only [List.cons.injEq, and_true] at e0 e1 e2 e3
      subst e0 e1 e2 e3
      exact ⟨s0, s1, a, c, L, y, yn, yc, rfl, hb⟩
end
#print axioms req_open
end Go.Proofs.YtonaekkenggmbaaGreatDoor
end
