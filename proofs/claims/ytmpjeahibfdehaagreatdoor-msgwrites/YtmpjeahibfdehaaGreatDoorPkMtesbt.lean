/-
  A MESSAGE AND A LOGGED MUTATION THAT CAME IN, opened.
-/
import Derived.Test.YtmpjeahibfdehaaGreatDoorPkMtesbk
import Derived.Test.YtmpjeahibfdehaaGreatDoorPkMtesbd
import Derived.Deep.SlicePairs
import Derived.Deep.Grids
import Derived.Lib.SmallJoins
section
set_option linter.unusedVariables false
namespace Go.Proofs.YtmpjeahibfdehaaGreatDoor
open Go.RowKit Go.Joins Go.WideShapes Go.ChangeShapes Go.ChangeAt

theorem wf_i64m {n : Int} (h : (Lit.int .i64 n).wf = true) : -9223372036854775808 ≤ n ∧ n ≤ 9223372036854775807 := by
 simp [Lit.wf, IntKind.min, IntKind.max, IntKind.bits, IntKind.signed] at h
 omega
theorem sz_of {s : ByteArray} (h : s.size ≤ maxLen) : s.data.toList.length ≤ 9223372036854775807 := by
 rw [Array.length_toList]
 exact h
section
variable {H : Type} {enc : TypeId × Value → H} {w : World}
theorem Tryz.cellsMs : Tryz.prog.cellsOf 9 = 1 := by kernel_rfl
theorem Tryz.cellsMi : Tryz.prog.cellsOf 3 = 1 := by kernel_rfl
theorem Tryz.cellsMm : Tryz.prog.cellsOf 26 = 4 := by kernel_rfl
theorem Tryz.cellsMl : Tryz.prog.cellsOf 28 = 6 := by kernel_rfl
theorem Tryz.cellsMr : Tryz.prog.cellsOf 22 = 1 := by kernel_rfl
theorem Tryz.cellsMg : Tryz.prog.cellsOf 24 = 7 := by kernel_rfl

set_option maxRecDepth 100000 in
theorem mut_el {fuel : Nat} {cs : List Value} {x : DataW H × List MemPlace} (h : DataW.trod enc Tryz.prog w 0 (fun _ => true) true fuel 26 cs = some x) : ∃ m : Mu, cs = muC m ∧ (-9223372036854775808 ≤ m.k ∧ m.k ≤ 9223372036854775807) ∧ m.i.length ≤ 9223372036854775807 ∧ m.n.length ≤ 9223372036854775807 := by
 obtain ⟨xs, k, _, _, hl, hlen, hf'⟩ := DataW.trod_struct Tryz.underlying26 h
 rw [Tryz.cellsMm] at hl
 match cs, hl with
 | [v0, v1, v2, v3], _ =>
  have t0 := hf' 0 _ rfl
  have t1 := hf' 1 _ rfl
  have t2 := hf' 2 _ rfl
  have t3 := hf' 3 _ rfl
  simp [Tryz.cellsMs, Tryz.cellsMi] at t0 t1 t2 t3
  match xs, hlen with
  | [y0, y1, y2, y3], _ =>
   simp only [List.getElem?_cons_zero, List.getElem?_cons_succ] at t0 t1 t2 t3
   obtain ⟨n, e0, _, w0⟩ := DataW.trod_int Tryz.underlying3 t0
   obtain ⟨s1, e1, _, b1⟩ := DataW.trod_string Tryz.underlying9 t1
   obtain ⟨s2, e2, _, b2⟩ := DataW.trod_string Tryz.underlying9 t2
   obtain ⟨s3, e3, _, _⟩ := DataW.trod_string Tryz.underlying9 t3
   simp only [List.cons.injEq, and_true] at e0 e1 e2 e3
   subst e0 e1 e2 e3
   exact ⟨⟨n, s1.data.toList, s2.data.toList, s3.data.toList⟩, rfl, wf_i64m w0, sz_of b1, sz_of b2⟩
set_option maxRecDepth 100000 in
theorem lgd_el {fuel : Nat} {cs : List Value} {x : DataW H × List MemPlace} (h : DataW.trod enc Tryz.prog w 0 (fun _ => true) true fuel 28 cs = some x) : ∃ l : Lg, cs = lgC l ∧ LiZ l ∧ LgL l := by
 obtain ⟨xs, k, _, _, hl, hlen, hf'⟩ := DataW.trod_struct Tryz.underlying28 h
 rw [Tryz.cellsMl] at hl
 match cs, hl with
 | [v0, v1, v2, v3, v4, v5], _ =>
  have t0 := hf' 0 _ rfl
  have t1 := hf' 1 _ rfl
  have t2 := hf' 2 _ rfl
  simp [Tryz.cellsMs, Tryz.cellsMi, Tryz.cellsMm] at t0 t1 t2
  match xs, hlen with
  | [y0, y1, y2], _ =>
   simp only [List.getElem?_cons_zero, List.getElem?_cons_succ] at t0 t1 t2
   obtain ⟨s0, e0, _, b0⟩ := DataW.trod_string Tryz.underlying9 t0
   obtain ⟨n, e1, _, w1⟩ := DataW.trod_int Tryz.underlying3 t1
   obtain ⟨m, e2, w2, w3⟩ := mut_el t2
   unfold muC at e2
   simp only [List.cons.injEq, and_true] at e0 e1 e2
   obtain ⟨rfl, rfl, rfl, rfl⟩ := e2
   subst e0 e1
   exact ⟨⟨s0.data.toList, n, m⟩, rfl, ⟨wf_i64m w1, w2⟩, sz_of b0, w3⟩
set_option maxRecDepth 100000 in
theorem lgs_open {fuel : Nat} {cs : List Value} {x : DataW H × List MemPlace} (h : DataW.trod enc Tryz.prog w 0 (fun _ => true) true fuel 22 cs = some x) : ∃ p c L, cs = [.slice p L.length c] ∧ LRow w p L.length L ∧ ∀ x ∈ L, LiZ x ∧ LgL x := by
 rcases Go.Deep.open_slice Tryz.underlying22 h with ⟨hcs, _⟩ | ⟨x, len, cap, m, n, D, Pl, hcs, _, hl, hm, hmm, _, hr⟩
 ·exact ⟨none, 0, [], hcs, ⟨rfl, fun h => absurd rfl h⟩, fun x hx => by cases hx⟩
 ·simp only [if_true] at hmm
  subst hmm
  have each : ∀ i, i < len → ∃ s : Lg, w.cells? 0 (x.add (i * 6)) 6 = some (lgC s) ∧ LiZ s ∧ LgL s := by
   intro i hi
   obtain ⟨cs', k1, k2⟩ := hr i (by omega)
   obtain ⟨s, rfl, hz⟩ := lgd_el k2
   refine ⟨s, ?_, hz⟩
   have k3 : w.cells? 0 (x.add (i * Tryz.prog.cellsOf 28)) (Tryz.prog.cellsOf 28) = some (lgC s) := k1
   rw [Tryz.cellsMl] at k3
   exact k3
  obtain ⟨f, hf⟩ : ∃ f : Nat → Lg, ∀ i, i < len → w.cells? 0 (x.add (i * 6)) 6 = some (lgC (f i)) ∧ LiZ (f i) ∧ LgL (f i) :=
   ⟨fun i => if h : i < len then (each i h).choose else ⟨[], 0, 0, [], [], []⟩, fun i h => by simp only [dif_pos h]; exact (each i h).choose_spec⟩
  have key : ∀ i j v, i < len → (lgC (f i))[j]? = some v → w.cell? ((x.add (i * 6)).add j) = some v := by
   intro i j v hi e2
   have hj : j < 6 := by have := (List.getElem?_eq_some_iff.1 e2).1; simpa [lgC] using this
   rw [(World.cells?_some (hf i hi).1).2.2 j hj, e2]
  refine ⟨some x, m, (List.range len).map f, by simpa using hcs, ⟨rfl, fun hne => ?_⟩, fun y hy => ?_⟩
  ·have h0 : 0 < len := by
    rcases Nat.eq_zero_or_pos len with h | h
    ·subst h; simp at hne
    ·exact h
   obtain ⟨b, off, spot⟩ := x
   have hc0 := key 0 0 _ h0 rfl
   have hspot : spot = Option.none := by
    have := hc0
    simpa [Addr.add] using World.cell?_spot this
   subst hspot
   refine ⟨b, off, rfl, World.block_lt_of_cell? w _ hc0, fun t d hd r v hv => ?_⟩
   have ht : t < len := by have := (List.getElem?_eq_some_iff.1 hd).1; simpa using this
   obtain rfl : f t = d := by simpa [ht] using hd
   have k := key t r v ht hv
   rw [addr_add] at k
   simp only [addr_add] at k
   exact k
  ·obtain ⟨i, hi, rfl⟩ := List.mem_map.1 hy
   exact (hf i (List.mem_range.1 hi)).2
set_option maxRecDepth 100000 in
theorem msg_openL {base : Nat} {v : Value} {x : DataW H} {p : List MemPlace} (hv : Value.okWide Tryz.prog w .any base 24 v) (h : DataW.Trod enc Tryz.prog w 0 (fun _ => true) true 24 v x p) :
  ∃ (m : Mg) (a : Option Addr) (c : Nat), v = mgV m a m.l.length c ∧ LRow w a m.l.length m.l ∧ MiZ m ∧ ∀ x ∈ m.l, LgL x := by
 obtain ⟨cs, rfl, hsz⟩ := okWide_struct Tryz.underlying24 hv
 obtain ⟨fuel, hf⟩ := h
 obtain ⟨xs, k, _, _, hl, hlen, hf'⟩ := DataW.trod_struct Tryz.underlying24 hf
 rw [Tryz.cellsMg] at hsz
 obtain ⟨cl⟩ := cs
 match cl, hsz with
 | [v0, v1, v2, v3, v4, v5, v6], _ =>
  have t0 := hf' 0 _ rfl
  have t1 := hf' 1 _ rfl
  have t2 := hf' 2 _ rfl
  have t3 := hf' 3 _ rfl
  have t4 := hf' 4 _ rfl
  have t5 := hf' 5 _ rfl
  have t6 := hf' 6 _ rfl
  simp [Value.cells, Tryz.cellsMs, Tryz.cellsMi, Tryz.cellsMr] at t0 t1 t2 t3 t4 t5 t6
  match xs, hlen with
  | [y0, y1, y2, y3, y4, y5, y6], _ =>
   simp only [List.getElem?_cons_zero, List.getElem?_cons_succ] at t0 t1 t2 t3 t4 t5 t6
   obtain ⟨n0, e0, _, w0⟩ := DataW.trod_int Tryz.underlying3 t0
   obtain ⟨s1, e1, _, _⟩ := DataW.trod_string Tryz.underlying9 t1
   obtain ⟨n2, e2, _, w2⟩ := DataW.trod_int Tryz.underlying3 t2
   obtain ⟨n3, e3, _, w3⟩ := DataW.trod_int Tryz.underlying3 t3
   obtain ⟨n4, e4, _, w4⟩ := DataW.trod_int Tryz.underlying3 t4
   obtain ⟨n5, e5, _, w5⟩ := DataW.trod_int Tryz.underlying3 t5
   obtain ⟨a, c, L, e6, hb, hz⟩ := lgs_open t6
   simp only [List.cons.injEq, and_true] at e0 e1 e2 e3 e4 e5 e6
   subst e0 e1 e2 e3 e4 e5 e6
   exact ⟨⟨n0, s1.data.toList, n2, n3, n4, n5, L⟩, a, c, rfl, hb, ⟨wf_i64m w0, wf_i64m w2, wf_i64m w3, wf_i64m w4, wf_i64m w5, fun x hx => (hz x hx).1⟩, fun x hx => (hz x hx).2⟩
end
end Go.Proofs.YtmpjeahibfdehaaGreatDoor
end
