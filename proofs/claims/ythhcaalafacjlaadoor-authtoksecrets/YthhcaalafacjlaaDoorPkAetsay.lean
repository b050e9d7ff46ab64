/-
  SECRETS AND A CLAIM THAT CAME IN, opened.
-/
import Derived.Test.YthhcaalafacjlaaDoorPkAetsat
import Derived.Deep.SlicePairs
import Derived.Deep.Grids
import Derived.Lib.SmallJoins
section
set_option linter.unusedVariables false
namespace Go.Proofs.YthhcaalafacjlaaDoor
open Go.RowKit Go.Joins Go.WideShapes Go.ChangeShapes Go.ChangeAt

theorem wf_i64s {n : Int} (h : (Lit.int .i64 n).wf = true) : -9223372036854775808 ≤ n ∧ n ≤ 9223372036854775807 := by
  simp [Lit.wf, IntKind.min, IntKind.max, IntKind.bits, IntKind.signed] at h
  omega
section
variable {H : Type} {enc : TypeId × Value → H} {w : World}
theorem Tryd.cellsSec : Tryd.prog.cellsOf 42 = 2 := by kernel_rfl
theorem Tryd.cellsClm : Tryd.prog.cellsOf 24 = 3 := by kernel_rfl
theorem Tryd.cellsInt : Tryd.prog.cellsOf 3 = 1 := by kernel_rfl
theorem Tryd.cellsByt : Tryd.prog.cellsOf 40 = 1 := by kernel_rfl
theorem Tryd.cellsStr : Tryd.prog.cellsOf 9 = 1 := by kernel_rfl

theorem byts_open {fuel : Nat} {cs : List Value} {x : DataW H × List MemPlace} (h : DataW.trod enc Tryd.prog w 0 (fun _ => true) true fuel 40 cs = some x) : ∃ a c l, cs = [.slice a l.length c] ∧ Bs w a c l := by
  obtain ⟨a, n, c, zs, rfl, hz⟩ : ∃ a n c zs, cs = [.slice a n c] ∧ IsRow w a n c zs := by
    rcases open_ints Tryd.underlying40 Tryd.underlying5 (by kernel_rfl) h with ⟨hcs, _⟩ | ⟨x, l, c, zs, hcs, _, hl, hm, hz, _, hcell, hwz⟩
    · exact ⟨none, 0, 0, [], hcs, .inl ⟨rfl, rfl, rfl, rfl⟩⟩
    · exact ⟨some x, l, c, zs, hcs, .inr ⟨_, rfl, hl, hm, by simpa using hz, hcell, hwz⟩⟩
  obtain ⟨l, rfl, hb⟩ := bs_of hz
  exact ⟨a, c, l, rfl, hb⟩
set_option maxRecDepth 100000 in
theorem sec_el {fuel : Nat} {cs : List Value} {x : DataW H × List MemPlace} (h : DataW.trod enc Tryd.prog w 0 (fun _ => true) true fuel 42 cs = some x) : ∃ (s : Sec) (a : Option Addr) (c : Nat), cs = [.int .i64 s.1, .slice a s.2.length c] ∧ Bs w a c s.2 ∧ -9223372036854775808 ≤ s.1 ∧ s.1 ≤ 9223372036854775807 := by
  obtain ⟨xs, k, _, _, hl, hlen, hf'⟩ := DataW.trod_struct Tryd.underlying42 h
  rw [Tryd.cellsSec] at hl
  match cs, hl with
  | [v0, v1], _ =>
    have t0 := hf' 0 _ rfl
    have t1 := hf' 1 _ rfl
    simp [Tryd.cellsInt, Tryd.cellsByt] at t0 t1
    match xs, hlen with
    | [y0, y1], _ =>
      simp only [List.getElem?_cons_zero, List.getElem?_cons_succ] at t0 t1
      obtain ⟨o, e0, _, hw⟩ := DataW.trod_int Tryd.underlying3 t0
      obtain ⟨a, c, l, e1, hb⟩ := byts_open t1
      simp only [List.cons.injEq, and_true] at e0 e1
      subst e0 e1
      exact ⟨(o, l), a, c, rfl, hb, wf_i64s hw⟩
set_option maxRecDepth 100000 in
theorem secs_open {fuel : Nat} {cs : List Value} {x : DataW H × List MemPlace} (h : DataW.trod enc Tryd.prog w 0 (fun _ => true) true fuel 22 cs = some x) : ∃ p c L, cs = [.slice p L.length c] ∧ SecR w p L ∧ L.length ≤ maxLen := by
  rcases Go.Deep.open_slice Tryd.underlying22 h with ⟨hcs, _⟩ | ⟨x, len, cap, m, n, D, Pl, hcs, _, hl, hm, hmm, _, hr⟩
  · exact ⟨none, 0, [], hcs, ⟨fun h => absurd rfl h, fun s hs => by cases hs⟩, Nat.zero_le _⟩
  · simp only [if_true] at hmm
    subst hmm
    have each : ∀ i, i < len → ∃ s : Sec, ∃ (a : Option Addr) (c : Nat), (Bs w a c s.2 ∧ -9223372036854775808 ≤ s.1 ∧ s.1 ≤ 9223372036854775807) ∧ w.cells? 0 (x.add (i * 2)) 2 = some [.int .i64 s.1, .slice a s.2.length c] := by
      intro i hi
      obtain ⟨cs', k1, k2⟩ := hr i (by omega)
      obtain ⟨s, a, c, rfl, hv⟩ := sec_el k2
      refine ⟨s, a, c, hv, ?_⟩
      have k3 : w.cells? 0 (x.add (i * Tryd.prog.cellsOf 42)) (Tryd.prog.cellsOf 42) = some [.int .i64 s.1, .slice a s.2.length c] := k1
      rw [Tryd.cellsSec] at k3
      exact k3
    obtain ⟨f, hf⟩ : ∃ f : Nat → Sec, ∀ i, i < len → ∃ (a : Option Addr) (c : Nat), (Bs w a c (f i).2 ∧ -9223372036854775808 ≤ (f i).1 ∧ (f i).1 ≤ 9223372036854775807) ∧ w.cells? 0 (x.add (i * 2)) 2 = some [.int .i64 (f i).1, .slice a (f i).2.length c] :=
      ⟨fun i => if h : i < len then (each i h).choose else (0, []), fun i h => by simp only [dif_pos h]; exact (each i h).choose_spec⟩
    refine ⟨some x, m, (List.range len).map f, by simpa using hcs, ⟨fun hne => ?_, fun s hs => ?_⟩, by simp; omega⟩
    · have h0 : 0 < len := by
        rcases Nat.eq_zero_or_pos len with h | h
        · subst h; simp at hne
        · exact h
      have key : ∀ i (a : Option Addr) (c : Nat) j v, w.cells? 0 (x.add (i * 2)) 2 = some [.int .i64 (f i).1, .slice a (f i).2.length c] → ([.int .i64 (f i).1, .slice a (f i).2.length c] : List Value)[j]? = some v → w.cell? ((x.add (i * 2)).add j) = some v := by
        intro i a c j v e1 e2
        have hj : j < 2 := by have := (List.getElem?_eq_some_iff.1 e2).1; simpa using this
        rw [(World.cells?_some e1).2.2 j hj, e2]
      obtain ⟨b, off, spot⟩ := x
      have hspot : spot = Option.none := by
        obtain ⟨a, c, _, e⟩ := hf 0 h0
        have := key 0 a c 0 _ e rfl
        simpa [Addr.add] using World.cell?_spot this
      subst hspot
      refine ⟨b, off, rfl, fun t d hd => ?_⟩
      have ht : t < len := by have := (List.getElem?_eq_some_iff.1 hd).1; simpa using this
      obtain rfl : f t = d := by simpa [ht] using hd
      obtain ⟨a, c, hv, e⟩ := hf t ht
      have k := fun j v => key t a c j v e
      rw [addr_add] at k
      simp only [addr_add] at k
      exact ⟨a, c, k 0 _ rfl, k 1 _ rfl, hv.1⟩
    · obtain ⟨i, hi, rfl⟩ := List.mem_map.1 hs
      obtain ⟨a, c, hv, _⟩ := hf i (List.mem_range.1 hi)
      exact hv.2
set_option maxRecDepth 100000 in
theorem claim_el {fuel : Nat} {cs : List Value} {x : DataW H × List MemPlace} (h : DataW.trod enc Tryd.prog w 0 (fun _ => true) true fuel 24 cs = some x) :
    ∃ (c g : List UInt8) (u : Int), cs = [.string (str c), .string (str g), .int .i64 u] ∧ c.length ≤ maxLen ∧ g.length ≤ maxLen ∧ -9223372036854775808 ≤ u ∧ u ≤ 9223372036854775807 := by
  obtain ⟨xs, k, _, _, hl, hlen, hf'⟩ := DataW.trod_struct Tryd.underlying24 h
  rw [Tryd.cellsClm] at hl
  match cs, hl with
  | [v0, v1, v2], _ =>
    have t0 := hf' 0 _ rfl
    have t1 := hf' 1 _ rfl
    have t2 := hf' 2 _ rfl
    simp [Tryd.cellsInt, Tryd.cellsStr] at t0 t1 t2
    match xs, hlen with
    | [y0, y1, y2], _ =>
      simp only [List.getElem?_cons_zero, List.getElem?_cons_succ] at t0 t1 t2
      obtain ⟨s0, e0, _, h0⟩ := DataW.trod_string Tryd.underlying9 t0
      obtain ⟨s1, e1, _, h1⟩ := DataW.trod_string Tryd.underlying9 t1
      obtain ⟨u, e2, _, h2⟩ := DataW.trod_int Tryd.underlying3 t2
      simp only [List.cons.injEq, and_true] at e0 e1 e2
      subst e0 e1 e2
      exact ⟨s0.data.toList, s1.data.toList, u, rfl, by rw [Array.length_toList]; exact h0, by rw [Array.length_toList]; exact h1, wf_i64s h2⟩
set_option maxRecDepth 100000 in
theorem claim_open {base : Nat} {v : Value} {x : DataW H} {p : List MemPlace} (hv : Value.okWide Tryd.prog w .any base 24 v) (h : DataW.Trod enc Tryd.prog w 0 (fun _ => true) true 24 v x p) :
    ∃ (c g : List UInt8) (u : Int), v = .agg #[.string (str c), .string (str g), .int .i64 u] ∧ c.length ≤ maxLen ∧ g.length ≤ maxLen ∧ -9223372036854775808 ≤ u ∧ u ≤ 9223372036854775807 := by
  obtain ⟨cs, rfl, hsz⟩ := okWide_struct Tryd.underlying24 hv
  obtain ⟨fuel, hf⟩ := h
  obtain ⟨c, g, u, e, hd⟩ := claim_el hf
  refine ⟨c, g, u, ?_, hd⟩
  have : cs.toList = [.string (str c), .string (str g), .int .i64 u] := e
  rw [show cs = #[.string (str c), .string (str g), .int .i64 u] from Array.toList_inj.1 this]
end
#print axioms secs_open
#print axioms claim_open
end Go.Proofs.YthhcaalafacjlaaDoor
end
