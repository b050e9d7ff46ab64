/-
  A REQUEST THAT CAME IN, opened, with how long its parts may be.; AN ANSWER THAT CAME IN, opened, with how long its body may be.
-/
import Derived.Test.YtonaekkenggmbaaGreatDoorPkHackbq
import Derived.SizedLaws
section
set_option linter.unusedVariables false
namespace Go.Proofs.YtonaekkenggmbaaGreatDoor
open Go.RowKit Go.Joins Go.WideShapes Go.ChangeShapes Go.ChangeAt

section
variable {H : Type} {enc : TypeId × Value → H} {w : World}
theorem rbyt_openS {fuel : Nat} {cs : List Value} {x : DataW H × List MemPlace} (h : DataW.trod enc Tryz.prog w 0 (fun _ => true) true fuel 28 cs = some x) {ts : List TypeId} {ds : List (DataW H)} (hz : (DataW.weightsEach Tryz.prog ts ds).all (· ≤ reachBytes) = true) {j : Nat} (h1 : ts[j]? = some 28) (h2 : ds[j]? = some x.1) : ∃ a c B, cs = [.slice a B.length c] ∧ Bs w a c B ∧ B.length ≤ 140737488351232 := by
  have hb : Tryz.prog.bytesOf 5 = 1 := by kernel_rfl
  rcases open_ints Tryz.underlying28 Tryz.underlying5 (by kernel_rfl) h with ⟨hcs, _⟩ | ⟨a, l, c, zs, hcs, _, hl, hm, hzs, hx, hcell, hwz⟩
  · exact ⟨none, 0, [], hcs, ⟨fun h => absurd rfl h, Nat.le_refl _, by unfold maxLen; omega, fun _ => rfl⟩, by simp⟩
  · obtain ⟨B, rfl, hB⟩ := bs_of (w := w) (a := some a) (len := l) (cap := c) (zs := zs) (.inr ⟨_, rfl, hl, hm, by simpa using hzs, hcell, hwz⟩)
    refine ⟨some a, c, B, hcs, hB, ?_⟩
    rw [hx] at h2
    have h3 := sized_slice hz h1 h2 Tryz.underlying28
    rw [hb] at h3
    simp [lits] at h3
    have h4 : reachBytes = 140737488351232 := rfl
    simp at hzs
    omega
set_option maxRecDepth 100000 in
theorem req_sized {base : Nat} {v : Value} {x : DataW H} {p : List MemPlace} (hv : Value.okWide Tryz.prog w .any base 39 v) (h : DataW.Trod enc Tryz.prog w 0 (fun _ => true) true 39 v x p) {ts : List TypeId} {ds : List (DataW H)} (hz : (DataW.weightsEach Tryz.prog ts ds).all (· ≤ reachBytes) = true) {j : Nat} (h1 : ts[j]? = some 39) (h2 : ds[j]? = some x) :
    ∃ (m q : List UInt8) (a : Option Addr) (c : Nat) (L : List Hd) (y : Option Addr) (yc : Nat) (B : List UInt8), v = .agg #[.string (str m), .string (str q), .slice a L.length c, .slice y B.length yc] ∧ HdR w a L ∧ Bs w y yc B ∧ m.length ≤ 140737488351232 ∧ q.length ≤ 140737488351232 ∧ B.length ≤ 140737488351232 := by
  obtain ⟨cs, rfl, hsz⟩ := okWide_struct Tryz.underlying39 hv
  obtain ⟨fuel, hf⟩ := h
  obtain ⟨xs, k, _, hx, hl, hlen, hf'⟩ := DataW.trod_struct Tryz.underlying39 hf
  rw [Tryz.cellsReq] at hsz
  obtain ⟨cl⟩ := cs
  have h4 : reachBytes = 140737488351232 := rfl
  match cl, hsz with
  | [v0, v1, v2, v3], _ =>
    have t0 := hf' 0 _ rfl
    have t1 := hf' 1 _ rfl
    have t2 := hf' 2 _ rfl
    have t3 := hf' 3 _ rfl
    simp [Value.cells, Tryz.cellsRs, Tryz.cellsRb, Tryz.cellsRh] at t0 t1 t2 t3
    match xs, hlen with
    | [y0, y1, y2, y3], _ =>
      simp only [List.getElem?_cons_zero, List.getElem?_cons_succ] at t0 t1 t2 t3
      simp only [List.map_cons, List.map_nil, Prod.mk.injEq] at hx
      have hin : (DataW.weightsEach Tryz.prog [9, 9, 37, 28] [y0.1, y1.1, y2.1, y3.1]).all (· ≤ reachBytes) = true := by
        rw [List.all_eq_true]
        intro n hn
        refine List.all_eq_true.1 hz n (DataW.weights_mem_each h1 h2 n ?_)
        rw [hx.1]
        simp only [DataW.weights, Tryz.underlying39]
        exact hn
      obtain ⟨s0, e0, d0, _⟩ := DataW.trod_string Tryz.underlying9 t0
      obtain ⟨s1, e1, d1, _⟩ := DataW.trod_string Tryz.underlying9 t1
      obtain ⟨a, c, L, e2, hb⟩ := hdrs_open t2
      obtain ⟨y, yc, B, e3, hB, hBl⟩ := rbyt_openS t3 hin (j := 3) rfl rfl
      simp only [List.cons.injEq, and_true] at e0 e1 e2 e3
      subst e0 e1 e2 e3
      have l0 := sized_string hin (j := 0) rfl (by rw [d0]; rfl)
      have l1 := sized_string hin (j := 1) rfl (by rw [d1]; rfl)
      exact ⟨s0.data.toList, s1.data.toList, a, c, L, y, yc, B, rfl, hb, hB, by omega, by omega, hBl⟩
end
#print axioms req_sized
end Go.Proofs.YtonaekkenggmbaaGreatDoor
end
section
set_option linter.unusedVariables false
namespace Go.Proofs.YtonaekkenggmbaaGreatDoor
open Go.RowKit Go.Joins Go.WideShapes Go.ChangeShapes Go.ChangeAt

theorem wf_i64n {n : Int} (h : (Lit.int .i64 n).wf = true) : -9223372036854775808 ≤ n ∧ n ≤ 9223372036854775807 := by
  simp [Lit.wf, IntKind.min, IntKind.max, IntKind.bits, IntKind.signed] at h
  omega
theorem Tryz.cellsAi : Tryz.prog.cellsOf 3 = 1 := by kernel_rfl
theorem Tryz.cellsAn : Tryz.prog.cellsOf 58 = 3 := by kernel_rfl
section
variable {H : Type} {enc : TypeId × Value → H} {w : World}
set_option maxRecDepth 100000 in
theorem ans_sized {base : Nat} {v : Value} {x : DataW H} {p : List MemPlace} (hv : Value.okWide Tryz.prog w .any base 58 v) (h : DataW.Trod enc Tryz.prog w 0 (fun _ => true) true 58 v x p) {ts : List TypeId} {ds : List (DataW H)} (hz : (DataW.weightsEach Tryz.prog ts ds).all (· ≤ reachBytes) = true) {j : Nat} (h1 : ts[j]? = some 58) (h2 : ds[j]? = some x) :
    ∃ (s : Int) (a : Option Addr) (c : Nat) (L : List Hd) (y : Option Addr) (yc : Nat) (B : List UInt8), v = .agg #[.int .i64 s, .slice a L.length c, .slice y B.length yc] ∧ HdR w a L ∧ Bs w y yc B ∧ B.length ≤ 140737488351232 ∧ (-9223372036854775808 ≤ s ∧ s ≤ 9223372036854775807) := by
  obtain ⟨cs, rfl, hsz⟩ := okWide_struct Tryz.underlying58 hv
  obtain ⟨fuel, hf⟩ := h
  obtain ⟨xs, k, _, hx, hl, hlen, hf'⟩ := DataW.trod_struct Tryz.underlying58 hf
  rw [Tryz.cellsAn] at hsz
  obtain ⟨cl⟩ := cs
  match cl, hsz with
  | [v0, v2, v3], _ =>
    have t0 := hf' 0 _ rfl
    have t2 := hf' 1 _ rfl
    have t3 := hf' 2 _ rfl
    simp [Value.cells, Tryz.cellsAi, Tryz.cellsRb, Tryz.cellsRh] at t0 t2 t3
    match xs, hlen with
    | [y0, y2, y3], _ =>
      simp only [List.getElem?_cons_zero, List.getElem?_cons_succ] at t0 t2 t3
      simp only [List.map_cons, List.map_nil, Prod.mk.injEq] at hx
      have hin : (DataW.weightsEach Tryz.prog [3, 37, 28] [y0.1, y2.1, y3.1]).all (· ≤ reachBytes) = true := by
        rw [List.all_eq_true]
        intro n hn
        refine List.all_eq_true.1 hz n (DataW.weights_mem_each h1 h2 n ?_)
        rw [hx.1]
        simp only [DataW.weights, Tryz.underlying58]
        exact hn
      obtain ⟨s, e0, _, w0⟩ := DataW.trod_int Tryz.underlying3 t0
      obtain ⟨a, c, L, e2, hb⟩ := hdrs_open t2
      obtain ⟨y, yc, B, e3, hB, hBl⟩ := rbyt_openS t3 hin (j := 2) rfl rfl
      simp only [List.cons.injEq, and_true] at e0 e2 e3
      subst e0 e2 e3
      exact ⟨s, a, c, L, y, yc, B, rfl, hb, hB, hBl, wf_i64n w0⟩
end
#print axioms ans_sized
end Go.Proofs.YtonaekkenggmbaaGreatDoor
end
