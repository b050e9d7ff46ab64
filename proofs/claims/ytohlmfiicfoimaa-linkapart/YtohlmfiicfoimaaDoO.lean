/-
  A Do THAT CAME IN, by value: its shape.
-/
import Derived.Test.YtohlmfiicfoimaaBase
import Derived.Lib.SmallJoins
set_option linter.unusedVariables false
namespace Go.Proofs.Ytohlmfiicfoimaa
open Go.RowKit Go.Joins Go.WideShapes Go.ChangeShapes

theorem array5 {α : Type} {cs : Array α} (h : cs.size = 5) : ∃ c0 c1 c2 c3 c4, cs = #[c0, c1, c2, c3, c4] := by
  obtain ⟨l⟩ := cs
  match l, h with
  | [c0, c1, c2, c3, c4], _ => exact ⟨c0, c1, c2, c3, c4, rfl⟩
set_option maxRecDepth 100000 in
theorem Try.cellsDo : Try.prog.cellsOf 33 = 5 := by kernel_rfl
theorem Try.cellsI : Try.prog.cellsOf 3 = 1 := by kernel_rfl
theorem Try.cellsB : Try.prog.cellsOf 31 = 1 := by kernel_rfl

set_option maxRecDepth 100000 in
theorem do_open {H : Type} {enc : TypeId × Value → H} {w : World} {base : Nat} {v : Value} {d : DataW H} {p : List MemPlace} (hv : Value.okWide Try.prog w .any base 33 v)
    (h : DataW.Trod enc Try.prog w 0 (fun _ => true) true 33 v d p) :
    ∃ (o i a b : Int) (x : Option Addr) (n c : Nat), v = .agg #[.int .i64 o, .int .i64 i, .int .i64 a, .int .i64 b, .slice x n c] := by
  obtain ⟨cs, rfl, hsz⟩ := okWide_struct Try.underlying33 hv
  obtain ⟨c0, c1, c2, c3, c4, rfl⟩ := array5 (hsz.trans Try.cellsDo)
  obtain ⟨fuel, hf⟩ := h
  obtain ⟨xs, k, _, _, hl, hlen, hf'⟩ := DataW.trod_struct Try.underlying33 hf
  have t0 := hf' 0 _ rfl
  have t1 := hf' 1 _ rfl
  have t2 := hf' 2 _ rfl
  have t3 := hf' 3 _ rfl
  have t4 := hf' 4 _ rfl
  simp [Value.cells, Try.cellsI, Try.cellsB] at t0 t1 t2 t3 t4
  match xs, hlen with
  | [y0, y1, y2, y3, y4], _ =>
    simp only [List.getElem?_cons_zero, List.getElem?_cons_succ] at t0 t1 t2 t3 t4
    obtain ⟨o, e0, _⟩ := DataW.trod_int Try.underlying3 t0
    obtain ⟨i, e1, _⟩ := DataW.trod_int Try.underlying3 t1
    obtain ⟨a, e2, _⟩ := DataW.trod_int Try.underlying3 t2
    obtain ⟨b, e3, _⟩ := DataW.trod_int Try.underlying3 t3
    obtain ⟨x, n, c, e4⟩ := slice_form Try.underlying31 t4
    simp only [List.cons.injEq, and_true] at e0 e1 e2 e3 e4
    subst e0 e1 e2 e3 e4
    exact ⟨o, i, a, b, x, n, c, rfl⟩
#print axioms do_open
end Go.Proofs.Ytohlmfiicfoimaa
