/-
  A Do THAT CAME IN, by value: its shape.
-/
import Derived.Test.YtkhpjlgbiicdcaaBase
import Derived.Lib.SmallJoins
set_option linter.unusedVariables false
namespace Go.Proofs.Ytkhpjlgbiicdcaa
open Go.RowKit Go.Joins Go.WideShapes Go.ChangeShapes

theorem array5d {α : Type} {cs : Array α} (h : cs.size = 5) : ∃ c0 c1 c2 c3 c4, cs = #[c0, c1, c2, c3, c4] := by
  obtain ⟨l⟩ := cs
  match l, h with
  | [c0, c1, c2, c3, c4], _ => exact ⟨c0, c1, c2, c3, c4, rfl⟩
set_option maxRecDepth 100000 in
theorem Try.cellsD2 : Try.prog.cellsOf 36 = 5 := by kernel_rfl
theorem Try.cellsI : Try.prog.cellsOf 3 = 1 := by kernel_rfl
theorem Try.cellsB : Try.prog.cellsOf 33 = 1 := by kernel_rfl
theorem Try.cellsS : Try.prog.cellsOf 9 = 1 := by kernel_rfl
theorem Try.cellsK : Try.prog.cellsOf 34 = 1 := by kernel_rfl

set_option maxRecDepth 100000 in
theorem do2_open {H : Type} {enc : TypeId × Value → H} {w : World} {base : Nat} {v : Value} {d : DataW H} {p : List MemPlace} (hv : Value.okWide Try.prog w .any base 36 v)
    (h : DataW.Trod enc Try.prog w 0 (fun _ => true) true 36 v d p) :
    ∃ (o : Int) (s : ByteArray) (x : Option Addr) (n c : Nat) (z : Int) (y : Option Addr) (m k : Nat), v = .agg #[.int .i64 o, .string s, .slice x n c, .int .i64 z, .slice y m k] := by
  obtain ⟨cs, rfl, hsz⟩ := okWide_struct Try.underlying36 hv
  obtain ⟨c0, c1, c2, c3, c4, rfl⟩ := array5d (hsz.trans Try.cellsD2)
  obtain ⟨fuel, hf⟩ := h
  obtain ⟨xs, k, _, _, hl, hlen, hf'⟩ := DataW.trod_struct Try.underlying36 hf
  have t0 := hf' 0 _ rfl
  have t1 := hf' 1 _ rfl
  have t2 := hf' 2 _ rfl
  have t3 := hf' 3 _ rfl
  have t4 := hf' 4 _ rfl
  simp [Value.cells, Try.cellsI, Try.cellsB, Try.cellsS, Try.cellsK] at t0 t1 t2 t3 t4
  match xs, hlen with
  | [y0, y1, y2, y3, y4], _ =>
    simp only [List.getElem?_cons_zero, List.getElem?_cons_succ] at t0 t1 t2 t3 t4
    obtain ⟨o, e0, _⟩ := DataW.trod_int Try.underlying3 t0
    obtain ⟨i, e1, _⟩ := DataW.trod_string Try.underlying9 t1
    obtain ⟨x, n, c, e2⟩ := slice_form Try.underlying33 t2
    obtain ⟨b, e3, _⟩ := DataW.trod_int Try.underlying3 t3
    obtain ⟨y, m, k, e4⟩ := slice_form Try.underlying34 t4
    simp only [List.cons.injEq, and_true] at e0 e1 e2 e3 e4
    subst e0 e1 e2 e3 e4
    exact ⟨o, i, x, n, c, b, y, m, k, rfl⟩
#print axioms do2_open
end Go.Proofs.Ytkhpjlgbiicdcaa
