/-
  A FRAME, FOUR BYTES THAT CAME IN, by value.
-/
import Derived.Test.YtpomejeopmfcmaaDoorPkWtesad
import Derived.Lib.SmallJoins
import Derived.Laws.IdiomArrays
section
set_option linter.unusedVariables false
namespace Go.Proofs.YtpomejeopmfcmaaDoor
open Go.RowKit Go.Joins Go.WideShapes Go.ChangeShapes

section
variable {H : Type} {enc : TypeId × Value → H} {w : World}
theorem Tryd.cellsFrm : Tryd.prog.cellsOf 24 = 3 := by kernel_rfl
theorem Tryd.cellsFi : Tryd.prog.cellsOf 3 = 1 := by kernel_rfl
theorem Tryd.cellsFb : Tryd.prog.cellsOf 4 = 1 := by kernel_rfl
theorem Tryd.cellsFs : Tryd.prog.cellsOf 22 = 1 := by kernel_rfl
theorem Tryd.cellsFu : Tryd.prog.cellsOf 5 = 1 := by kernel_rfl
theorem Tryd.cellsF4 : Tryd.prog.cellsOf 71 = 4 := by kernel_rfl

theorem load_open {fuel : Nat} {cs : List Value} {x : DataW H × List MemPlace} (h : DataW.trod enc Tryd.prog w 0 (fun _ => true) true fuel 22 cs = some x) : ∃ a c l, cs = [.slice a l.length c] ∧ Bs w a c l := by
  obtain ⟨a, n, c, zs, rfl, hz⟩ : ∃ a n c zs, cs = [.slice a n c] ∧ IsRow w a n c zs := by
    rcases open_ints Tryd.underlying22 Tryd.underlying5 (by kernel_rfl) h with ⟨hcs, _⟩ | ⟨x, l, c, zs, hcs, _, hl, hm, hz, _, hcell, hwz⟩
    · exact ⟨none, 0, 0, [], hcs, .inl ⟨rfl, rfl, rfl, rfl⟩⟩
    · exact ⟨some x, l, c, zs, hcs, .inr ⟨_, rfl, hl, hm, by simpa using hz, hcell, hwz⟩⟩
  obtain ⟨l, rfl, hb⟩ := bs_of hz
  exact ⟨a, c, l, rfl, hb⟩
set_option maxRecDepth 100000 in
theorem frame_open {base : Nat} {v : Value} {x : DataW H} {p : List MemPlace} (hv : Value.okWide Tryd.prog w .any base 24 v) (h : DataW.Trod enc Tryd.prog w 0 (fun _ => true) true 24 v x p) :
    ∃ (fin : Bool) (op : Int) (a : Option Addr) (c : Nat) (l : List UInt8), v = .agg #[.bool fin, .int .i64 op, .slice a l.length c] ∧ Bs w a c l := by
  obtain ⟨cs, rfl, hsz⟩ := okWide_struct Tryd.underlying24 hv
  obtain ⟨fuel, hf⟩ := h
  obtain ⟨xs, k, _, _, hl, hlen, hf'⟩ := DataW.trod_struct Tryd.underlying24 hf
  rw [Tryd.cellsFrm] at hsz
  obtain ⟨cl⟩ := cs
  match cl, hsz with
  | [v0, v1, v2], _ =>
    have t0 := hf' 0 _ rfl
    have t1 := hf' 1 _ rfl
    have t2 := hf' 2 _ rfl
    simp [Value.cells, Tryd.cellsFi, Tryd.cellsFb, Tryd.cellsFs] at t0 t1 t2
    match xs, hlen with
    | [y0, y1, y2], _ =>
      simp only [List.getElem?_cons_zero, List.getElem?_cons_succ] at t0 t1 t2
      obtain ⟨b, e0, _⟩ := DataW.trod_bool Tryd.underlying4 t0
      obtain ⟨o, e1, _⟩ := DataW.trod_int Tryd.underlying3 t1
      obtain ⟨a, c, l, e2, hb⟩ := load_open t2
      simp only [List.cons.injEq, and_true] at e0 e1 e2
      subst e0 e1 e2
      exact ⟨b, o, a, c, l, rfl, hb⟩
theorem u8_el {fuel : Nat} {c : Value} {x : DataW H × List MemPlace} (h : DataW.trod enc Tryd.prog w 0 (fun _ => true) true fuel 5 [c] = some x) : ∃ b : UInt8, c = .int .u8 (b.toNat : Int) := by
  obtain ⟨n, e, _, hw⟩ := DataW.trod_int Tryd.underlying5 h
  simp only [List.cons.injEq, and_true] at e
  subst e
  have hw' := wf_u8 hw
  exact ⟨UInt8.ofNat n.toNat, by rw [UInt8.toNat_ofNat']; congr 1; omega⟩
set_option maxRecDepth 100000 in
theorem four_open {base : Nat} {v : Value} {x : DataW H} {p : List MemPlace} (hv : Value.okWide Tryd.prog w .any base 71 v) (h : DataW.Trod enc Tryd.prog w 0 (fun _ => true) true 71 v x p) :
    ∃ P : List UInt8, v = .agg (bs P).toArray ∧ P.length = 4 := by
  obtain ⟨cs, rfl, hsz⟩ : ∃ cs, v = .agg cs ∧ cs.size = Tryd.prog.cellsOf 71 := by
    simp only [Value.okWide, Tryd.underlying71] at hv
    obtain ⟨cs, h1, h2, _⟩ := hv
    exact ⟨cs, h1, h2⟩
  obtain ⟨fuel, hf⟩ := h
  rw [Tryd.cellsF4] at hsz
  obtain ⟨cl⟩ := cs
  match cl, hsz with
  | [v0, v1, v2, v3], _ =>
    obtain ⟨y0, y1, y2, y3, n, _, t0, t1, t2, t3⟩ := trod_array4 Tryd.underlying71 Tryd.cellsFu hf
    obtain ⟨b0, rfl⟩ := u8_el t0
    obtain ⟨b1, rfl⟩ := u8_el t1
    obtain ⟨b2, rfl⟩ := u8_el t2
    obtain ⟨b3, rfl⟩ := u8_el t3
    exact ⟨[b0, b1, b2, b3], rfl, rfl⟩
end
#print axioms frame_open
#print axioms four_open
end Go.Proofs.YtpomejeopmfcmaaDoor
end
