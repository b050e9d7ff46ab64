/-
  for all numbers and texts JsonxDeep answers true.
-/
import Derived.Test.YtbnbngmnoffmkaaGreatDoorPkJetsbc
import Derived.Test.YtbnbngmnoffmkaaGreatDoorPkJetsbd
section
set_option linter.unusedVariables false
set_option maxRecDepth 1000000
namespace Go.Proofs.YtbnbngmnoffmkaaGreatDoor
open Go.RowKit

theorem op40 (o : Int) : ∃ r : Nat, r < 40 ∧ wrap64 ((IntKind.u64.wrap o).tmod 40) = (r : Int) := by
  have e : IntKind.u64.wrap o = o % 18446744073709551616 := by simp [IntKind.wrap, IntKind.bits, IntKind.signed]
  have h0 : 0 ≤ o % 18446744073709551616 := Int.emod_nonneg _ (by omega)
  have e2 : (o % 18446744073709551616).tmod 40 = o % 18446744073709551616 % 40 := Int.tmod_eq_emod_of_nonneg h0
  refine ⟨(o % 18446744073709551616 % 40).toNat, by omega, ?_⟩
  rw [e, e2, IntWalk.wrap64_in _ (by omega)]
  omega
theorem JV.kd {w : World} {S : Nat → Prop} {k : Int} {x1 x2 x3 x4 : Value} {j : Js} (h : JV w S (.agg #[.int .i64 k, x1, x2, x3, x4]) j) : Proofs.YtbnbngmnoffmkaaGreatDoor.kd j = k := by
  cases j with
  | mk k' n t ns is =>
  simp only [JV] at h
  obtain ⟨a1, c1, a2, c2, e, _⟩ := h
  simp only [Value.agg.injEq, Array.mk.injEq, List.cons.injEq, Value.int.injEq, true_and] at e
  exact e.1.symm
/-- A value and its box, which is no part of it. -/
def Bxj (w : World) (B : Nat) (j : Js) : Prop := ∃ k n t a1 n1 c1 a2 n2 c2, w.heap[B]? = some (.cells #[.int .i64 k, .int .i64 n, .string (str t), .slice a1 n1 c1, .slice a2 n2 c2] 25 (0, 0)) ∧ JV w (fun x => x < w.heap.size ∧ x ≠ B) (.agg #[.int .i64 k, .int .i64 n, .string (str t), .slice a1 n1 c1, .slice a2 n2 c2]) j
theorem Bxj.step {w W : World} {B G : Nat} {j : Js} {k n : Int} {t : List UInt8} {a1 a2 : Option Addr} {n1 c1 n2 c2 : Nat} (hG : G = w.heap.size) (hB : B < G)
    (hJ : JV w (fun x => x < w.heap.size ∧ x ≠ B) (.agg #[.int .i64 k, .int .i64 n, .string (str t), .slice a1 n1 c1, .slice a2 n2 c2]) j)
    (hs : W.heap.size = G + 1) (hg : W.heap[G]? = some (.cells #[.int .i64 k, .int .i64 n, .string (str t), .slice a1 n1 c1, .slice a2 n2 c2] 25 (0, 0)))
    (hk : ∀ x, x < G → x ≠ B → W.heap[x]? = w.heap[x]?) (hb : W.heap[B]? = some (.cells #[.int .i64 4, .int .i64 0, .string ⟨#[]⟩, .slice none 0 0, .slice (some ⟨G, 0, none⟩) 1 1] 25 (0, 0))) : Bxj W B (.mk 4 0 [] [] [j]) := by
  refine ⟨4, 0, [], none, 0, 0, some ⟨G, 0, none⟩, 1, 1, hb, ?_⟩
  simp only [JV]
  obtain ⟨g0, g1, g2, g3, g4⟩ := cells5 hg
  refine ⟨none, 0, some ⟨G, 0, none⟩, 1, rfl, fun h => absurd rfl h, Nat.le_refl _, by unfold maxLen; omega, fun _ => rfl, Nat.le_refl _, by unfold maxLen; omega, (fun e => by cases e), ?_⟩
  simp only [JVs]
  refine ⟨⟨G, 0, _, _, _, _, _, rfl, ⟨by omega, by omega⟩, g0, g1, g2, g3, g4, ?_⟩, trivial⟩
  exact JV.keep (fun x hx => ⟨⟨by omega, hx.2⟩, hk x (by omega) hx.2⟩) _ _ hJ
theorem Bxj.round {w0 w : World} {B : Nat} {j : Js} {k n : Int} {t : List UInt8} {a1 a2 : Option Addr} {n1 c1 n2 c2 : Nat} (hB : B < w.heap.size) (hw : Below w0.heap.size w0 w) (hwB : w0.heap.size ≤ B)
    (hr : w.heap[B]? = some (.cells #[.int .i64 k, .int .i64 n, .string (str t), .slice a1 n1 c1, .slice a2 n2 c2] 25 (0, 0)))
    (hJ : JV w (fun x => x < w.heap.size ∧ x ≠ B) (.agg #[.int .i64 k, .int .i64 n, .string (str t), .slice a1 n1 c1, .slice a2 n2 c2]) j) :
    ∀ W, W = ((((((w.setCell ⟨B, 0, none⟩ (.int .i64 4)).setCell ⟨B, 1, none⟩ (.int .i64 0)).setCell ⟨B, 2, none⟩ (.string ⟨#[]⟩)).setCell ⟨B, 3, none⟩ (.slice none 0 0)).setCell ⟨B, 4, none⟩ (.slice (some ⟨w.heap.size, 0, none⟩) 1 1)).alloc (.cells #[.int .i64 k, .int .i64 n, .string (str t), .slice a1 n1 c1, .slice a2 n2 c2] 25)) →
      Hid (Bxj W B (.mk 4 0 [] [] [j])) ∧ Hid (Below w0.heap.size w0 W) ∧ Hid (B < W.heap.size) := by
  intro W hW
  obtain ⟨w5, h5⟩ : ∃ w5, w5 = (((((w.setCell ⟨B, 0, none⟩ (.int .i64 4)).setCell ⟨B, 1, none⟩ (.int .i64 0)).setCell ⟨B, 2, none⟩ (.string ⟨#[]⟩)).setCell ⟨B, 3, none⟩ (.slice none 0 0)).setCell ⟨B, 4, none⟩ (.slice (some ⟨w.heap.size, 0, none⟩) 1 1)) := ⟨_, rfl⟩
  rw [← h5] at hW
  have s5 : w5.heap.size = w.heap.size := by rw [h5]; exact siz5 _ _ _ _ _ _ _ _ _ _ _ _
  have r5 : w5.heap[B]? = some (.cells #[.int .i64 4, .int .i64 0, .string ⟨#[]⟩, .slice none 0 0, .slice (some ⟨w.heap.size, 0, none⟩) 1 1] 25 (0, 0)) := by
    rw [h5]
    exact heap_setCell_same _ _ _ _ _ _ (heap_setCell_same _ _ _ _ _ _ (heap_setCell_same _ _ _ _ _ _ (heap_setCell_same _ _ _ _ _ _ (heap_setCell_same _ _ _ _ _ _ hr))))
  have f5 : ∀ x, x ≠ B → w5.heap[x]? = w.heap[x]? := fun x hx => by rw [h5]; exact far5 _ _ _ _ _ _ _ _ _ _ _ _ _ hx
  have b5 : Below w0.heap.size w0 w5 := by
    obtain ⟨o1, o2, o3⟩ := oth5 w B 0 1 2 3 4 (.int .i64 4) (.int .i64 0) (.string ⟨#[]⟩) (.slice none 0 0) (.slice (some ⟨w.heap.size, 0, none⟩) 1 1)
    rw [← h5] at o1 o2 o3
    exact ⟨o1.trans hw.os, o2.trans hw.tape, o3.trans hw.output, by rw [s5]; exact hw.size, fun x hx => (f5 x (by omega)).trans (hw.block x hx)⟩
  have sW : W.heap.size = w.heap.size + 1 := by rw [hW]; simp [s5]
  have old : ∀ x, x < w.heap.size → W.heap[x]? = w5.heap[x]? := fun x hx => by rw [hW]; exact heap_alloc_old _ _ (by rw [s5]; omega)
  refine ⟨?_, ?_, ?_⟩
  · exact Bxj.step rfl hB hJ sW (by rw [hW, ← s5]; exact heap_alloc_new _ _) (fun x hx hxB => (old x hx).trans (f5 x hxB)) ((old B hB).trans r5)
  · show Below _ _ _
    rw [hW]
    exact b5.alloc (by rw [s5]; exact hw.size) _
  · show _ < _
    omega
theorem str_tn (i : Nat) (s : List UInt8) : (⟨#[91]⟩ : ByteArray) ++ str (tnL i s) ++ (⟨#[93]⟩ : ByteArray) = str (tnL (i + 1) s) := by
  rw [show (⟨#[91]⟩ : ByteArray) = str [91] from rfl, show (⟨#[93]⟩ : ByteArray) = str [93] from rfl, str_app4, str_app4]
  rfl
end Go.Proofs.YtbnbngmnoffmkaaGreatDoor
end
