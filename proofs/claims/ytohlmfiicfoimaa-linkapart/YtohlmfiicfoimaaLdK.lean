/-
  link: does, whatever is called; what a call leaves of numbers that are gone; both nets at the start.
-/
import Derived.Test.YtohlmfiicfoimaaLdD
import Derived.Test.YtohlmfiicfoimaaLdE
import Derived.Test.YtohlmfiicfoimaaLdF
import Derived.Test.YtohlmfiicfoimaaLdG
import Derived.Test.YtohlmfiicfoimaaLdH
import Derived.Test.YtohlmfiicfoimaaLdI
import Derived.Test.YtohlmfiicfoimaaLdJ
set_option linter.unusedVariables false
namespace Go.Proofs.Ytohlmfiicfoimaa
open Go.RowKit Go.Maps

theorem does_any {w0 w : World} {N bm X : Nat} {M : Nm} {T : Nat} {Z : Nat → Prop} (h : NQ w0 w N bm X M M T Z) (hM : Mok M) (hl : M.last < 1000000) (hT : T ≤ 110000000) (d : Dl) (x : Option Addr) (c : Nat) (hd : DlV w0 d x c) (hlen : d.l.length ≤ 262144) :
    Calls Try.prog 9 #[.pointer (some ⟨N, 0, none⟩), .pointer (some ⟨X, 0, none⟩), .agg #[.int .i64 d.o, .int .i64 d.i, .int .i64 d.a, .int .i64 d.b, .slice x d.l.length c]] w fun e w' => e = .returned (.bool true) ∧ Hid (NQ w0 w' N bm X (stM M d) (stM M d) (T + d.l.length) Z) ∧ Hid (ZS w w' Z) := by
  obtain ⟨r, hr⟩ : ∃ r, (d.o % 8).toNat = r := ⟨_, rfl⟩
  have h8 : r < 8 := by rw [← hr]; exact (op8e d.o).2
  match r, h8 with
  | 0, _ => exact does_0 h hM hl hT d x c hd hlen hr
  | 1, _ => exact does_1 h hM hl hT d x c hd hlen hr
  | 2, _ => exact does_2 h hM hl hT d x c hd hlen hr
  | 3, _ => exact does_3 h hM hl hT d x c hd hlen hr
  | 4, _ => exact does_4 h hM hl hT d x c hd hlen hr
  | 5, _ => exact does_5 h hM hl hT d x c hd hlen hr
  | 6, _ => exact does_6 h hM hl hT d x c hd hlen hr
  | 7, _ => exact does_7 h hM hl hT d x c hd hlen hr

/-! ### What a call makes of the model -/
theorem stM_ok {M : Nm} (h : Mok M) (hl : M.last < 1000000) (d : Dl) : Mok (stM M d) := by
  unfold stM
  split
  · exact diM_ok h hl _ _
  · exact sdM_ok h _ _ _
  · exact sdM_ok h _ _ _
  · exact crM_ok h _ _ _
  · exact crM_ok h _ _ _
  · exact clM_ok h _ _
  · exact cuM_ok h _
  · exact drM_ok h _
theorem sdM_last (M : Nm) (i n : Int) (l : List UInt8) : (sdM M i n l).last = M.last := by
  unfold sdM
  split
  · rfl
  · split <;> rfl
theorem crM_last (M : Nm) (i n m : Int) : (crM M i n m).last = M.last := by
  unfold crM
  split
  · rfl
  · split <;> rfl
theorem clM_last (M : Nm) (i n : Int) : (clM M i n).last = M.last := by
  unfold clM
  split
  · rfl
  · split <;> rfl
theorem cuM_last (M : Nm) (i : Int) : (cuM M i).last = M.last := by
  unfold cuM
  split <;> rfl
theorem stM_last (M : Nm) (d : Dl) : M.last ≤ (stM M d).last ∧ (stM M d).last ≤ M.last + 1 := by
  unfold stM
  split
  · unfold diM; split <;> simp
  · rw [sdM_last]; omega
  · rw [sdM_last]; omega
  · rw [crM_last]; omega
  · rw [crM_last]; omega
  · rw [clM_last]; omega
  · rw [cuM_last]; omega
  · show M.last ≤ M.last ∧ M.last ≤ M.last + 1; omega
/-- A number that was given and is gone. -/
def Gn (M : Nm) (id : Int) : Prop := M.get id = none ∧ id ≤ M.last
theorem get_none_iff (M : Nm) (id : Int) : M.get id = none ↔ ∀ c ∈ M.cs, (c.id : Int) ≠ id := by
  constructor
  · exact Nm.get_none
  · intro h
    cases hg : M.get id with
    | none => rfl
    | some c => obtain ⟨hc, hi⟩ := Nm.get_some hg; exact absurd hi (h c hc)
theorem gn_set {M : Nm} {c : Cn} (hc : ∃ e ∈ M.cs, e.id = c.id) {id : Int} (h : M.get id = none) : (M.set c).get id = none := by
  rw [get_none_iff] at h ⊢
  intro d hd
  rcases Nm.mem_set hd with ⟨rfl, e, he, hi⟩ | ⟨hd, _⟩
  · rw [← hi]; exact h e he
  · exact h d hd
theorem gn_filter {M : Nm} {f : Cn → Bool} {id : Int} (h : M.get id = none) : Nm.get { M with cs := M.cs.filter f } id = none := by
  rw [get_none_iff] at h ⊢
  exact fun d hd => h d (List.mem_filter.1 hd).1
theorem stM_gone {M : Nm} (d : Dl) {id : Int} (h : Gn M id) : Gn (stM M d) id := by
  obtain ⟨h1, h2⟩ := h
  refine ⟨?_, Int.le_trans h2 (by have := (stM_last M d).1; omega)⟩
  have hsd : ∀ (i n : Int) (l : List UInt8), (sdM M i n l).get id = none := fun i n l => by
    unfold sdM
    split
    · exact h1
    · rename_i c hg
      split
      · apply gn_set _ h1
        exact ⟨c, (Nm.get_some hg).1, rfl⟩
      · exact h1
  have hcr : ∀ (i n m : Int), (crM M i n m).get id = none := fun i n m => by
    unfold crM
    split
    · exact h1
    · rename_i c hg
      split
      · apply gn_filter
        apply gn_set _ h1
        exact ⟨c, (Nm.get_some hg).1, rfl⟩
      · exact h1
  have hcl : ∀ (i n : Int), (clM M i n).get id = none := fun i n => by
    unfold clM
    split
    · exact h1
    · rename_i c hg
      split
      · apply gn_filter
        apply gn_set _ h1
        exact ⟨c, (Nm.get_some hg).1, rfl⟩
      · exact h1
  unfold stM
  split
  · unfold diM
    split
    · rw [get_none_iff] at h1 ⊢
      intro c hc
      rcases List.mem_append.1 hc with hc | hc
      · exact h1 c hc
      · obtain rfl := List.mem_singleton.1 hc
        simp only [newC]
        omega
    · exact h1
  · exact hsd _ _ _
  · exact hsd _ _ _
  · exact hcr _ _ _
  · exact hcr _ _ _
  · exact hcl _ _
  · unfold cuM
    split
    · exact h1
    · exact gn_filter h1
  · exact gn_filter h1

/-! ### The start -/
theorem mok_empty : Mok ⟨[], 0⟩ := ⟨List.Pairwise.nil, by simp, by simp, by simp, by simp, by simp, by simp, by simp⟩
theorem nq_init {w w1 : World} {N bm : Nat} (h1 : w1.heap[N]? = some (.cells #[.map (some bm), .int .i64 0] 59 (0, 0))) (h2 : w1.ownsMap Try.prog 3 ptrElem bm 0 (.map [])) (h3 : w.heap.size ≤ N) (h4 : w.heap.size ≤ bm) (h5 : Below w.heap.size w w1) :
    NQ w (w1.alloc (.cells #[.slice none 0 0, .int .i64 0] 30)) N bm w1.heap.size ⟨[], 0⟩ ⟨[], 0⟩ 0 (fun _ => False) := by
  have hN : N < w1.heap.size := (Array.getElem?_eq_some_iff.1 h1).1
  have hB := h2.lt
  have hb : Below w1.heap.size w1 (w1.alloc (.cells #[.slice none 0 0, .int .i64 0] 30)) := (Below.refl _ _).alloc (Nat.le_refl _) _
  have hnt : NT w1 N bm (((0 : Nat) : Int)) 0 (.map []) := ⟨h1, h2⟩
  refine ⟨fun k => if k = N ∨ k = bm then (3, 0) else if k = w1.heap.size then (4, 0) else (0, 0), fun _ => ⟨0, fun _ => none, fun _ => 0⟩, fun _ => ⟨0, fun _ => none, fun _ => 0, fun _ => [], fun _ => 0⟩, ⟨0, .map [], hnt.below hb, Nat.le_refl _, by simp, fun id _ => rfl, by simp, by simp, by simp⟩, ⟨none, 0, heap_alloc_new w1 _, OwnQ.nil _ _, ?_, by simp [blk], by simp⟩, ?_, ?_, h5.trans (hb.mono h5.size), fun b hb => hb.elim⟩
  · rw [if_neg (by omega), if_pos rfl]
  · intro k hk
    simp at hk
    simp only
    rw [if_neg (by omega), if_neg (by omega)]
  · intro k hk
    have := h5.size
    simp only
    rw [if_neg (by omega), if_neg (by omega)]
#print axioms does_any
#print axioms stM_gone
#print axioms nq_init
end Go.Proofs.Ytohlmfiicfoimaa
