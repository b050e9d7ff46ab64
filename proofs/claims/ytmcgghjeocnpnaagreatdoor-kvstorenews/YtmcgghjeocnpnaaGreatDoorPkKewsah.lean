/-
  append(s, make([]byte, n)...), s the call's own: n noughts behind its bytes.
-/
import Derived.Test.YtmcgghjeocnpnaaGreatDoorPkKewsad
import Derived.Lib.AppendZeros
section
set_option linter.unusedVariables false
namespace Go.Proofs.YtmcgghjeocnpnaaGreatDoor
open Go.RowKit

theorem zcells (n : Nat) : (Builtin.zeroCells (Value.int .u8 0).cells n).toList = bs (List.replicate n 0) := by
  apply List.ext_getElem?
  intro i
  simp [Builtin.zeroCells, Value.cells, bs]
  by_cases h : i < n
  · rw [List.getElem?_range h, List.getElem?_replicate, if_pos h]
    simp
    rw [Nat.mod_one]
    rfl
  · rw [List.getElem?_eq_none (by simp; omega), List.getElem?_replicate, if_neg h]
    rfl

theorem run_app0 (w : World) (ty : TypeId) (base : Nat) (a1 : Option Addr) (cap1 : Nat) (l1 : List UInt8) (hown : OwnB w base a1 cap1 l1) (n : Nat) (hlen : l1.length + n ≤ 140737488355328) (hbase : base ≤ w.heap.size) :
    ∃ a' cap' w', (Builtin.append_ #[86, 3] ty #[.slice a1 l1.length cap1, .int .i64 (n : Int)]).run Tryz.prog w = .ok (.slice a' (l1 ++ List.replicate n 0).length cap') w' ∧ OwnB w' base a' cap' (l1 ++ List.replicate n 0) ∧ w.grownBy w' (blk a1) ∧ (a' = a1 ∨ ∀ k, blk a' = some k → w.heap.size ≤ k) := by
  obtain ⟨i, hi, hz0, hz1, hz2⟩ := info_parts Tryz.infoB
  have hw : IntKind.i64.wrap (n : Int) = n := by rw [IntKind.wrap_i64]; omega
  have hneg : ¬ ((n : Int) < 0) := by omega
  have h48i : ¬ (281474976710656 < (n : Int) * (i.bytes : Int)) := by rw [hz2]; omega
  have e2 : (l1 ++ List.replicate n (0 : UInt8)).length = l1.length + n := by simp
  by_cases h0 : n = 0
  · subst h0
    refine ⟨a1, cap1, w, ?_, by simpa using hown, World.grownBy.refl _ _, .inl rfl⟩
    have hle : l1.length ≤ cap1 := hown.toBs.le
    have hw0 : IntKind.i64.wrap 0 = 0 := by decide
    cases a1 with
    | none => simp [Builtin.append_, run_underlying Tryz.underlying86, run_underlying Tryz.underlying3, sizeOf, typeInfo, hi, asInt, asIntOf, hw0, hle]
    | some x => simp [Builtin.append_, run_underlying Tryz.underlying86, run_underlying Tryz.underlying3, sizeOf, typeInfo, hi, asInt, asIntOf, hw0, hle, storeCells]
  · have hns : ¬ (n * i.size = 0) := by rw [hz1]; omega
    by_cases hroom : l1.length + n ≤ cap1
    · rcases hown.cases with ⟨rfl, rfl, rfl⟩ | ⟨g, cur, rfl, hb, hg, hle, hm, hs, ht⟩
      · simp at hroom; omega
      · have hzl : (Builtin.zeroCells (Value.int .u8 0).cells n).toList.length = n := by rw [zcells, bs_length]; simp
        have hst := run_storeCells_at Tryz.prog g (l1.length * i.size) 5 (Builtin.zeroCells (Value.int .u8 0).cells n).toList 0 cur w hg (by rw [hzl, hz1]; omega) (by rw [zcells]; exact bs_one _)
        simp only [Nat.add_zero] at hst
        refine ⟨some ⟨g, 0, none⟩, cap1, w.setRow g (cur.toList.take (l1.length * i.size) ++ (Builtin.zeroCells (Value.int .u8 0).cells n).toList ++ cur.toList.drop (l1.length * i.size + (Builtin.zeroCells (Value.int .u8 0).cells n).toList.length)).toArray, ?_, ?_, ?_, .inl rfl⟩
        · rw [e2]
          simp [Builtin.append_, run_underlying Tryz.underlying86, run_underlying Tryz.underlying3, sizeOf, typeInfo, zeroValue, hi, hz0, asInt, asIntOf, hw, hneg, hns, h48i, hroom, Addr.add_lit, hst]
        · refine ⟨by simp [bs], .inr ⟨g, cap1, _, rfl, hb, setRow_heap w g cur _ 5 _ hg, by rw [e2]; exact hroom, hm, ?_, ?_⟩⟩
          · simp only [List.size_toArray, List.length_append, List.length_take, List.length_drop, Array.length_toList, hzl, hz1]
            omega
          · simp only [hz1, Nat.mul_one]
            rw [ht, zcells, ← bs_append, List.toList_toArray, ← bs_length (l1 ++ List.replicate n 0)]
            exact List.take_left
        · exact ⟨rfl, rfl, rfl, by simp, fun k _ hk => setRow_other w g k _ (fun e => hk (by simp [blk, e]))⟩
    · have h63' : ¬ (9223372036854775807 < ((l1.length : Int) + (n : Int))) := by omega
      have h48' : ¬ (281474976710656 < Builtin.nextslicecap (l1.length + n) cap1 * i.bytes) := by
        have := growslice_fits (need := l1.length + n) (old := cap1) (bytes := i.bytes) (by omega) (by rw [hz2]; omega)
        omega
      have hold : (Builtin.firstCells i.size l1.length (.slice a1 l1.length cap1)).run Tryz.prog w.drew = .ok (bs l1).toArray w.drew := by
        rcases hown.cases with ⟨rfl, rfl, rfl⟩ | ⟨g, cur, rfl, hb, hg, hle, hm, hs, ht⟩
        · rfl
        · exact run_firstCells_some (P := Tryz.prog) w.drew i.size l1.length _ l1.length cap1 (bs l1) (by rw [bs_length, hz1]; simp) (fun j u hu => World.ownsRow.cells hown (g := g) rfl j u hu)
      have hgc := grownCap_ge w (l1.length + n) cap1 5
      have hcm : grownCap w (l1.length + n) cap1 5 ≤ maxLen := grownCap_le_maxLen w (l1.length + n) cap1 5 (by unfold maxLen; omega)
      refine ⟨some ⟨w.heap.size, 0, none⟩, grownCap w (l1.length + n) cap1 5, w.drew.alloc (.cells ((bs l1).toArray ++ Builtin.zeroCells (Value.int .u8 0).cells n ++ Builtin.zeroCells (Value.int .u8 0).cells (grownCap w (l1.length + n) cap1 5 - (l1.length + n))) 5), ?_, ?_, ?_, .inr fun k hk => by simp [blk] at hk; omega⟩
      · rw [e2]
        simp [Builtin.append_, run_underlying Tryz.underlying86, run_underlying Tryz.underlying3, sizeOf, typeInfo, zeroValue, hi, hz0, asInt, asIntOf, hw, hneg, hns, h48i, hroom, h63', h48', Question.forced, hold, newRow, grownCap]
      · refine ⟨by simp [bs], .inr ⟨w.heap.size, _, _, by rw [e2], hbase, heap_alloc_new w.drew _, by rw [e2]; exact hgc, hcm, ?_, ?_⟩⟩
        · simp only [Array.size_append, List.size_toArray, size_zeroCells, bs_length]
          simp [Value.cells]
          omega
        · rw [Nat.mul_one, Array.toList_append, Array.toList_append, zcells n, List.toList_toArray, ← bs_append, ← bs_length (l1 ++ List.replicate n 0)]
          exact List.take_left
      · exact ⟨rfl, rfl, rfl, by simp, fun k hk _ => Below.heap_alloc w.drew _ k hk⟩

theorem wp_app0 (w : World) {ops : Array Oper} {rest : List Oper} {o : Oper} {a : Act} {Q : Exit → Act → World → Prop} (hgd : o.guard = none) (s x : Operand)
    (ho : o.op = .call { callee := .builtin .append, args := #[s, x], argTypes := #[86, 3] })
    (base : Nat) (a1 : Option Addr) (cap1 : Nat) (l1 : List UInt8) (n1 : Nat) (hs : a.eval s = .slice a1 n1 cap1) (hn1 : n1 = l1.length) (hown : OwnB w base a1 cap1 l1)
    (z : Int) (n : Nat) (hx : a.eval x = .int .i64 z) (hz : z = (n : Int)) (hlen : l1.length + n ≤ 140737488355328) (hbase : base ≤ w.heap.size)
    (h : ∀ a' cap' r w', Hid (r = l1 ++ List.replicate n 0) → OwnB w' base a' cap' r → w.grownBy w' (blk a1) → Hid (a' = a1 ∨ ∀ k, blk a' = some k → w.heap.size ≤ k) → wpList Tryz.prog ops Q rest (a.put o.dst (.slice a' r.length cap')) w') : wpList Tryz.prog ops Q (o :: rest) a w := by
  subst hn1 hz
  obtain ⟨a', cap', w', hr, ho', hg, hl⟩ := run_app0 w o.type base a1 cap1 l1 hown n hlen hbase
  exact Lib.wpList_append_run w hgd s x _ _ ho _ _ hs hx _ _ hr (h a' cap' _ w' rfl ho' hg hl)
#print axioms wp_app0
end Go.Proofs.YtmcgghjeocnpnaaGreatDoor
end
