/-
  jsonx: an object's names: the row of them, and the set of those that were seen.; append(names, name) in a region that draws its order.
-/
import Derived.Test.YtmpjeahibfdehaaGreatDoorPkMtesag
import Derived.Maps.OwnSet
import Derived.Maps.OwnOps
import Derived.Deep.RegionHeld3
section
set_option linter.unusedVariables false
set_option maxRecDepth 1000000
namespace Go.Proofs.YtmpjeahibfdehaaGreatDoor
open Go.RowKit Go.Maps

theorem law4 : Keyed Tryz.prog 9 := string_keyed Tryz.underlying9
theorem zeroU (w : World) : (zeroValue 164).run Tryz.prog w = .ok (.agg #[]) w := by kernel_rfl
theorem key4 (n : List UInt8) (h : n.length ≤ maxLen) : keyOf Tryz.prog 9 (.string (str n)) = some (.string n) := WideMaps.keyOf_string_mk Tryz.underlying9 (by rw [str_size]; exact h)
theorem ownsMap_same4 {w w' : World} {k : TypeId} {R : Value → Option (DataW Unit × List MemPlace)} {bm n : Nat} {D : DataW Unit} (h : w.ownsMap Tryz.prog k R bm n D) (x : w'.heap[bm]? = w.heap[bm]?) : w'.ownsMap Tryz.prog k R bm n D := by
 obtain ⟨es, clock, h1, h2⟩ := h
 exact ⟨es, clock, x.trans h1, h2⟩
/-- Block bm is a set of just these names. -/
def SN (w : World) (bm : Nat) (l : List (List UInt8)) (cnt : Nat) : Prop :=
 ∃ D : DataW Unit, w.ownsMap Tryz.prog 9 unitElem bm cnt D ∧ ∀ n, Maps.has D (.string n) = l.any (fun p => p == n)
theorem SN.same {w w' : World} {bm cnt : Nat} {l : List (List UInt8)} (h : SN w bm l cnt) (x : w'.heap[bm]? = w.heap[bm]?) : SN w' bm l cnt := by
 obtain ⟨D, h1, h2⟩ := h
 exact ⟨D, ownsMap_same4 h1 x, h2⟩
theorem SN.lt {w : World} {bm cnt : Nat} {l : List (List UInt8)} (h : SN w bm l cnt) : bm < w.heap.size := by
 obtain ⟨D, h1, _⟩ := h
 exact h1.lt
theorem SN.made (w : World) : SN (w.alloc (.map #[] 0)) w.heap.size [] 0 := ⟨.map [], World.ownsMap_made _ _ _ _, fun n => rfl⟩
theorem SN.at {w : World} {bm cnt : Nat} {l : List (List UInt8)} (h : SN w bm l cnt) (n : List UInt8) (hn : n.length ≤ maxLen) :
  (Instr.lookup 162 (.map (some bm)) (.string (str n)) true).run Tryz.prog w = .ok (.tuple #[.agg #[], .bool (l.any (fun p => p == n))]) w := by
 obtain ⟨D, h1, h2⟩ := h
 obtain ⟨v, ps, s1, s2⟩ := h1.look_ok law4 Tryz.underlying162 (zeroU w) unitElem_mk (key4 n hn)
 obtain ⟨rfl, _⟩ := unitElem_inv s2
 rw [h2 n] at s1
 exact s1
theorem SN.put {w : World} {bm cnt : Nat} {l : List (List UInt8)} (h : SN w bm l cnt) (o : List UInt8) (hn : o.length ≤ maxLen) (hc : cnt < maxLen) :
  ∃ w2, (Instr.mapUpdate 162 (.map (some bm)) (.string (str o)) (.agg #[])).run Tryz.prog w = .ok () w2 ∧ SN w2 bm (l ++ [o]) (cnt + 1) ∧ w.grownBy w2 (some bm) := by
 obtain ⟨D, h1, h2⟩ := h
 obtain ⟨w2, r1, r2, r3⟩ := h1.store law4 Tryz.underlying162 hc (key4 o hn) unitElem_mk
 refine ⟨w2, r1, ⟨_, r2, fun m => ?_⟩, r3.grown⟩
 rw [List.any_append]
 by_cases hm : m = o
 ·subst hm
  rw [Maps.has_put_same h1.isMap (by trivial)]
  simp
 ·rw [Maps.has_put_other (fun e => hm (by simpa using e)), h2 m]
  have : (o == m) = false := by rw [beq_eq_false_iff_ne]; exact fun e => hm e.symm
  simp [this]
theorem any_mem (l : List (List UInt8)) (n : List UInt8) : l.any (fun p => p == n) = decide (n ∈ l) := by
 induction l with
 | nil => simp
 | cons x l ih =>
  rw [List.any_cons, ih]
  by_cases h : x = n
  ·subst h; simp
  ·have : (x == n) = false := by rw [beq_eq_false_iff_ne]; exact h
   rw [this, Bool.false_or]
   apply decide_eq_decide.2
   constructor
   ·intro hm; exact List.mem_cons_of_mem _ hm
   ·intro hm
    rcases List.mem_cons.1 hm with e | e
    ·exact absurd e.symm h
    ·exact e
/-- One name more. -/
theorem Bv.name {u w2 w4 : World} {V lo : Nat} {k : Int} {ns : List (List UInt8)} {is : List Js} {a1 : Option Addr} {c1 : Nat} {a2 : Option Addr} {c2 : Nat} {xs : List Value} (h : Bv u V lo k ns is a1 c1 a2 c2 xs) (nm : List UInt8)
  {g cap : Nat} (hg : u.grownBy w2 (blk a1)) (hat : blk a1 = some g ∨ g = u.heap.size) (hgl : g < w2.heap.size)
  (hr : w4.heap[V]? = some (.cells #[.int .i64 k, .int .i64 0, .string ⟨#[]⟩, .slice (some ⟨g, 0, none⟩) (ns.length + 1) cap, .slice a2 is.length c2] 44 (0, 0)))
  (ho : w2.ownsRow lo 9 1 (.slice (some ⟨g, 0, none⟩) (ns.length + 1) cap) (ns.length + 1) (nsv ns ++ [.string (str nm)])) (hk : ∀ k, k ≠ V → w4.heap[k]? = w2.heap[k]?) (hs : w4.heap.size = w2.heap.size) :
  Bv w4 V lo k (ns ++ [nm]) is (some ⟨g, 0, none⟩) cap a2 c2 xs := by
 have hbg : blk (some (⟨g, 0, none⟩ : Addr)) = some g := rfl
 have hgV : g ≠ V := by
  rintro rfl
  rcases hat with e | e
  ·exact h.v1 e
  ·have := h.lt; omega
 have hg2 : ∀ m, blk a2 = some m → m ≠ g := by
  rintro m hm rfl
  rcases hat with e | e
  ·exact h.v3 m e hm
  ·have := (owns_lt h.it m hm).2; omega
 have blkU : ∀ m, m < u.heap.size → m ≠ V → blk a1 ≠ some m → w4.heap[m]? = u.heap[m]? := fun m hm n1 n3 => (hk m n1).trans (hg.block m hm (fun e => n3 e.symm))
 have ho4 := owns_same ho (w' := w4) (fun m hm => hk m (fun e => hgV (by rw [hbg] at hm; exact (Option.some.inj hm).trans e)))
 have e1 : ns.length + 1 = (ns ++ [nm]).length := by simp
 have e2 : nsv ns ++ [.string (str nm)] = nsv (ns ++ [nm]) := by simp [nsv]
 have sz : u.heap.size ≤ w4.heap.size := by rw [hs]; exact hg.size
 refine ⟨by rw [← e1]; exact hr, ?_, owns_same h.it (fun m hm => blkU m (owns_lt h.it m hm).2 (fun e => h.v2 (by rw [hm, e])) (fun e => h.v3 m e hm)), fun m j hj => ?_, by rw [hbg]; exact fun e => hgV (Option.some.inj e), h.v2, fun m hm e => hg2 m e (Option.some.inj (hbg.symm.trans hm)).symm⟩
 ·unfold OwnT
  rw [← e1, ← e2]
  exact ho4
 ·obtain ⟨v, hv1, hv2⟩ := h.el m j hj
  refine ⟨v, hv1, JV.keep (fun b hb => ?_) j v hv2⟩
  have hbn : b ≠ g := by
   rintro rfl
   rcases hat with e | e
   ·exact hb.2.2.2.1 e
   ·have := hb.2.1; omega
  exact ⟨⟨hb.1, by have := hb.2.1; omega, hb.2.2.1, by rw [hbg]; exact fun e => hbn (Option.some.inj e).symm, hb.2.2.2.2⟩, blkU b hb.2.1 hb.2.2.1 hb.2.2.2.1⟩
/-- append(names, name) in a plain region. -/
theorem wp_appT (w : World) {ops : Array Oper} {rest : List Oper} {o : Oper} {a : Act} {Q : Exit → Act → World → Prop} (hgd : o.guard = none) (s x : Operand)
  (ho : o.op = .call { callee := .builtin .append, args := #[s, x], argTypes := #[41, 41] })
  (base : Nat) (a1 : Option Addr) (cap1 : Nat) (l : List (List UInt8)) (hs : a.eval s = .slice a1 l.length cap1) (hown : OwnT w base a1 cap1 l)
  (B c2 : Nat) (nm : List UInt8) (hx : a.eval x = .slice (some ⟨B, 0, none⟩) 1 c2) (hsrc : w.heap[B]? = some (.cells #[.string (str nm)] 9 (0, 0))) (hlen : l.length ≤ 1000000) (hb : base ≤ w.heap.size)
  (h : ∀ g cap w', Hid (w'.ownsRow base 9 1 (.slice (some ⟨g, 0, none⟩) (l.length + 1) cap) (l.length + 1) (nsv l ++ [.string (str nm)])) → Hid (w.grownBy w' (blk a1)) → Hid (blk a1 = some g ∨ g = w.heap.size) → Hid (g < w'.heap.size) → wpList Tryz.prog ops Q rest (a.put o.dst (.slice (some ⟨g, 0, none⟩) (l.length + 1) cap)) w') : wpList Tryz.prog ops Q (o :: rest) a w := by
 obtain ⟨i, hi, hz0, hz1, hz2⟩ := info_parts Tryz.infoT4
 refine wpList_append_lies w hgd s x 41 ho base 9 i _ 1 16 Tryz.underlying41 hi hz0 hz1 hz2 rfl (by decide) _ _ _ hs hown ⟨B, 0, none⟩ 1 c2 [.string (str nm)] hx rfl ?_ (by simp [Value.oneCell']) (by decide) (by unfold maxLen; omega) (by omega) hb _ rfl ?_
 ·intro j u hu
  rw [addr_add, Nat.zero_add, cell_of_row w B j _ _ _ hsrc]
  simpa using hu
 ·intro g cap w' h1 h2 h3 h4
  have hblk : (Value.slice a1 l.length cap1).ownBlock = blk a1 := by cases a1 <;> rfl
  rw [hblk] at h2 h3
  exact h g cap w' h1 h2 h3 h4
end Go.Proofs.YtmpjeahibfdehaaGreatDoor
end
section
set_option linter.unusedVariables false
set_option maxRecDepth 1000000
namespace Go.Proofs.YtmpjeahibfdehaaGreatDoor
open Go.RowKit

/-- append(names, name), as a step of a region that draws its order. -/
theorem stp_appT (w : World) {ops : Array Oper} {o : Oper} {a : Act} {K : Act → World → Prop} {Q : Exit → Act → World → Prop} {E : Prop} (hgd : o.guard = none) (s x : Operand)
  (ho : o.op = .call { callee := .builtin .append, args := #[s, x], argTypes := #[41, 41] })
  (base : Nat) (a1 : Option Addr) (cap1 : Nat) (l : List (List UInt8)) (n : Nat) (hn : n = l.length) (hs : a.eval s = .slice a1 n cap1) (hown : OwnT w base a1 cap1 l)
  (B c2 : Nat) (nm : List UInt8) (hx : a.eval x = .slice (some ⟨B, 0, none⟩) 1 c2) (hsrc : w.heap[B]? = some (.cells #[.string (str nm)] 9 (0, 0))) (hlen : l.length ≤ 1000000) (hb : base ≤ w.heap.size)
  (h : ∀ g cap w', Hid (OwnT w' base (some ⟨g, 0, none⟩) cap (l ++ [nm])) → Hid (w.grownBy w' (blk a1)) → Hid (blk a1 = some g ∨ g = w.heap.size) → Hid (g < w'.heap.size) → K (a.put o.dst (.slice (some ⟨g, 0, none⟩) (n + 1) cap)) w') :
  if Region.wanted o (yielded ops a.tmps) = true then Oper.wp Tryz.prog o a w K Q else E := by
 subst hn
 obtain ⟨i, hi, hz0, hz1, hz2⟩ := info_parts Tryz.infoT4
 refine step_append_lies w hgd s x 41 ho base 9 i _ 1 16 Tryz.underlying41 hi hz0 hz1 hz2 rfl (by decide) _ _ _ hs hown ⟨B, 0, none⟩ 1 c2 [.string (str nm)] hx rfl ?_ (by simp [Value.oneCell']) (by decide) (by unfold maxLen; omega) (by omega) hb _ rfl ?_
 ·intro j u hu
  rw [addr_add, Nat.zero_add, cell_of_row w B j _ _ _ hsrc]
  simpa using hu
 ·intro g cap w' h1 h2 h3 h4
  have hblk : (Value.slice a1 l.length cap1).ownBlock = blk a1 := by cases a1 <;> rfl
  rw [hblk] at h2 h3
  refine h g cap w' ?_ h2 h3 h4
  show w'.ownsRow _ _ _ _ _ _
  rw [show nsv (l ++ [nm]) = nsv l ++ [.string (str nm)] by simp [nsv], List.length_append]
  exact h1
end Go.Proofs.YtmpjeahibfdehaaGreatDoor
end
