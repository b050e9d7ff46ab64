/-
  APPEND OF A WORD, as a step of a region that draws its order.
-/
import Derived.Test.YthliodpihbbjfaaDoorRfC
import Derived.Deep.RegionWith
import Derived.BigRegion
import Derived.Deep.AppendLies
import Derived.Deep.RegionLaw
set_option linter.unusedVariables false
namespace Go.Proofs.YthliodpihbbjfaaDoor
open Go.RowKit

theorem empty_w (w : World) (base : Nat) (hb : base ≤ w.heap.size) : OwnW (w.alloc (.cells #[] 110)) base (some ⟨w.heap.size, 0, none⟩) 0 [] := ownW_lit w base [] hb (by simp) #[] rfl

/-- append(s, word), s the call's own, as a step of a region that draws its order. -/
theorem stp_appw (w : World) {ops : Array Oper} {o : Oper} {a : Act} {K : Act → World → Prop} {Q : Exit → Act → World → Prop} {E : Prop} (hgd : o.guard = none) (s x : Operand)
    (ho : o.op = .call { callee := .builtin .append, args := #[s, x], argTypes := #[134, 134] })
    (base : Nat) (a1 : Option Addr) (cap1 : Nat) (l1 : List UInt32) (hs : a.eval s = .slice a1 l1.length cap1) (hown : OwnW w base a1 cap1 l1)
    (b c2 : Nat) (t : UInt32) (hx : a.eval x = .slice (some ⟨b, 0, none⟩) 1 c2) (hsrc : RowW w b [t]) (hlen : l1.length ≤ 1000000) (hbase : base ≤ w.heap.size)
    (h : ∀ g cap r w', Hid (r = l1 ++ [t]) → Hid (OwnW w' base (some ⟨g, 0, none⟩) cap r) → Hid (w.grownBy w' (blk a1)) → K (a.put o.dst (.slice (some ⟨g, 0, none⟩) r.length cap)) w') :
    if Region.wanted o (yielded ops a.tmps) = true then Oper.wp Tryd.prog o a w K Q else E := by
  obtain ⟨i, hi, hz0, hz1, hz2⟩ := info_parts Tryd.infoW
  have hblk : (Value.slice a1 l1.length cap1).ownBlock = blk a1 := by cases a1 <;> rfl
  refine step_append_lies w hgd s x 134 ho base 110 i (.int .u32 0) 1 4 Tryd.underlying134 hi hz0 hz1 hz2 rfl (by decide) _ _ _ hs hown ⟨b, 0, none⟩ 1 c2 (us [t]) hx (by simp [us_length]) ?_ (us_one' [t]) (by decide) (by unfold maxLen; omega) (by omega) hbase _ rfl ?_
  · intro j u hu
    have hj : j < 1 := by
      have := (List.getElem?_eq_some_iff.1 hu).1
      simpa [us_length] using this
    rw [us_get [t] j hj] at hu
    obtain rfl := Option.some.inj hu
    rw [addr_add, Nat.zero_add]
    exact hsrc j hj
  · intro g cap w' h1 h2 _ _
    have e1 : l1.length + 1 = (l1 ++ [t]).length := by simp
    have e2 : us l1 ++ us [t] = us (l1 ++ [t]) := by simp [us]
    rw [e1, e2] at h1
    rw [hblk] at h2
    rw [e1]
    exact h g cap (l1 ++ [t]) w' rfl h1 h2

#print axioms stp_appw
end Go.Proofs.YthliodpihbbjfaaDoor
