/-
  append of bytes onto one's own, AS A STEP OF A REGION THAT DRAWS ITS ORDER, whatever is appended (nil and nothing too): out of the law for plain regions.
-/
import Derived.Test.YthkadboeokgjnacGreatDoorOwn2
set_option linter.unusedVariables false
namespace Go.Proofs.YthkadboeokgjnacGreatDoor
open Go.RowKit

theorem stp_of_list {P : Program} {ops : Array Oper} {o : Oper} {a : Act} {w : World} {K : Act → World → Prop} {Q : Exit → Act → World → Prop} {E : Prop} (hgd : o.guard = none)
    (h : wpList P ops (fun ex a w => ex = .normal ∧ K a w) [o] a w) : if Region.wanted o (yielded ops a.tmps) = true then Oper.wp P o a w K Q else E := by
  have hw : Region.wanted o (yielded ops a.tmps) = true := by simp [Region.wanted, hgd]
  rw [if_pos hw]
  unfold wpList at h
  rw [if_pos hw] at h
  rcases h with h | ⟨_, a', w', h', _⟩
  · unfold Oper.wp at h ⊢
    generalize (execOp a.eval o).run P w = r at *
    cases r with
    | ok n w' =>
      cases n <;> simp only [Oper.upon, wpList] at h ⊢ <;>
        first
          | exact h.2
          | exact Calls.mono h (fun e w'' he => by cases e <;> first | exact he.2 | (exact absurd he.1 (by simp)) | (obtain ⟨_, _, h1, _⟩ := he; cases h1))
          | exact Rows.mono h (fun _ _ he => he.2)
          | (exact absurd h.1 (by simp))
    | halt x w' => cases x <;> simp only [Oper.upon] at h ⊢ <;> first | exact h | (exact absurd h.1 (by simp)) | (obtain ⟨_, _, h1, _⟩ := h; cases h1)
  · cases h'

theorem stp_app2 (w : World) {ops : Array Oper} {o : Oper} {a : Act} {K : Act → World → Prop} {Q : Exit → Act → World → Prop} {E : Prop} (hgd : o.guard = none) (s x : Operand)
    (ho : o.op = .call { callee := .builtin .append, args := #[s, x], argTypes := #[22, 22] })
    (base : Nat) (a1 : Option Addr) (cap1 : Nat) (l1 : List UInt8) (n1 : Nat) (hs : a.eval s = .slice a1 n1 cap1) (hn1 : n1 = l1.length) (hown : OwnB w base a1 cap1 l1)
    (a2 : Option Addr) (cap2 : Nat) (l2 : List UInt8) (n2 : Nat) (hx : a.eval x = .slice a2 n2 cap2) (hn2 : n2 = l2.length) (hsrc : Row w a2 l2) (hnone : a2 = none → cap2 = 0)
    (hlen : l1.length + l2.length ≤ 140737488355328) (hbase : base ≤ w.heap.size)
    (h : ∀ a' cap' r w', Hid (r = l1 ++ l2) → Hid (OwnB w' base a' cap' r) → Hid (w.grownBy w' (blk a1)) → Hid (a' = a1 ∨ ∀ k, blk a' = some k → w.heap.size ≤ k) → K (a.put o.dst (.slice a' r.length cap')) w') :
    if Region.wanted o (yielded ops a.tmps) = true then Oper.wp Tryz.prog o a w K Q else E := by
  subst hn1
  refine stp_of_list hgd (wp_app2 w hgd s x ho base a1 cap1 l1 hs hown a2 cap2 l2 n2 hx hn2 hsrc hnone hlen hbase ?_)
  intro a' cap' r w' h1 h2 h3 h4
  exact ⟨rfl, h a' cap' r w' h1 h2 h3 h4⟩
#print axioms stp_app2
end Go.Proofs.YthkadboeokgjnacGreatDoor
