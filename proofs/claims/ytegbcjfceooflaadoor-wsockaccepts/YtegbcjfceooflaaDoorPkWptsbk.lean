/-
  wsock: the document's SameAnswer at two answers that are the same and have no body.
-/
import Derived.Test.YtegbcjfceooflaaDoorPkWptsbj
import Derived.Deep.QuietTactic
section
set_option linter.unusedVariables false
set_option maxRecDepth 1000000
namespace Go.Proofs.YtegbcjfceooflaaDoor
open Go.RowKit

set_option maxHeartbeats 4000000 in
theorem sama_eq (st : Int) (p q : Option Addr) (cp cq : Nat) (H : List Hd) (w : World) (hp : HdR w p H) (hq : HdR w q H) (hl : H.length ≤ 1000000) :
    Calls Tryd.prog 12 #[.agg #[.int .i64 st, .slice p H.length cp, .slice none 0 0], .agg #[.int .i64 st, .slice q H.length cq, .slice none 0 0]] w fun e w' => e = .returned (.bool true) ∧ Hid (Below w.heap.size w w') := by
  have HP := hide hp
  have HQ := hide hq
  clear hp hq
  have hst : (st == st) = true := by simp
  have k1 := run_str (w.alloc (.cells #[.int .i64 st, .slice p H.length cp, .slice none 0 0] 32)) none 0 0 [] (fun h => absurd rfl h) rfl
  have k2 := fun wx => run_str wx none 0 0 [] (fun h => absurd rfl h) rfl
  clear k1
  go_enter Tryd.func12, Tryd.ntmps12
  go_wp2_with (go_at_call 28; refine (samh_eq p q cp cq H _ ((unhide HP).below (((Below.refl _ _).alloc (Nat.le_refl _) _).alloc (by simp) _) (Nat.le_refl _)) ((unhide HQ).below (((Below.refl _ _).alloc (Nat.le_refl _) _).alloc (by simp) _) (Nat.le_refl _)) hl).mono ?_; rintro e w2 ⟨rfl, HB2⟩)
  go_ret
  refine ⟨rfl, ?_⟩
  have h2 : Below w.heap.size w ((w.alloc (.cells #[.int .i64 st, .slice p H.length cp, .slice none 0 0] 32)).alloc (.cells #[.int .i64 st, .slice q H.length cq, .slice none 0 0] 32)) := ((Below.refl _ _).alloc (Nat.le_refl _) _).alloc (by simp) _
  exact h2.trans (HB2.out.mono h2.size)
#print axioms sama_eq
end Go.Proofs.YtegbcjfceooflaaDoor
end
