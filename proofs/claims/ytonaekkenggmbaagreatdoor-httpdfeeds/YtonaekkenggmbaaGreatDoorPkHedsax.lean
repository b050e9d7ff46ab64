/-
  wsock: the document's SameHeaders at two rows of the same fields.
-/
import Derived.Test.YtonaekkenggmbaaGreatDoorPkHedsad
import Derived.BigQuiet
section
set_option linter.unusedVariables false
set_option maxRecDepth 1000000
namespace Go.Proofs.YtonaekkenggmbaaGreatDoor
open Go.RowKit

set_option maxHeartbeats 4000000 in
theorem samh_eq (p q : Option Addr) (cp cq : Nat) (H : List Hd) (w : World) (hp : HdR w p H) (hq : HdR w q H) (hl : H.length ≤ 1000000) :
    Calls Tryz.prog 47 #[.slice p H.length cp, .slice q H.length cq] w fun e w' => e = .returned (.bool true) ∧ Hid (Below w.heap.size w w') := by
  have HP := hide hp
  have HQ := hide hq
  clear hp hq
  have hne : ((H.length : Int) != (H.length : Int)) = false := by simp
  go_enter Tryz.func47, Tryz.ntmps47
  go_wp2
  go_loopw [13] (fun i wr => ∃ k : Nat, k ≤ H.length ∧ i = .int .i64 (k : Int) ∧ Hid (Below w.heap.size w wr)) (fun i _ => H.length - (intOf i).toNat)
  case atStart => exact ⟨0, Nat.zero_le _, rfl, Below.refl _ _⟩
  case round =>
    obtain ⟨k, hk, rfl, HB⟩ := hrel
    by_cases hlt : k < H.length
    · obtain ⟨d, hd⟩ : ∃ d, H[k]? = some d := ⟨_, List.getElem?_eq_getElem hlt⟩
      obtain ⟨b, off, hpe, hc⟩ := ((unhide HP).below (unhide HB) (Nat.le_refl _)).mem (by intro e; subst e; simp at hd)
      obtain ⟨b2, off2, hqe, hc2⟩ := ((unhide HQ).below (unhide HB) (Nat.le_refl _)).mem (by intro e; subst e; simp at hd)
      subst hpe hqe
      obtain ⟨c0, c1⟩ := hc k d hd
      obtain ⟨d0, d1⟩ := hc2 k d hd
      have hlt' : (k : Int) < (H.length : Int) := by omega
      clear hc hc2 hd
      go_upto_region 6 with fail
      go_quiet (fail)
      go_wp2
      have HB2 := hide (below_drewN (unhide HB) nq)
      go_roundw
      case rel => exact ⟨k + 1, by omega, by go_num, HB2⟩
      case measure => simp [intOf]; omega
    · obtain rfl : k = H.length := by omega
      have hlt' : ¬ (H.length : Int) < (H.length : Int) := by omega
      clear hlt
      go_wp2
      go_ret
      exact ⟨rfl, HB⟩
#print axioms samh_eq
end Go.Proofs.YtonaekkenggmbaaGreatDoor
end
