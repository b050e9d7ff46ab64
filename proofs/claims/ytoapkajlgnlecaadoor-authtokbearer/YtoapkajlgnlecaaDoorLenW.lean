/-
  THE WALK of bits.Len64: how many bits a number has, as far as it is wanted.
-/
import Derived.Test.YtoapkajlgnlecaaDoorOwn
import Derived.Test.YtoapkajlgnlecaaDoorNum
import Derived.WalkSpells
import Derived.WalkLawsBesides
import Derived.Lib.BitFns
import Derived.Lib.Walk
set_option linter.unusedVariables false
namespace Go.Proofs.YtoapkajlgnlecaaDoor
open Go.RowKit

theorem tab_size : Lib.len8tab.size = 256 := by decide +kernel
theorem tab_all : ∀ n : Fin 256, n.val = 0 ∨ 1 ≤ (Lib.len8tab.data.toList.getD n.val 0).toNat ∧ (Lib.len8tab.data.toList.getD n.val 0).toNat ≤ 8 := by decide +kernel
theorem tab_get (i : Nat) (h : i < Lib.len8tab.size) (h0 : 1 ≤ i) : 1 ≤ Lib.len8tab[i].toNat ∧ Lib.len8tab[i].toNat ≤ 8 := by
  have := tab_all ⟨i, by rw [← tab_size]; exact h⟩
  have e : Lib.len8tab.data.toList.getD i 0 = Lib.len8tab[i] := by
    have h' : i < Lib.len8tab.data.toList.length := by rw [Array.length_toList]; exact h
    rw [List.getD_eq_getElem?_getD, List.getElem?_eq_getElem h']
    rfl
  simp only [e] at this
  omega

theorem len_fin (x : Int) (k : Nat) (y : Int) (hy0 : 1 ≤ y) (hk : k ≤ 7) (h : y.toNat < Lib.len8tab.size) (hx : nb x.toNat = k + 1) (q : Int) (hq : q = wrap64 (8 * (k : Int) + wrap64 (Lib.len8tab[y.toNat].toNat : Int))) :
    1 ≤ q ∧ q ≤ 64 ∧ (q + 7) / 8 = (nb x.toNat : Nat) := by
  have := tab_get y.toNat h (by omega)
  have e1 : wrap64 (Lib.len8tab[y.toNat].toNat : Int) = (Lib.len8tab[y.toNat].toNat : Int) := by unfold wrap64; omega
  rw [e1] at hq
  have e2 : wrap64 (8 * (k : Int) + (Lib.len8tab[y.toNat].toNat : Int)) = 8 * (k : Int) + (Lib.len8tab[y.toNat].toNat : Int) := by unfold wrap64; omega
  rw [e2] at hq
  omega

set_option maxRecDepth 100000 in
set_option maxHeartbeats 4000000 in
theorem len64_any (x : Int) (w : World) (h0 : 1 ≤ x) (h1 : x ≤ 18446744073709551615) :
    Calls Tryd.prog 60 #[.int .u64 x] w fun e w' => ∃ r : Int, e = .returned (.int .i64 r) ∧ (1 ≤ r ∧ r ≤ 64 ∧ (r + 7) / 8 = (nb x.toNat : Nat)) ∧ w' = w := by
  have hsz := tab_size
  go_enter Tryd.func60, Tryd.ntmps60
  go_wp2
  all_goals go_ret
  all_goals refine ⟨_, rfl, ?_, rfl⟩
  · exact len_fin x 7 _ (by omega) (by decide) _ (by unfold nb; (repeat' split) <;> omega) _ rfl
  · exact len_fin x 6 _ (by omega) (by decide) _ (by unfold nb; (repeat' split) <;> omega) _ rfl
  · exact len_fin x 5 _ (by omega) (by decide) _ (by unfold nb; (repeat' split) <;> omega) _ rfl
  · exact len_fin x 4 _ (by omega) (by decide) _ (by unfold nb; (repeat' split) <;> omega) _ rfl
  · exact len_fin x 3 _ (by omega) (by decide) _ (by unfold nb; (repeat' split) <;> omega) _ rfl
  · exact len_fin x 2 _ (by omega) (by decide) _ (by unfold nb; (repeat' split) <;> omega) _ rfl
  · exact len_fin x 1 _ (by omega) (by decide) _ (by unfold nb; (repeat' split) <;> omega) _ rfl
  · exact len_fin x 0 _ (by omega) (by decide) (by omega) (by unfold nb; (repeat' split) <;> omega) _ (by simp)

#print axioms len64_any
end Go.Proofs.YtoapkajlgnlecaaDoor
