/-
  THE WALKS of wire.letterNumber, wire.Spell and wire.Unspell.
-/
import Derived.Test.YtoapkajlgnlecaaDoorBit
import Derived.Test.YtoapkajlgnlecaaDoorSpl
import Derived.Test.YtoapkajlgnlecaaDoorByt
set_option linter.unusedVariables false
namespace Go.Proofs.YtoapkajlgnlecaaDoor
open Go.RowKit

set_option maxHeartbeats 1000000 in
theorem letnum_any (c : UInt8) (w : World) :
    Calls Tryd.prog 49 #[.int .u8 (c.toNat : Int)] w fun e w' => w' = w ∧ ((numOf c = none ∧ e = .returned (.tuple #[.int .u64 0, .bool false])) ∨ ∃ n : Nat, numOf c = some n ∧ e = .returned (.tuple #[.int .u64 (n : Int), .bool true])) := by
  have hc := c.toNat_lt
  generalize hX : c.toNat = X at *
  have hnum : numOf c = if 65 ≤ X ∧ X ≤ 90 then some (X - 65) else if 97 ≤ X ∧ X ≤ 122 then some (X - 97 + 26) else if 48 ≤ X ∧ X ≤ 57 then some (X - 48 + 52) else if X = 45 then some 62 else if X = 95 then some 63 else none := by
    unfold numOf
    rw [hX]
  clear hX
  have HN := hide hnum
  clear hnum
  by_cases h1 : 65 ≤ X ∧ X ≤ 90
  · obtain ⟨h1, h2⟩ := h1
    obtain ⟨n, hn⟩ : ∃ n : Nat, n = X - 65 := ⟨_, rfl⟩
    have hni : (X : Int) - 65 = (n : Int) := by omega
    have hnl : n ≤ 25 := by omega
    have HE : Hid (numOf c = some n) := by show _ = _; rw [unhide HN, if_pos ⟨h1, h2⟩, hn]
    clear hn HN
    go_enter Tryd.func49, Tryd.ntmps49
    go_wp2
    go_ret2
    exact ⟨rfl, .inr ⟨n, unhide HE, rfl⟩⟩
  by_cases h2 : 97 ≤ X ∧ X ≤ 122
  · obtain ⟨h2, h3⟩ := h2
    have h4 : ¬ X ≤ 90 := by omega
    have h5 : 65 ≤ X := by omega
    obtain ⟨n, hn⟩ : ∃ n : Nat, n = X - 97 := ⟨_, rfl⟩
    have hni : (X : Int) - 97 = (n : Int) := by omega
    have hnl : n ≤ 25 := by omega
    have HE : Hid (numOf c = some (n + 26)) := by show _ = _; rw [unhide HN, if_neg h1, if_pos ⟨h2, h3⟩, hn]
    clear hn HN h1
    go_enter Tryd.func49, Tryd.ntmps49
    go_wp2
    go_ret2
    exact ⟨rfl, .inr ⟨n + 26, unhide HE, by simp⟩⟩
  by_cases h3 : 48 ≤ X ∧ X ≤ 57
  · obtain ⟨h3, h4⟩ := h3
    have h5 : ¬ 65 ≤ X := by omega
    have h6 : ¬ 97 ≤ X := by omega
    obtain ⟨n, hn⟩ : ∃ n : Nat, n = X - 48 := ⟨_, rfl⟩
    have hni : (X : Int) - 48 = (n : Int) := by omega
    have hnl : n ≤ 9 := by omega
    have HE : Hid (numOf c = some (n + 52)) := by show _ = _; rw [unhide HN, if_neg h1, if_neg h2, if_pos ⟨h3, h4⟩, hn]
    clear hn HN h1 h2
    go_enter Tryd.func49, Tryd.ntmps49
    go_wp2
    go_ret2
    exact ⟨rfl, .inr ⟨n + 52, unhide HE, by simp⟩⟩
  by_cases h4 : X = 45
  · subst h4
    have HE : Hid (numOf c = some 62) := by show _ = _; rw [unhide HN, if_neg h1, if_neg h2, if_neg h3, if_pos rfl]
    clear HN h1 h2 h3
    go_enter Tryd.func49, Tryd.ntmps49
    go_wp2
    go_ret2
    exact ⟨rfl, .inr ⟨62, unhide HE, rfl⟩⟩
  by_cases h5 : X = 95
  · subst h5
    have HE : Hid (numOf c = some 63) := by show _ = _; rw [unhide HN, if_neg h1, if_neg h2, if_neg h3, if_neg h4, if_pos rfl]
    clear HN h1 h2 h3 h4
    go_enter Tryd.func49, Tryd.ntmps49
    go_wp2
    go_ret2
    exact ⟨rfl, .inr ⟨63, unhide HE, rfl⟩⟩
  have HE : Hid (numOf c = none) := by show _ = _; rw [unhide HN, if_neg h1, if_neg h2, if_neg h3, if_neg h4, if_neg h5]
  clear HN
  have e1 : (decide (65 ≤ X) && decide (X ≤ 90)) = false := by simp; omega
  by_cases k1 : 65 ≤ X
  · have k2 : ¬ X ≤ 90 := by omega
    have k6 : ¬ X ≤ 57 := by omega
    have k5 : 48 ≤ X := by omega
    by_cases k3 : 97 ≤ X
    · have k4 : ¬ X ≤ 122 := by omega
      clear h1 h2 h3 h4 h5 e1
      have n1 : ((X : Int) == 45) = false := by simp; omega
      have n2 : ((X : Int) == 95) = false := by simp; omega
      go_enter Tryd.func49, Tryd.ntmps49
      go_wp2
      go_ret2
      exact ⟨rfl, .inl ⟨unhide HE, rfl⟩⟩
    · clear h1 h2 h3 h4 e1
      have n1 : ((X : Int) == 45) = false := by simp; omega
      have n2 : ((X : Int) == 95) = false := by simp; omega
      clear h5
      go_enter Tryd.func49, Tryd.ntmps49
      go_wp2
      go_ret2
      exact ⟨rfl, .inl ⟨unhide HE, rfl⟩⟩
  · have k3 : ¬ 97 ≤ X := by omega
    have n2 : ((X : Int) == 95) = false := by simp; omega
    have n1 : ((X : Int) == 45) = false := by simp; omega
    by_cases k5 : 48 ≤ X
    · have k6 : ¬ X ≤ 57 := by omega
      clear h1 h2 h3 h4 h5 e1
      go_enter Tryd.func49, Tryd.ntmps49
      go_wp2
      go_ret2
      exact ⟨rfl, .inl ⟨unhide HE, rfl⟩⟩
    · clear h1 h2 h3 h4 h5 e1
      go_enter Tryd.func49, Tryd.ntmps49
      go_wp2
      go_ret2
      exact ⟨rfl, .inl ⟨unhide HE, rfl⟩⟩

#print axioms letnum_any
end Go.Proofs.YtoapkajlgnlecaaDoor
