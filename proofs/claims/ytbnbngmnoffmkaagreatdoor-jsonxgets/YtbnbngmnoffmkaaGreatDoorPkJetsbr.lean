/-
  jsonx: the document's own text: what holds nothing, lists.
-/
import Derived.Test.YtbnbngmnoffmkaaGreatDoorPkJetsbq
import Derived.Test.YtbnbngmnoffmkaaGreatDoorPkJetsbd
section
set_option linter.unusedVariables false
set_option maxRecDepth 1000000
namespace Go.Proofs.YtbnbngmnoffmkaaGreatDoor
open Go.RowKit

/-- What the document's text owes, of a value that can be. -/
def TxJ (n : Nat) (j : Js) : Prop := ∀ (S : Nat → Prop) (v : Value) (w : World), JV w S v j → (∀ k, S k → k < w.heap.size) → ck n j = 0 → Sz j → (prN n j).length ≤ 1000000000000 → Calls Tryz.prog 27 #[v] w fun e w' => e = .returned (.string (str (prN n j))) ∧ Hid (Below w.heap.size w w')
theorem prN_F (n : Nat) (j : Js) : ∃ P, prN n j = prF P j := by
  cases n with
  | zero => exact ⟨_, rfl⟩
  | succ n => exact ⟨_, rfl⟩
set_option maxHeartbeats 8000000 in
theorem text_flat (n : Nat) (k i : Int) (t : List UInt8) (ns : List (List UInt8)) (is : List Js) (hk : k < 4) : TxJ n (.mk k i t ns is) := by
  intro S v w hJ hS hck hz hlen
  obtain ⟨hw, _, _⟩ := ck_zero n k i t ns is hck
  obtain ⟨rfl, rfl, hkk⟩ := wf_flat hw hk
  obtain ⟨P, hP⟩ := prN_F n (.mk k i t [] [])
  simp only [JV] at hJ
  obtain ⟨a1, c1, a2, c2, rfl, _⟩ := hJ
  simp only [Sz] at hz
  obtain ⟨hz1, hz2, _⟩ := hz
  rw [hP]
  clear hP hw hck hlen hk hS
  have HB : ∀ o, Hid (Below w.heap.size w (w.alloc o)) := fun o => hide ((Below.refl _ _).alloc (Nat.le_refl _) o)
  rcases hkk with ⟨rfl, rfl, rfl⟩ | ⟨rfl, hi, rfl⟩ | ⟨rfl, rfl⟩ | ⟨rfl, rfl, _⟩
  · have e : prF P (.mk 0 0 [] [] []) = [110, 117, 108, 108] := rfl
    rw [e]
    go_enter Tryz.func27, Tryz.ntmps27
    go_wp2_with fail
    go_ret
    exact ⟨rfl, HB _⟩
  · have HB2 : ∀ o p, Hid (Below w.heap.size w ((w.alloc o).alloc p)) := fun o p => hide (((Below.refl _ _).alloc (Nat.le_refl _) o).alloc (by simp) p)
    rcases hi with rfl | rfl
    · have e : prF P (.mk 1 0 [] [] []) = [102, 97, 108, 115, 101] := rfl
      rw [e]
      go_enter Tryz.func27, Tryz.ntmps27
      go_wp2_with fail
      go_ret
      exact ⟨rfl, HB2 _ _⟩
    · have e : prF P (.mk 1 1 [] [] []) = [116, 114, 117, 101] := rfl
      rw [e]
      go_enter Tryz.func27, Tryz.ntmps27
      go_wp2_with fail
      go_ret
      exact ⟨rfl, HB2 _ _⟩
  · have e : prF P (.mk 2 i [] [] []) = Lib.itoa i := rfl
    rw [e]
    have HC : ∀ u, Hid (Calls Tryz.prog 56 #[.int .i64 i] u fun e w' => e = .returned (.string (str (Lib.itoa i))) ∧ Hid (Below u.heap.size u w')) := fun u => hide (rdigits_any i hz1.1 hz1.2 u)
    generalize Lib.itoa i = X at HC ⊢
    go_enter Tryz.func27, Tryz.ntmps27
    go_wp2_with fail
    refine (unhide (HC _)).mono ?_
    rintro e w1 ⟨rfl, h1⟩
    have HF := hide ((unhide (HB _)).trans ((unhide h1).mono (unhide (HB _)).size))
    go_wp2_with fail
    go_ret
    exact ⟨rfl, HF⟩
  · have e : prF P (.mk 3 0 t [] []) = quo t := rfl
    rw [e]
    have HC : ∀ u, Hid (Calls Tryz.prog 57 #[.string (str t)] u fun e w' => e = .returned (.string (str (quo t))) ∧ Hid (Below u.heap.size u w')) := fun u => hide (rquote_any t u (by omega))
    generalize quo t = X at HC ⊢
    go_enter Tryz.func27, Tryz.ntmps27
    go_wp2_with fail
    refine (unhide (HC _)).mono ?_
    rintro e w1 ⟨rfl, h1⟩
    have HF := hide ((unhide (HB _)).trans ((unhide h1).mono (unhide (HB _)).size))
    go_wp2_with fail
    go_ret
    exact ⟨rfl, HF⟩
#print axioms text_flat
end Go.Proofs.YtbnbngmnoffmkaaGreatDoor
end
