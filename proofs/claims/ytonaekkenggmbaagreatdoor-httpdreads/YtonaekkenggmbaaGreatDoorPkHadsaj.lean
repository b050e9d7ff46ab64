/-
  httpd: isMethod, isTarget, isVersion, isKnown, isToken, isValue.
-/
import Derived.Test.YtonaekkenggmbaaGreatDoorPkHadsai
import Derived.Test.YtonaekkenggmbaaGreatDoorPkHadsaa
section
set_option linter.unusedVariables false
set_option maxRecDepth 1000000
namespace Go.Proofs.YtonaekkenggmbaaGreatDoor
open Go.RowKit

def mthB (l : List UInt8) : Bool := decide (0 < l.length) && (decide (l.length ≤ 16) && l.all capB)
def tknB (l : List UInt8) : Bool := decide (0 < l.length) && (decide (l.length ≤ 64) && l.all tokB)
set_option maxHeartbeats 1000000 in
theorem isMethod_any (l : List UInt8) (w : World) (hl : l.length ≤ 1000000) :
    Calls Tryz.prog 165 #[.string (str l)] w fun e w' => e = .returned (.bool (mthB l)) ∧ w' = w := by
  have hsz : (str l).size = l.length := str_size l
  have HA := hide (all_cap l w hl)
  have HM : Hid (mthB l = (decide (0 < l.length) && (decide (l.length ≤ 16) && l.all capB))) := rfl
  generalize mthB l = T at HM ⊢
  generalize l.all capB = A at HA HM
  by_cases h1 : 0 < l.length
  · have h1' : (0 : Int) < (l.length : Int) := by omega
    by_cases h2 : l.length ≤ 16
    · have h2' : (l.length : Int) ≤ 16 := by omega
      have HR : Hid (T = A) := by show _ = _; rw [unhide HM, decide_eq_true h1, decide_eq_true h2]; simp
      clear h1 h2 HM
      go_enter Tryz.func165, Tryz.ntmps165
      go_wp2_with (go_at_call 103; refine (unhide HA).mono ?_; rintro e w2 ⟨rfl, rfl⟩)
      go_ret
      exact ⟨by rw [unhide HR]; rfl, rfl⟩
    · have h2' : ¬ (l.length : Int) ≤ 16 := by omega
      have HR : Hid (T = false) := by show _ = _; rw [unhide HM, decide_eq_false h2]; simp
      clear h1 h2 HM
      go_enter Tryz.func165, Tryz.ntmps165
      go_wp2
      go_ret
      exact ⟨by rw [unhide HR]; rfl, rfl⟩
  · have h1' : ¬ (0 : Int) < (l.length : Int) := by omega
    have HR : Hid (T = false) := by show _ = _; rw [unhide HM, decide_eq_false h1]; rfl
    clear h1 HM
    go_enter Tryz.func165, Tryz.ntmps165
    go_wp2
    go_ret
    exact ⟨by rw [unhide HR]; rfl, rfl⟩
set_option maxHeartbeats 1000000 in
theorem isToken_any (l : List UInt8) (w : World) (hl : l.length ≤ 1000000) :
    Calls Tryz.prog 83 #[.string (str l)] w fun e w' => e = .returned (.bool (tknB l)) ∧ w' = w := by
  have hsz : (str l).size = l.length := str_size l
  have HA := hide (all_tok l w hl)
  have HM : Hid (tknB l = (decide (0 < l.length) && (decide (l.length ≤ 64) && l.all tokB))) := rfl
  generalize tknB l = T at HM ⊢
  generalize l.all tokB = A at HA HM
  by_cases h1 : 0 < l.length
  · have h1' : (0 : Int) < (l.length : Int) := by omega
    by_cases h2 : l.length ≤ 64
    · have h2' : (l.length : Int) ≤ 64 := by omega
      have HR : Hid (T = A) := by show _ = _; rw [unhide HM, decide_eq_true h1, decide_eq_true h2]; simp
      clear h1 h2 HM
      go_enter Tryz.func83, Tryz.ntmps83
      go_wp2_with (go_at_call 103; refine (unhide HA).mono ?_; rintro e w2 ⟨rfl, rfl⟩)
      go_ret
      exact ⟨by rw [unhide HR]; rfl, rfl⟩
    · have h2' : ¬ (l.length : Int) ≤ 64 := by omega
      have HR : Hid (T = false) := by show _ = _; rw [unhide HM, decide_eq_false h2]; simp
      clear h1 h2 HM
      go_enter Tryz.func83, Tryz.ntmps83
      go_wp2
      go_ret
      exact ⟨by rw [unhide HR]; rfl, rfl⟩
  · have h1' : ¬ (0 : Int) < (l.length : Int) := by omega
    have HR : Hid (T = false) := by show _ = _; rw [unhide HM, decide_eq_false h1]; rfl
    clear h1 HM
    go_enter Tryz.func83, Tryz.ntmps83
    go_wp2
    go_ret
    exact ⟨by rw [unhide HR]; rfl, rfl⟩
#print axioms isToken_any
theorem hasPre_any (s p : List UInt8) (w : World) : Calls Tryz.prog 183 #[.string (str s), .string (str p)] w fun e w' => e = .returned (.bool (Lib.hasPrefix s p)) ∧ w' = w :=
  Any.strings_HasPrefix (ρ := Tryz.lays99_ren) Tryz.lays99 (str s) (str p) w
theorem sHasPre_any (s p : List UInt8) (w : World) : Calls Tryz.prog 163 #[.string (str s), .string (str p)] w fun e w' => e = .returned (.bool (Lib.hasPrefix s p)) ∧ w' = w := by
  refine Calls.mono (Any.stringslite_HasPrefix (ρ := Tryz.lays206_ren) Tryz.lays206 (str s) (str p) w) ?_
  rintro e w' h
  exact h
def tgtB (l : List UInt8) : Bool := Lib.hasPrefix l [47] && l.all seenB
set_option maxHeartbeats 1000000 in
theorem isTarget_any (l : List UInt8) (w : World) (hl : l.length ≤ 1000000) :
    Calls Tryz.prog 166 #[.string (str l)] w fun e w' => e = .returned (.bool (tgtB l)) ∧ w' = w := by
  have HA := hide (all_seen l w hl)
  have HP := hide (hasPre_any l [47] w)
  have HM : Hid (tgtB l = (Lib.hasPrefix l [47] && l.all seenB)) := rfl
  generalize tgtB l = T at HM ⊢
  generalize l.all seenB = A at HA HM
  generalize Lib.hasPrefix l [47] = D at HP HM
  cases D with
  | true =>
    go_enter Tryz.func166, Tryz.ntmps166
    go_wp2_with (first | (go_at_call 183; refine (unhide HP).mono ?_; rintro e w2 ⟨rfl, rfl⟩) | (go_at_call 103; refine (unhide HA).mono ?_; rintro e w2 ⟨rfl, rfl⟩))
    go_ret
    exact ⟨by rw [unhide HM]; rfl, rfl⟩
  | false =>
    go_enter Tryz.func166, Tryz.ntmps166
    go_wp2_with (go_at_call 183; refine (unhide HP).mono ?_; rintro e w2 ⟨rfl, rfl⟩)
    go_ret
    exact ⟨by rw [unhide HM]; rfl, rfl⟩
#print axioms isTarget_any
end Go.Proofs.YtonaekkenggmbaaGreatDoor
end
