/-
  disk: names; a disk in memory, made or not; New; strings.Clone.
-/
import Derived.Test.YtmcgghjeocnpnaaGreatDoorPkKewsaf
import Derived.Lib.UnsafeStr
import Derived.Lib.BufferWrite
import Derived.Laws.MakeOwn
import Derived.Laws.Cover3
section
set_option linter.unusedVariables false
namespace Go.Proofs.YtmcgghjeocnpnaaGreatDoor
open Go.RowKit Go.Maps

def nameByte (c : UInt8) : Bool := (decide (97 ≤ c.toNat) && decide (c.toNat ≤ 122)) || ((decide (48 ≤ c.toNat) && decide (c.toNat ≤ 57)) || decide (c.toNat = 46))
def isName (n : Nm) : Bool := decide (1 ≤ n.length) && decide (n.length ≤ 24) && n.all nameByte

set_option maxHeartbeats 1000000 in
theorem isNameByte_any (c : UInt8) (w : World) : Calls Tryz.prog 177 #[.int .u8 (c.toNat : Int)] w fun e w' => e = .returned (.bool (nameByte c)) ∧ w' = w := by
  obtain ⟨z, hz⟩ : ∃ z : Int, z = (c.toNat : Int) := ⟨_, rfl⟩
  have h0 : 0 ≤ z := by omega
  have h1 : z < 256 := by have := c.toNat_lt; omega
  have HV : Hid (nameByte c = ((decide (97 ≤ z) && decide (z ≤ 122)) || ((decide (48 ≤ z) && decide (z ≤ 57)) || decide (z = 46)))) := by
    show _ = _
    unfold nameByte
    have e1 : decide (97 ≤ c.toNat) = decide (97 ≤ z) := by simp; omega
    have e2 : decide (c.toNat ≤ 122) = decide (z ≤ 122) := by simp; omega
    have e3 : decide (48 ≤ c.toNat) = decide (48 ≤ z) := by simp; omega
    have e4 : decide (c.toNat ≤ 57) = decide (z ≤ 57) := by simp; omega
    have e5 : decide (c.toNat = 46) = decide (z = 46) := by simp; omega
    rw [e1, e2, e3, e4, e5]
  rw [← hz]
  clear hz
  by_cases a1 : 97 ≤ z
  · by_cases a2 : z ≤ 122
    · go_enter Tryz.func177, Tryz.ntmps177
      go_wp2
      go_ret
      exact ⟨by rw [unhide HV]; simp [a1, a2], rfl⟩
    · have a3 : 57 < z := by omega
      have a4 : (z == 46) = false := by simp; omega
      go_enter Tryz.func177, Tryz.ntmps177
      go_wp2
      go_ret
      exact ⟨by rw [unhide HV, decide_eq_false (by omega : ¬ z ≤ 122), decide_eq_false (by omega : ¬ z ≤ 57), decide_eq_false (by omega : ¬ z = 46)]; simp, rfl⟩
  · by_cases a2 : 48 ≤ z
    · by_cases a3 : z ≤ 57
      · go_enter Tryz.func177, Tryz.ntmps177
        go_wp2
        go_ret
        exact ⟨by rw [unhide HV]; simp [a2, a3], rfl⟩
      · have a4 : (z == 46) = false := by simp; omega
        go_enter Tryz.func177, Tryz.ntmps177
        go_wp2
        go_ret
        exact ⟨by rw [unhide HV, decide_eq_false (by omega : ¬ 97 ≤ z), decide_eq_false (by omega : ¬ z ≤ 57), decide_eq_false (by omega : ¬ z = 46)]; simp, rfl⟩
    · go_enter Tryz.func177, Tryz.ntmps177
      go_wp2
      go_ret
      refine ⟨?_, rfl⟩
      rw [unhide HV]
      have : decide (z = 46) = (z == 46) := by by_cases h : z = 46 <;> simp [h]
      rw [this, decide_eq_false (by omega : ¬ 97 ≤ z), decide_eq_false (by omega : ¬ 48 ≤ z)]
      simp


theorem str_at (s : ByteArray) (l : List UInt8) (k : Nat) (h : k < s.size) (hl : l = s.data.toList) : l[k]? = some s[k] := by
  subst hl
  rw [Array.getElem?_toList]
  exact Array.getElem?_eq_getElem h
theorem all_snoc {l : List UInt8} {k : Nat} {c : UInt8} (h : (l.take k).all nameByte = true) (h1 : l[k]? = some c) (h2 : nameByte c = true) : (l.take (k + 1)).all nameByte = true := by
  rw [List.take_add_one, h1, List.all_append, h]
  simp [h2]
set_option maxHeartbeats 1000000 in
theorem isName_s (s : ByteArray) (l : List UInt8) (w : World) (Hs : Hid (l = s.data.toList)) (hl : l.length ≤ maxLen) : Calls Tryz.prog 156 #[.string s] w fun e w' => e = .returned (.bool (isName l)) ∧ w' = w := by
  have hsz : s.size = l.length := by rw [unhide Hs, Array.length_toList]; rfl
  unfold maxLen at hl
  have HZ := hide hsz
  by_cases h1 : l.length < 1
  · have HF : Hid (isName l = false) := by show _ = _; unfold isName; rw [decide_eq_false (by omega)]; rfl
    have hs : s = ⟨#[]⟩ := by
      apply ByteArray.ext
      exact Array.eq_empty_of_size_eq_zero (show s.size = 0 by omega)
    clear hsz h1 hl HZ Hs
    subst hs
    go_enter Tryz.func156, Tryz.ntmps156
    go_wp2
    go_ret
    exact ⟨by rw [unhide HF]; rfl, rfl⟩
  · by_cases h3 : 24 < l.length
    · have HF : Hid (isName l = false) := by show _ = _; unfold isName; rw [decide_eq_false (by omega : ¬ l.length ≤ 24)]; simp
      have h2 : 1 ≤ (l.length : Int) := by omega
      have h4 : (24 : Int) < (l.length : Int) := by omega
      go_enter Tryz.func156, Tryz.ntmps156
      go_wp2
      go_ret
      exact ⟨by rw [unhide HF]; rfl, rfl⟩
    · have h2 : 1 ≤ (l.length : Int) := by omega
      have h4 : (l.length : Int) ≤ 24 := by omega
      go_enter Tryz.func156, Tryz.ntmps156
      go_wp2
      go_loopw [14] (fun i wr => ∃ k : Nat, k ≤ l.length ∧ i = .int .i64 (k : Int) ∧ Hid ((l.take k).all nameByte = true) ∧ wr = w) (fun i _ => l.length - (intOf i).toNat)
      case atStart => exact ⟨0, Nat.zero_le _, rfl, rfl, rfl⟩
      case round =>
        obtain ⟨k, hk, rfl, HT, rfl⟩ := hrel
        by_cases hlt : k < l.length
        · have hks : k < s.size := by omega
          have hks2 : (k : Int) < (s.size : Int) := by omega
          have hks3 : (k : Int) < (l.length : Int) := by omega
          have HA : Hid (l[k]? = some s[k]) := by show _ = _; exact str_at s l k hks (unhide Hs)
          cases hb : nameByte s[k] with
          | true =>
            have HB := hide hb
            clear hb
            go_wp2_with fail
            refine (isNameByte_any s[k] _).mono ?_
            rintro e w' ⟨rfl, rfl⟩
            rw [unhide HB]
            go_wp2
            go_roundw
            case rel => exact ⟨k + 1, by omega, by go_num, all_snoc (unhide HT) (unhide HA) (unhide HB), trivial⟩
            case measure => simp [intOf]; omega
          | false =>
            have HB := hide hb
            clear hb
            have HF : Hid (isName l = false) := by
              show _ = _
              unfold isName
              rw [Bool.and_eq_false_iff]
              right
              rw [List.all_eq_false]
              exact ⟨s[k], List.mem_of_getElem? (unhide HA), by rw [unhide HB]; simp⟩
            go_wp2_with fail
            refine (isNameByte_any s[k] _).mono ?_
            rintro e w' ⟨rfl, rfl⟩
            rw [unhide HB]
            go_wp2
            go_ret
            exact ⟨by rw [unhide HF]; rfl, rfl⟩
        · obtain rfl : k = l.length := by omega
          have HF : Hid (isName l = true) := by
            show _ = _
            unfold isName
            have := unhide HT
            rw [List.take_length] at this
            rw [this, decide_eq_true (by omega : 1 ≤ l.length), decide_eq_true (by omega : l.length ≤ 24)]
            rfl
          go_wp2
          go_ret
          exact ⟨by rw [unhide HF]; rfl, rfl⟩
theorem isName_any (n : Nm) (w : World) (hl : n.length ≤ maxLen) : Calls Tryz.prog 156 #[.string (str n)] w fun e w' => e = .returned (.bool (isName n)) ∧ w' = w := isName_s (str n) n w rfl hl
theorem isName_le {n : Nm} (h : isName n = true) : n.length ≤ 24 := by
  unfold isName at h
  simp at h
  exact h.1.2

/-! ### a disk that no call made; one that is made -/
def NoDisk (w : World) (p : Option Addr) : Prop := p = none ∨ ∃ Z, p = some ⟨Z, 0, none⟩ ∧ w.cell? ⟨Z, 2, none⟩ = some (.map none)
set_option maxRecDepth 20000 in
theorem unmade_yes (p : Option Addr) (w : World) (h : NoDisk w p) : Calls Tryz.prog 41 #[.pointer p] w fun e w' => e = .returned (.bool true) ∧ w' = w := by
  rcases h with rfl | ⟨Z, rfl, hz⟩
  · go_enter Tryz.func41, Tryz.ntmps41
    go_wp2
    go_ret
    exact ⟨rfl, rfl⟩
  · have hq : (binOp .eql 75 (.map none) (.map none)).run Tryz.prog w = .ok (.bool true) w := by
      have := run_equal_map_nil (P := Tryz.prog) w 75 _ _ none Tryz.underlying75
      simp [binOp, this]
    go_enter Tryz.func41, Tryz.ntmps41
    go_wp2
    go_ret
    exact ⟨rfl, rfl⟩
set_option maxRecDepth 20000 in
theorem unmade_not (Z bm : Nat) (w : World) (h : w.cell? ⟨Z, 2, none⟩ = some (.map (some bm))) : Calls Tryz.prog 41 #[.pointer (some ⟨Z, 0, none⟩)] w fun e w' => e = .returned (.bool false) ∧ w' = w := by
  have hq : (binOp .eql 75 (.map (some bm)) (.map none)).run Tryz.prog w = .ok (.bool false) w := by
    have := run_equal_map_nil (P := Tryz.prog) w 75 _ _ (some bm) Tryz.underlying75
    simp [binOp, this]
  go_enter Tryz.func41, Tryz.ntmps41
  go_wp2
  go_ret
  exact ⟨rfl, rfl⟩
theorem named_no (p : Option Addr) (s : ByteArray) (w : World) (h : NoDisk w p) : Calls Tryz.prog 128 #[.pointer p, .string s] w fun e w' => e = .returned (.int .i64 8) ∧ w' = w := by
  go_enter Tryz.func128, Tryz.ntmps128
  go_wp2_with fail
  refine (unmade_yes p w h).mono ?_
  rintro e w' ⟨rfl, rfl⟩
  go_wp2
  go_ret
  exact ⟨rfl, rfl⟩
theorem named_any (Z bm : Nat) (n : Nm) (r : Int) (w : World) (h : w.cell? ⟨Z, 2, none⟩ = some (.map (some bm))) (hl : n.length ≤ maxLen) (Hr : Hid (r = if isName n then 0 else 6)) : Calls Tryz.prog 128 #[.pointer (some ⟨Z, 0, none⟩), .string (str n)] w fun e w' => e = .returned (.int .i64 r) ∧ w' = w := by
  go_enter Tryz.func128, Tryz.ntmps128
  go_wp2_with fail
  refine (unmade_not Z bm w h).mono ?_
  rintro e w' ⟨rfl, rfl⟩
  go_wp2_with fail
  refine (isName_any n _ hl).mono ?_
  rintro e w' ⟨rfl, rfl⟩
  cases hb : isName n with
  | true =>
    obtain rfl : r = 0 := by rw [unhide Hr, hb]; rfl
    clear hb Hr
    go_wp2
    go_ret
    exact ⟨rfl, rfl⟩
  | false =>
    obtain rfl : r = 6 := by rw [unhide Hr, hb]; rfl
    clear hb Hr
    go_wp2
    go_ret
    exact ⟨rfl, rfl⟩
#print axioms isName_any
#print axioms named_any
end Go.Proofs.YtmcgghjeocnpnaaGreatDoor
end
