/-
  httpd: isVersion, isKnown, isValue; strings.Split, Cut, Trim at this seat.
-/
import Derived.Test.YtonaekkenggmbaaGreatDoorPkHadsaj
import Derived.Test.YtonaekkenggmbaaGreatDoorPkHadsaa
import Derived.Lib.SplitLaws
import Derived.Lib.CutLaws
section
set_option linter.unusedVariables false
set_option maxRecDepth 1000000
namespace Go.Proofs.YtonaekkenggmbaaGreatDoor
open Go.RowKit

theorem cut_from (s : List UInt8) (k : Nat) : (str s).extract k s.length = str (s.drop k) := by
  have := ByteArray.extract_mk s k s.length
  rw [List.take_of_length_le (by simp)] at this
  exact this
def cpx (s p : List UInt8) : List UInt8 := if Lib.hasPrefix s p then s.drop p.length else s
set_option maxHeartbeats 1000000 in
theorem scutPre_any (s p : List UInt8) (w : World) (hs : s.length ≤ 1000000) (hp : p.length ≤ 1000) :
    Calls Tryz.prog 138 #[.string (str s), .string (str p)] w fun e w' => e = .returned (.tuple #[.string (str (cpx s p)), .bool (Lib.hasPrefix s p)]) ∧ w' = w := by
  have hsz : (str s).size = s.length := str_size s
  have hpz : (str p).size = p.length := str_size p
  have HP := hide (sHasPre_any s p w)
  cases h : Lib.hasPrefix s p with
  | true =>
    have hle : p.length ≤ s.length := (List.isPrefixOf_iff_prefix.1 h).length_le
    have hle' : (p.length : Int) ≤ (s.length : Int) := by omega
    have hex := cut_from s p.length
    have HC : Hid (cpx s p = s.drop p.length) := by show _ = _; unfold cpx; rw [h]; rfl
    rw [h] at HP
    clear h hle
    go_enter Tryz.func138, Tryz.ntmps138
    go_wp2_with (go_at_call 163; refine (unhide HP).mono ?_; rintro e w2 ⟨rfl, rfl⟩)
    go_ret2
    exact ⟨by rw [unhide HC]; rfl, rfl⟩
  | false =>
    have HC : Hid (cpx s p = s) := by show _ = _; unfold cpx; rw [h]; rfl
    rw [h] at HP
    clear h
    go_enter Tryz.func138, Tryz.ntmps138
    go_wp2_with (go_at_call 163; refine (unhide HP).mono ?_; rintro e w2 ⟨rfl, rfl⟩)
    go_ret2
    exact ⟨by rw [unhide HC]; rfl, rfl⟩
set_option maxHeartbeats 1000000 in
theorem cutPre_any (s p : List UInt8) (w : World) (hs : s.length ≤ 1000000) (hp : p.length ≤ 1000) :
    Calls Tryz.prog 112 #[.string (str s), .string (str p)] w fun e w' => e = .returned (.tuple #[.string (str (cpx s p)), .bool (Lib.hasPrefix s p)]) ∧ w' = w := by
  have HP := hide (scutPre_any s p w hs hp)
  generalize cpx s p = T at HP ⊢
  generalize Lib.hasPrefix s p = A at HP ⊢
  go_enter Tryz.func112, Tryz.ntmps112
  go_wp2_with (go_at_call 138; refine (unhide HP).mono ?_; rintro e w2 ⟨rfl, rfl⟩)
  go_ret2
  exact ⟨rfl, rfl⟩
#print axioms cutPre_any
def hHTTP : List UInt8 := [72, 84, 84, 80, 47]
def ver3 (n : List UInt8) : Bool := decide (n.length = 3) && (digB (n.getD 0 0) && (decide (n.getD 1 0 = 46) && digB (n.getD 2 0)))
def verB (l : List UInt8) : Bool := Lib.hasPrefix l hHTTP && ver3 (cpx l hHTTP)
theorem cpx_len (s p : List UInt8) : (cpx s p).length ≤ s.length := by unfold cpx; split <;> simp
set_option maxHeartbeats 2000000 in
theorem isVersion_any (l : List UInt8) (w : World) (hl : l.length ≤ 1000000) :
    Calls Tryz.prog 167 #[.string (str l)] w fun e w' => e = .returned (.bool (verB l)) ∧ w' = w := by
  have HP := hide (cutPre_any l hHTTP w hl (by decide))
  have hcl := cpx_len l hHTTP
  have HM : Hid (verB l = (Lib.hasPrefix l hHTTP && ver3 (cpx l hHTTP))) := rfl
  generalize verB l = T at HM ⊢
  generalize Lib.hasPrefix l hHTTP = D at HP HM
  generalize cpx l hHTTP = n at HP HM hcl
  have hsz : (str n).size = n.length := str_size n
  cases D with
  | false =>
    have HR : Hid (T = false) := by show _ = _; rw [unhide HM]; rfl
    go_enter Tryz.func167, Tryz.ntmps167
    go_wp2_with (go_at_call 112; refine (unhide HP).mono ?_; rintro e w2 ⟨rfl, rfl⟩)
    go_ret
    exact ⟨by rw [unhide HR]; rfl, rfl⟩
  | true =>
    by_cases h3 : n.length = 3
    · have h3' : ((n.length : Int) == 3) = true := by rw [h3]; rfl
      have i0 : ∀ w, (Instr.index 9 (.string (str n)) (.int .i64 0)).run Tryz.prog w = .ok (.int .u8 ((n.getD 0 0).toNat : Int)) w := fun w => run_ixs w n 0 (by omega)
      have i1 : ∀ w, (Instr.index 9 (.string (str n)) (.int .i64 1)).run Tryz.prog w = .ok (.int .u8 ((n.getD 1 0).toNat : Int)) w := fun w => run_ixs w n 1 (by omega)
      have i2 : ∀ w, (Instr.index 9 (.string (str n)) (.int .i64 2)).run Tryz.prog w = .ok (.int .u8 ((n.getD 2 0).toNat : Int)) w := fun w => run_ixs w n 2 (by omega)
      have HV : Hid (T = (digB (n.getD 0 0) && (decide (n.getD 1 0 = 46) && digB (n.getD 2 0)))) := by show _ = _; rw [unhide HM]; unfold ver3; rw [decide_eq_true h3]; simp
      have hpos : (0 : Int) < (n.length : Int) := by omega
      have hp1 : (1 : Int) < (n.length : Int) := by omega
      have hp2 : (2 : Int) < (n.length : Int) := by omega
      generalize n.getD 0 0 = c0 at i0 HV
      generalize n.getD 1 0 = c1 at i1 HV
      generalize n.getD 2 0 = c2 at i2 HV
      have D0 := hide (isDigit_any c0 w)
      have D2 := hide (isDigit_any c2 w)
      generalize digB c0 = d0 at D0 HV
      generalize digB c2 = d2 at D2 HV
      have hq : ((c1.toNat : Int) == 46) = decide (c1 = 46) := by
        by_cases e : c1 = 46
        · subst e; rfl
        · rw [decide_eq_false e, beq_eq_false_iff_ne]
          intro h; exact e (UInt8.toNat_inj.1 (by have : c1.toNat = 46 := by omega
                                                  rw [this]; rfl))
      generalize decide (c1 = 46) = q at hq HV
      clear h3 HM
      cases d0 with
      | false =>
        go_enter Tryz.func167, Tryz.ntmps167
        go_wp2_with (first | (go_at_call 112; refine (unhide HP).mono ?_; rintro e w2 ⟨rfl, rfl⟩) | (go_at_call 126; refine (unhide D0).mono ?_; rintro e w2 ⟨rfl, rfl⟩))
        go_ret
        exact ⟨by rw [unhide HV]; rfl, rfl⟩
      | true =>
        cases q with
        | false =>
          go_enter Tryz.func167, Tryz.ntmps167
          go_wp2_with (first | (go_at_call 112; refine (unhide HP).mono ?_; rintro e w2 ⟨rfl, rfl⟩) | (go_at_call 126; refine (unhide D0).mono ?_; rintro e w2 ⟨rfl, rfl⟩))
          go_ret
          exact ⟨by rw [unhide HV]; rfl, rfl⟩
        | true =>
          go_enter Tryz.func167, Tryz.ntmps167
          go_wp2_with (go_at_call 112; refine (unhide HP).mono ?_; rintro e w2 ⟨rfl, rfl⟩)
          refine (unhide D0).mono ?_
          rintro e w2 ⟨rfl, rfl⟩
          go_wp2_with fail
          refine (unhide D2).mono ?_
          rintro e w3 ⟨rfl, rfl⟩
          go_wp2
          go_ret
          exact ⟨by rw [unhide HV]; rfl, rfl⟩
    · have h3' : ((n.length : Int) == 3) = false := by rw [beq_eq_false_iff_ne]; omega
      have HR : Hid (T = false) := by show _ = _; rw [unhide HM]; unfold ver3; rw [decide_eq_false h3]; rfl
      clear h3 HM
      go_enter Tryz.func167, Tryz.ntmps167
      go_wp2_with (go_at_call 112; refine (unhide HP).mono ?_; rintro e w2 ⟨rfl, rfl⟩)
      go_ret
      exact ⟨by rw [unhide HR]; rfl, rfl⟩
#print axioms isVersion_any
def knwB (l : List UInt8) : Bool := (l == [71, 69, 84]) || ((l == [80, 85, 84]) || ((l == [80, 79, 83, 84]) || (l == [68, 69, 76, 69, 84, 69])))
theorem isKnown_any (l : List UInt8) (w : World) : Calls Tryz.prog 168 #[.string (str l)] w fun e w' => e = .returned (.bool (knwB l)) ∧ w' = w := by
  have HM : Hid (knwB l = ((l == [71, 69, 84]) || ((l == [80, 85, 84]) || ((l == [80, 79, 83, 84]) || (l == [68, 69, 76, 69, 84, 69]))))) := rfl
  generalize knwB l = T at HM ⊢
  have q1 : ((str l).toList == [71, 69, 84]) = (l == [71, 69, 84]) := by rw [toList_str]
  have q2 : ((str l).toList == [80, 85, 84]) = (l == [80, 85, 84]) := by rw [toList_str]
  have q3 : ((str l).toList == [80, 79, 83, 84]) = (l == [80, 79, 83, 84]) := by rw [toList_str]
  have q4 : ((str l).toList == [68, 69, 76, 69, 84, 69]) = (l == [68, 69, 76, 69, 84, 69]) := by rw [toList_str]
  generalize (l == [71, 69, 84]) = a at q1 HM
  generalize (l == [80, 85, 84]) = b at q2 HM
  generalize (l == [80, 79, 83, 84]) = c at q3 HM
  generalize (l == [68, 69, 76, 69, 84, 69]) = d at q4 HM
  cases a with
  | true =>
    go_enter Tryz.func168, Tryz.ntmps168
    go_wp2
    go_ret
    exact ⟨by rw [unhide HM]; rfl, rfl⟩
  | false =>
  cases b with
  | true =>
    go_enter Tryz.func168, Tryz.ntmps168
    go_wp2
    go_ret
    exact ⟨by rw [unhide HM]; rfl, rfl⟩
  | false =>
  cases c with
  | true =>
    go_enter Tryz.func168, Tryz.ntmps168
    go_wp2
    go_ret
    exact ⟨by rw [unhide HM]; rfl, rfl⟩
  | false =>
    go_enter Tryz.func168, Tryz.ntmps168
    go_wp2
    go_ret
    exact ⟨by rw [unhide HM]; rfl, rfl⟩
#print axioms isKnown_any
def vluB (l : List UInt8) : Bool := l.all valB && (decide (l.length = 0) || (!blB (l.getD 0 0) && !blB (l.getD (l.length - 1) 0)))
set_option maxHeartbeats 2000000 in
theorem isValue_any (l : List UInt8) (w : World) (hl : l.length ≤ 1000000) : Calls Tryz.prog 84 #[.string (str l)] w fun e w' => e = .returned (.bool (vluB l)) ∧ w' = w := by
  have hsz : (str l).size = l.length := str_size l
  have HA := hide (all_val l w hl)
  have HM : Hid (vluB l = (l.all valB && (decide (l.length = 0) || (!blB (l.getD 0 0) && !blB (l.getD (l.length - 1) 0))))) := rfl
  generalize vluB l = T at HM ⊢
  generalize l.all valB = A at HA HM
  cases A with
  | false =>
    go_enter Tryz.func84, Tryz.ntmps84
    go_wp2_with (go_at_call 103; refine (unhide HA).mono ?_; rintro e w2 ⟨rfl, rfl⟩)
    go_ret
    exact ⟨by rw [unhide HM]; rfl, rfl⟩
  | true =>
    by_cases h0 : l = []
    · subst h0
      have q : ((str []).toList == ([] : List UInt8)) = true := by rw [toList_str]; rfl
      have q' : (str []).toList.isEmpty = true := by rw [toList_str]; rfl
      go_enter Tryz.func84, Tryz.ntmps84
      go_wp2_with (go_at_call 103; refine (unhide HA).mono ?_; rintro e w2 ⟨rfl, rfl⟩)
      go_ret
      exact ⟨by rw [unhide HM]; rfl, rfl⟩
    · have hpos := List.length_pos_iff.2 h0
      have q : ((str l).toList == ([] : List UInt8)) = false := by rw [toList_str, beq_eq_false_iff_ne]; exact h0
      have q' : (str l).toList.isEmpty = false := by rw [toList_str]; cases l; exact absurd rfl h0; rfl
      have hp' : (0 : Int) < (l.length : Int) := by omega
      have i0 : ∀ w, (Instr.index 9 (.string (str l)) (.int .i64 0)).run Tryz.prog w = .ok (.int .u8 ((l.getD 0 0).toNat : Int)) w := fun w => run_ixs w l 0 (by omega)
      have i1 : ∀ w, (Instr.index 9 (.string (str l)) (.int .i64 ((l.length : Int) - 1))).run Tryz.prog w = .ok (.int .u8 ((l.getD (l.length - 1) 0).toNat : Int)) w := fun w => by
        have := run_ixs w l (l.length - 1) (by omega)
        rwa [show ((l.length - 1 : Nat) : Int) = (l.length : Int) - 1 by omega] at this
      have HV : Hid (T = (!blB (l.getD 0 0) && !blB (l.getD (l.length - 1) 0))) := by show _ = _; rw [unhide HM, decide_eq_false (by omega)]; simp
      generalize l.getD 0 0 = c0 at i0 HV
      generalize l.getD (l.length - 1) 0 = c1 at i1 HV
      have D0 := hide (isBlank_any c0 w)
      have D1 := hide (isBlank_any c1 w)
      generalize blB c0 = d0 at D0 HV
      generalize blB c1 = d1 at D1 HV
      clear h0 HM
      cases d0 with
      | true =>
        go_enter Tryz.func84, Tryz.ntmps84
        go_wp2_with (first | (go_at_call 103; refine (unhide HA).mono ?_; rintro e w2 ⟨rfl, rfl⟩) | (go_at_call 107; refine (unhide D0).mono ?_; rintro e w2 ⟨rfl, rfl⟩))
        go_ret
        exact ⟨by rw [unhide HV]; rfl, rfl⟩
      | false =>
        go_enter Tryz.func84, Tryz.ntmps84
        go_wp2_with (go_at_call 103; refine (unhide HA).mono ?_; rintro e w2 ⟨rfl, rfl⟩)
        refine (unhide D0).mono ?_
        rintro e w2 ⟨rfl, rfl⟩
        go_wp2_with fail
        refine (unhide D1).mono ?_
        rintro e w3 ⟨rfl, rfl⟩
        go_wp2
        go_ret
        exact ⟨by rw [unhide HV]; rfl, rfl⟩
#print axioms isValue_any
end Go.Proofs.YtonaekkenggmbaaGreatDoor
end
