/-
  httpd, kinds of bytes: isCapital, isSeen, isBlank, isTokenByte, and all of a text.
-/
import Derived.Test.YtonaekkenggmbaaGreatDoorPkHadsah
import Derived.Lib.Bytealg
section
set_option linter.unusedVariables false
set_option maxRecDepth 1000000
namespace Go.Proofs.YtonaekkenggmbaaGreatDoor
open Go.RowKit

def btw (a b : Nat) (c : UInt8) : Bool := decide (a ≤ c.toNat) && decide (c.toNat ≤ b)
def capB : UInt8 → Bool := btw 65 90
def seenB : UInt8 → Bool := btw 33 126
def blB (c : UInt8) : Bool := decide (c.toNat = 32) || decide (c.toNat = 9)
theorem isCapital_any (c : UInt8) (w : World) : Calls Tryz.prog 125 #[.int .u8 (c.toNat : Int)] w fun e w' => e = .returned (.bool (capB c)) ∧ w' = w := by
  obtain ⟨x, hx⟩ : ∃ x, x = c.toNat := ⟨_, rfl⟩
  have hD : Hid (capB c = (decide (65 ≤ x) && decide (x ≤ 90))) := by show _ = _; unfold capB btw; rw [hx]
  rw [← hx]
  clear hx
  have h : ¬ (65 : Int) ≤ (x : Int) ∨ ((65 : Int) ≤ (x : Int) ∧ ¬ (x : Int) ≤ 90) ∨ ((65 : Int) ≤ (x : Int) ∧ (x : Int) ≤ 90) := by omega
  have HR : Hid (capB c = (decide ((65 : Int) ≤ (x : Int)) && decide ((x : Int) ≤ 90))) := by show _ = _; rw [unhide hD]; congr 1 <;> congr 1 <;> exact propext (by omega)
  clear hD
  rcases h with h1 | ⟨h1, h2⟩ | ⟨h1, h2⟩
  · rw [decide_eq_false h1] at HR
    go_enter Tryz.func125, Tryz.ntmps125
    go_wp2
    go_ret
    exact ⟨by rw [unhide HR]; rfl, rfl⟩
  · rw [decide_eq_true h1, decide_eq_false h2] at HR
    go_enter Tryz.func125, Tryz.ntmps125
    go_wp2
    go_ret
    exact ⟨by rw [unhide HR]; rfl, rfl⟩
  · rw [decide_eq_true h1, decide_eq_true h2] at HR
    go_enter Tryz.func125, Tryz.ntmps125
    go_wp2
    go_ret
    exact ⟨by rw [unhide HR]; rfl, rfl⟩
theorem isSeen_any (c : UInt8) (w : World) : Calls Tryz.prog 106 #[.int .u8 (c.toNat : Int)] w fun e w' => e = .returned (.bool (seenB c)) ∧ w' = w := by
  obtain ⟨x, hx⟩ : ∃ x, x = c.toNat := ⟨_, rfl⟩
  have hD : Hid (seenB c = (decide (33 ≤ x) && decide (x ≤ 126))) := by show _ = _; unfold seenB btw; rw [hx]
  rw [← hx]
  clear hx
  have h : ¬ (33 : Int) ≤ (x : Int) ∨ ((33 : Int) ≤ (x : Int) ∧ ¬ (x : Int) ≤ 126) ∨ ((33 : Int) ≤ (x : Int) ∧ (x : Int) ≤ 126) := by omega
  have HR : Hid (seenB c = (decide ((33 : Int) ≤ (x : Int)) && decide ((x : Int) ≤ 126))) := by show _ = _; rw [unhide hD]; congr 1 <;> congr 1 <;> exact propext (by omega)
  clear hD
  rcases h with h1 | ⟨h1, h2⟩ | ⟨h1, h2⟩
  · rw [decide_eq_false h1] at HR
    go_enter Tryz.func106, Tryz.ntmps106
    go_wp2
    go_ret
    exact ⟨by rw [unhide HR]; rfl, rfl⟩
  · rw [decide_eq_true h1, decide_eq_false h2] at HR
    go_enter Tryz.func106, Tryz.ntmps106
    go_wp2
    go_ret
    exact ⟨by rw [unhide HR]; rfl, rfl⟩
  · rw [decide_eq_true h1, decide_eq_true h2] at HR
    go_enter Tryz.func106, Tryz.ntmps106
    go_wp2
    go_ret
    exact ⟨by rw [unhide HR]; rfl, rfl⟩
theorem isBlank_any (c : UInt8) (w : World) : Calls Tryz.prog 107 #[.int .u8 (c.toNat : Int)] w fun e w' => e = .returned (.bool (blB c)) ∧ w' = w := by
  obtain ⟨x, hx⟩ : ∃ x, x = c.toNat := ⟨_, rfl⟩
  have hD : Hid (blB c = (decide (x = 32) || decide (x = 9))) := by show _ = _; unfold blB; rw [hx]
  rw [← hx]
  clear hx
  have h : ((x : Int) == 32) = true ∧ x = 32 ∨ (((x : Int) == 32) = false ∧ x ≠ 32 ∧ ((x : Int) == 9) = true ∧ x = 9) ∨ (((x : Int) == 32) = false ∧ x ≠ 32 ∧ ((x : Int) == 9) = false ∧ x ≠ 9) := by
    by_cases h1 : x = 32
    · left; subst h1; exact ⟨rfl, rfl⟩
    · right
      have e1 : ((x : Int) == 32) = false := by rw [beq_eq_false_iff_ne]; omega
      by_cases h2 : x = 9
      · left; subst h2; exact ⟨rfl, by decide, rfl, rfl⟩
      · right; exact ⟨e1, h1, by rw [beq_eq_false_iff_ne]; omega, h2⟩
  rcases h with ⟨h1, h2⟩ | ⟨h1, h2, h3, h4⟩ | ⟨h1, h2, h3, h4⟩
  · have HR : Hid (blB c = true) := by show _ = _; rw [unhide hD, decide_eq_true h2]; rfl
    clear h2 hD
    go_enter Tryz.func107, Tryz.ntmps107
    go_wp2
    go_ret
    exact ⟨by rw [unhide HR]; rfl, rfl⟩
  · have HR : Hid (blB c = true) := by show _ = _; rw [unhide hD, decide_eq_true h4]; simp
    clear h2 h4 hD
    go_enter Tryz.func107, Tryz.ntmps107
    go_wp2
    go_ret
    exact ⟨by rw [unhide HR]; rfl, rfl⟩
  · have HR : Hid (blB c = false) := by show _ = _; rw [unhide hD, decide_eq_false h2, decide_eq_false h4]; rfl
    clear h2 h4 hD
    go_enter Tryz.func107, Tryz.ntmps107
    go_wp2
    go_ret
    exact ⟨by rw [unhide HR]; rfl, rfl⟩
#print axioms isBlank_any
set_option maxHeartbeats 1000000 in
theorem slIdx_any (s : ByteArray) (c : UInt8) (w : World) :
    Calls Tryz.prog 151 #[.string s, .int .u8 (c.toNat : Int)] w fun e w' => e = .returned (.int .i64 (Lib.indexByte s.data.toList c)) ∧ w' = w := by
  have hrun : (Extern.BytealgIndexByte.indexByte #[.string s, .int .u8 (c.toNat : Int)]).run Tryz.prog w = .ok (.int .i64 (Lib.indexByte s.data.toList c)) w := by
    rw [Lib.run_indexByteString]
    congr 3
    simp
  go_enter Tryz.func151, Tryz.ntmps151
  go_wp2
  rw [run_callFunc_extern Tryz.func172 (by kernel_rfl) (by kernel_rfl) (by kernel_rfl) (e := Extern.BytealgIndexByte.indexByte) (by kernel_rfl), hrun]
  simp only [Result.andThen]
  rw [Oper.upon_value]
  go_wp2
  go_ret
  exact ⟨rfl, rfl⟩
set_option maxHeartbeats 1000000 in
theorem sIdx_any (s : ByteArray) (c : UInt8) (w : World) :
    Calls Tryz.prog 127 #[.string s, .int .u8 (c.toNat : Int)] w fun e w' => e = .returned (.int .i64 (Lib.indexByte s.data.toList c)) ∧ w' = w := by
  go_enter Tryz.func127, Tryz.ntmps127
  go_wp2_with (go_at_call 151; refine (slIdx_any s c _).mono ?_; rintro e w2 ⟨rfl, rfl⟩)
  go_ret
  exact ⟨rfl, rfl⟩
def marks : List UInt8 := [33, 35, 36, 37, 38, 39, 42, 43, 45, 46, 94, 95, 96, 124, 126]
def markB (c : UInt8) : Bool := decide (0 ≤ Lib.indexByte marks c)
def tokB (c : UInt8) : Bool := btw 97 122 c || (capB c || (digB c || markB c))
set_option maxHeartbeats 2000000 in
theorem isTokenByte_any (c : UInt8) (w : World) : Calls Tryz.prog 104 #[.int .u8 (c.toNat : Int)] w fun e w' => e = .returned (.bool (tokB c)) ∧ w' = w := by
  have HC := hide (isCapital_any c w)
  have HD := hide (isDigit_any c w)
  have HI := hide (sIdx_any ⟨#[33, 35, 36, 37, 38, 39, 42, 43, 45, 46, 94, 95, 96, 124, 126]⟩ c w)
  obtain ⟨i, hi⟩ : ∃ i, Lib.indexByte (⟨#[33, 35, 36, 37, 38, 39, 42, 43, 45, 46, 94, 95, 96, 124, 126]⟩ : ByteArray).data.toList c = i := ⟨_, rfl⟩
  rw [hi] at HI
  obtain ⟨x, hx⟩ : ∃ x, x = c.toNat := ⟨_, rfl⟩
  have HT : Hid (tokB c = ((decide (97 ≤ x) && decide (x ≤ 122)) || (capB c || (digB c || decide (0 ≤ i))))) := by
    show _ = _
    unfold tokB markB btw
    rw [hx, ← hi]
    rfl
  rw [← hx] at HC HD HI ⊢
  clear hi hx
  generalize tokB c = T at HT ⊢
  generalize capB c = A at HC HT
  generalize digB c = D at HD HT
  have h : ((97 : Int) ≤ (x : Int) ∧ (x : Int) ≤ 122 ∧ 97 ≤ x ∧ x ≤ 122) ∨ (¬ (97 : Int) ≤ (x : Int) ∧ ¬ 97 ≤ x) ∨ ((97 : Int) ≤ (x : Int) ∧ ¬ (x : Int) ≤ 122 ∧ 97 ≤ x ∧ ¬ x ≤ 122) := by omega
  rcases h with ⟨h1, h2, h3, h4⟩ | ⟨h1, h3⟩ | ⟨h1, h2, h3, h4⟩
  · have HR : Hid (T = true) := by show _ = _; rw [unhide HT, decide_eq_true h3, decide_eq_true h4]; rfl
    clear h3 h4
    go_enter Tryz.func104, Tryz.ntmps104
    go_wp2
    go_ret
    exact ⟨by rw [unhide HR]; rfl, rfl⟩
  · have HR : Hid (T = (A || (D || decide (0 ≤ i)))) := by show _ = _; rw [unhide HT, decide_eq_false h3]; rfl
    clear h3 HT
    cases A with
    | true =>
      go_enter Tryz.func104, Tryz.ntmps104
      go_wp2_with (go_at_call 125; refine (unhide HC).mono ?_; rintro e w2 ⟨rfl, rfl⟩)
      go_ret
      exact ⟨by rw [unhide HR]; rfl, rfl⟩
    | false =>
      cases D with
      | true =>
        go_enter Tryz.func104, Tryz.ntmps104
        go_wp2_with (first | (go_at_call 125; refine (unhide HC).mono ?_; rintro e w2 ⟨rfl, rfl⟩) | (go_at_call 126; refine (unhide HD).mono ?_; rintro e w2 ⟨rfl, rfl⟩))
        go_ret
        exact ⟨by rw [unhide HR]; rfl, rfl⟩
      | false =>
        go_enter Tryz.func104, Tryz.ntmps104
        go_wp2_with (first | (go_at_call 125; refine (unhide HC).mono ?_; rintro e w2 ⟨rfl, rfl⟩) | (go_at_call 126; refine (unhide HD).mono ?_; rintro e w2 ⟨rfl, rfl⟩) | (go_at_call 127; refine (unhide HI).mono ?_; rintro e w2 ⟨rfl, rfl⟩))
        go_ret
        exact ⟨by rw [unhide HR]; rfl, rfl⟩
  · have HR : Hid (T = (A || (D || decide (0 ≤ i)))) := by show _ = _; rw [unhide HT, decide_eq_true h3, decide_eq_false h4]; rfl
    clear h3 h4 HT
    cases A with
    | true =>
      go_enter Tryz.func104, Tryz.ntmps104
      go_wp2_with (go_at_call 125; refine (unhide HC).mono ?_; rintro e w2 ⟨rfl, rfl⟩)
      go_ret
      exact ⟨by rw [unhide HR]; rfl, rfl⟩
    | false =>
      cases D with
      | true =>
        go_enter Tryz.func104, Tryz.ntmps104
        go_wp2_with (first | (go_at_call 125; refine (unhide HC).mono ?_; rintro e w2 ⟨rfl, rfl⟩) | (go_at_call 126; refine (unhide HD).mono ?_; rintro e w2 ⟨rfl, rfl⟩))
        go_ret
        exact ⟨by rw [unhide HR]; rfl, rfl⟩
      | false =>
        go_enter Tryz.func104, Tryz.ntmps104
        go_wp2_with (first | (go_at_call 125; refine (unhide HC).mono ?_; rintro e w2 ⟨rfl, rfl⟩) | (go_at_call 126; refine (unhide HD).mono ?_; rintro e w2 ⟨rfl, rfl⟩) | (go_at_call 127; refine (unhide HI).mono ?_; rintro e w2 ⟨rfl, rfl⟩))
        go_ret
        exact ⟨by rw [unhide HR]; rfl, rfl⟩
#print axioms isTokenByte_any
def valB (c : UInt8) : Bool := seenB c || blB c
theorem isVal1_any (c : UInt8) (w : World) : Calls Tryz.prog 105 #[.int .u8 (c.toNat : Int)] w fun e w' => e = .returned (.bool (valB c)) ∧ w' = w := by
  have HS := hide (isSeen_any c w)
  have HB := hide (isBlank_any c w)
  have HR : Hid (valB c = (seenB c || blB c)) := rfl
  generalize valB c = T at HR ⊢
  generalize seenB c = A at HS HR
  generalize blB c = D at HB HR
  cases A with
  | true =>
    go_enter Tryz.func105, Tryz.ntmps105
    go_wp2_with (go_at_call 106; refine (unhide HS).mono ?_; rintro e w2 ⟨rfl, rfl⟩)
    go_ret
    exact ⟨by rw [unhide HR]; rfl, rfl⟩
  | false =>
    go_enter Tryz.func105, Tryz.ntmps105
    go_wp2_with (first | (go_at_call 106; refine (unhide HS).mono ?_; rintro e w2 ⟨rfl, rfl⟩) | (go_at_call 107; refine (unhide HB).mono ?_; rintro e w2 ⟨rfl, rfl⟩))
    go_ret
    exact ⟨by rw [unhide HR]; rfl, rfl⟩
set_option maxHeartbeats 1000000 in
theorem all_cap (l : List UInt8) (w : World) (hl : l.length ≤ 1000000) :
    Calls Tryz.prog 103 #[.string (str l), .func (.func 125) #[] #[]] w fun e w' => e = .returned (.bool (l.all capB)) ∧ w' = w := by
  have hsz : (str l).size = l.length := str_size l
  go_enter Tryz.func103, Tryz.ntmps103
  go_wp2
  go_loop [8] (fun v => ∃ k : Nat, k ≤ l.length ∧ v = .int .i64 (k : Int) ∧ Hid ((l.take k).all capB = true)) (fun v => l.length - (intOf v).toNat)
  case atStart => exact ⟨0, Nat.zero_le _, rfl, rfl⟩
  case round =>
    obtain ⟨k, hk, rfl, HA⟩ := hrel
    by_cases hlt : k < l.length
    · have hlt' : (k : Int) < (l.length : Int) := by omega
      obtain ⟨c, hc⟩ : ∃ c, l.getD k 0 = c := ⟨_, rfl⟩
      have hix : ∀ w, (Instr.index 9 (.string (str l)) (.int .i64 (k : Int))).run Tryz.prog w = .ok (.int .u8 (c.toNat : Int)) w := fun w => by rw [← hc]; exact run_ixs w l k hlt
      have hlk : l[k] = c := by rw [← hc, List.getD_eq_getElem?_getD, List.getElem?_eq_getElem hlt]; rfl
      cases hp : capB c with
      | true =>
        have HA2 : Hid ((l.take (k + 1)).all capB = true) := by
          show _ = _
          rw [List.take_succ_eq_append_getElem hlt, List.all_append, unhide HA, hlk]
          simp [hp]
        have HC := hide (isCapital_any c w)
        rw [hp] at HC
        clear hp hlk hc
        go_wp2_with (go_at_call 125; refine (unhide HC).mono ?_; rintro e w2 ⟨rfl, rfl⟩)
        go_round
        case rel => exact ⟨k + 1, by omega, by go_num, HA2⟩
        case measure => simp [intOf]; omega
      | false =>
        have HN : Hid (l.all capB = false) := by
          show _ = _
          rw [List.all_eq_false]
          exact ⟨c, by rw [← hlk]; exact List.getElem_mem hlt, by simp [hp]⟩
        have HC := hide (isCapital_any c w)
        rw [hp] at HC
        clear hp hlk hc
        go_wp2_with (go_at_call 125; refine (unhide HC).mono ?_; rintro e w2 ⟨rfl, rfl⟩)
        go_ret
        exact ⟨by rw [unhide HN]; rfl, rfl⟩
    · have hlt' : ¬ (k : Int) < (l.length : Int) := by omega
      have HN : Hid (l.all capB = true) := by
        show _ = _
        have := unhide HA
        rwa [List.take_of_length_le (by omega)] at this
      clear hlt
      go_wp2
      go_ret
      exact ⟨by rw [unhide HN]; rfl, rfl⟩
#print axioms all_cap
set_option maxHeartbeats 1000000 in
theorem all_seen (l : List UInt8) (w : World) (hl : l.length ≤ 1000000) :
    Calls Tryz.prog 103 #[.string (str l), .func (.func 106) #[] #[]] w fun e w' => e = .returned (.bool (l.all seenB)) ∧ w' = w := by
  have hsz : (str l).size = l.length := str_size l
  go_enter Tryz.func103, Tryz.ntmps103
  go_wp2
  go_loop [8] (fun v => ∃ k : Nat, k ≤ l.length ∧ v = .int .i64 (k : Int) ∧ Hid ((l.take k).all seenB = true)) (fun v => l.length - (intOf v).toNat)
  case atStart => exact ⟨0, Nat.zero_le _, rfl, rfl⟩
  case round =>
    obtain ⟨k, hk, rfl, HA⟩ := hrel
    by_cases hlt : k < l.length
    · have hlt' : (k : Int) < (l.length : Int) := by omega
      obtain ⟨c, hc⟩ : ∃ c, l.getD k 0 = c := ⟨_, rfl⟩
      have hix : ∀ w, (Instr.index 9 (.string (str l)) (.int .i64 (k : Int))).run Tryz.prog w = .ok (.int .u8 (c.toNat : Int)) w := fun w => by rw [← hc]; exact run_ixs w l k hlt
      have hlk : l[k] = c := by rw [← hc, List.getD_eq_getElem?_getD, List.getElem?_eq_getElem hlt]; rfl
      cases hp : seenB c with
      | true =>
        have HA2 : Hid ((l.take (k + 1)).all seenB = true) := by
          show _ = _
          rw [List.take_succ_eq_append_getElem hlt, List.all_append, unhide HA, hlk]
          simp [hp]
        have HC := hide (isSeen_any c w)
        rw [hp] at HC
        clear hp hlk hc
        go_wp2_with (go_at_call 106; refine (unhide HC).mono ?_; rintro e w2 ⟨rfl, rfl⟩)
        go_round
        case rel => exact ⟨k + 1, by omega, by go_num, HA2⟩
        case measure => simp [intOf]; omega
      | false =>
        have HN : Hid (l.all seenB = false) := by
          show _ = _
          rw [List.all_eq_false]
          exact ⟨c, by rw [← hlk]; exact List.getElem_mem hlt, by simp [hp]⟩
        have HC := hide (isSeen_any c w)
        rw [hp] at HC
        clear hp hlk hc
        go_wp2_with (go_at_call 106; refine (unhide HC).mono ?_; rintro e w2 ⟨rfl, rfl⟩)
        go_ret
        exact ⟨by rw [unhide HN]; rfl, rfl⟩
    · have hlt' : ¬ (k : Int) < (l.length : Int) := by omega
      have HN : Hid (l.all seenB = true) := by
        show _ = _
        have := unhide HA
        rwa [List.take_of_length_le (by omega)] at this
      clear hlt
      go_wp2
      go_ret
      exact ⟨by rw [unhide HN]; rfl, rfl⟩
#print axioms all_seen
set_option maxHeartbeats 1000000 in
theorem all_dig (l : List UInt8) (w : World) (hl : l.length ≤ 1000000) :
    Calls Tryz.prog 103 #[.string (str l), .func (.func 126) #[] #[]] w fun e w' => e = .returned (.bool (l.all digB)) ∧ w' = w := by
  have hsz : (str l).size = l.length := str_size l
  go_enter Tryz.func103, Tryz.ntmps103
  go_wp2
  go_loop [8] (fun v => ∃ k : Nat, k ≤ l.length ∧ v = .int .i64 (k : Int) ∧ Hid ((l.take k).all digB = true)) (fun v => l.length - (intOf v).toNat)
  case atStart => exact ⟨0, Nat.zero_le _, rfl, rfl⟩
  case round =>
    obtain ⟨k, hk, rfl, HA⟩ := hrel
    by_cases hlt : k < l.length
    · have hlt' : (k : Int) < (l.length : Int) := by omega
      obtain ⟨c, hc⟩ : ∃ c, l.getD k 0 = c := ⟨_, rfl⟩
      have hix : ∀ w, (Instr.index 9 (.string (str l)) (.int .i64 (k : Int))).run Tryz.prog w = .ok (.int .u8 (c.toNat : Int)) w := fun w => by rw [← hc]; exact run_ixs w l k hlt
      have hlk : l[k] = c := by rw [← hc, List.getD_eq_getElem?_getD, List.getElem?_eq_getElem hlt]; rfl
      cases hp : digB c with
      | true =>
        have HA2 : Hid ((l.take (k + 1)).all digB = true) := by
          show _ = _
          rw [List.take_succ_eq_append_getElem hlt, List.all_append, unhide HA, hlk]
          simp [hp]
        have HC := hide (isDigit_any c w)
        rw [hp] at HC
        clear hp hlk hc
        go_wp2_with (go_at_call 126; refine (unhide HC).mono ?_; rintro e w2 ⟨rfl, rfl⟩)
        go_round
        case rel => exact ⟨k + 1, by omega, by go_num, HA2⟩
        case measure => simp [intOf]; omega
      | false =>
        have HN : Hid (l.all digB = false) := by
          show _ = _
          rw [List.all_eq_false]
          exact ⟨c, by rw [← hlk]; exact List.getElem_mem hlt, by simp [hp]⟩
        have HC := hide (isDigit_any c w)
        rw [hp] at HC
        clear hp hlk hc
        go_wp2_with (go_at_call 126; refine (unhide HC).mono ?_; rintro e w2 ⟨rfl, rfl⟩)
        go_ret
        exact ⟨by rw [unhide HN]; rfl, rfl⟩
    · have hlt' : ¬ (k : Int) < (l.length : Int) := by omega
      have HN : Hid (l.all digB = true) := by
        show _ = _
        have := unhide HA
        rwa [List.take_of_length_le (by omega)] at this
      clear hlt
      go_wp2
      go_ret
      exact ⟨by rw [unhide HN]; rfl, rfl⟩
#print axioms all_dig
set_option maxHeartbeats 1000000 in
theorem all_tok (l : List UInt8) (w : World) (hl : l.length ≤ 1000000) :
    Calls Tryz.prog 103 #[.string (str l), .func (.func 104) #[] #[]] w fun e w' => e = .returned (.bool (l.all tokB)) ∧ w' = w := by
  have hsz : (str l).size = l.length := str_size l
  go_enter Tryz.func103, Tryz.ntmps103
  go_wp2
  go_loop [8] (fun v => ∃ k : Nat, k ≤ l.length ∧ v = .int .i64 (k : Int) ∧ Hid ((l.take k).all tokB = true)) (fun v => l.length - (intOf v).toNat)
  case atStart => exact ⟨0, Nat.zero_le _, rfl, rfl⟩
  case round =>
    obtain ⟨k, hk, rfl, HA⟩ := hrel
    by_cases hlt : k < l.length
    · have hlt' : (k : Int) < (l.length : Int) := by omega
      obtain ⟨c, hc⟩ : ∃ c, l.getD k 0 = c := ⟨_, rfl⟩
      have hix : ∀ w, (Instr.index 9 (.string (str l)) (.int .i64 (k : Int))).run Tryz.prog w = .ok (.int .u8 (c.toNat : Int)) w := fun w => by rw [← hc]; exact run_ixs w l k hlt
      have hlk : l[k] = c := by rw [← hc, List.getD_eq_getElem?_getD, List.getElem?_eq_getElem hlt]; rfl
      cases hp : tokB c with
      | true =>
        have HA2 : Hid ((l.take (k + 1)).all tokB = true) := by
          show _ = _
          rw [List.take_succ_eq_append_getElem hlt, List.all_append, unhide HA, hlk]
          simp [hp]
        have HC := hide (isTokenByte_any c w)
        rw [hp] at HC
        clear hp hlk hc
        go_wp2_with (go_at_call 104; refine (unhide HC).mono ?_; rintro e w2 ⟨rfl, rfl⟩)
        go_round
        case rel => exact ⟨k + 1, by omega, by go_num, HA2⟩
        case measure => simp [intOf]; omega
      | false =>
        have HN : Hid (l.all tokB = false) := by
          show _ = _
          rw [List.all_eq_false]
          exact ⟨c, by rw [← hlk]; exact List.getElem_mem hlt, by simp [hp]⟩
        have HC := hide (isTokenByte_any c w)
        rw [hp] at HC
        clear hp hlk hc
        go_wp2_with (go_at_call 104; refine (unhide HC).mono ?_; rintro e w2 ⟨rfl, rfl⟩)
        go_ret
        exact ⟨by rw [unhide HN]; rfl, rfl⟩
    · have hlt' : ¬ (k : Int) < (l.length : Int) := by omega
      have HN : Hid (l.all tokB = true) := by
        show _ = _
        have := unhide HA
        rwa [List.take_of_length_le (by omega)] at this
      clear hlt
      go_wp2
      go_ret
      exact ⟨by rw [unhide HN]; rfl, rfl⟩
#print axioms all_tok
set_option maxHeartbeats 1000000 in
theorem all_val (l : List UInt8) (w : World) (hl : l.length ≤ 1000000) :
    Calls Tryz.prog 103 #[.string (str l), .func (.func 105) #[] #[]] w fun e w' => e = .returned (.bool (l.all valB)) ∧ w' = w := by
  have hsz : (str l).size = l.length := str_size l
  go_enter Tryz.func103, Tryz.ntmps103
  go_wp2
  go_loop [8] (fun v => ∃ k : Nat, k ≤ l.length ∧ v = .int .i64 (k : Int) ∧ Hid ((l.take k).all valB = true)) (fun v => l.length - (intOf v).toNat)
  case atStart => exact ⟨0, Nat.zero_le _, rfl, rfl⟩
  case round =>
    obtain ⟨k, hk, rfl, HA⟩ := hrel
    by_cases hlt : k < l.length
    · have hlt' : (k : Int) < (l.length : Int) := by omega
      obtain ⟨c, hc⟩ : ∃ c, l.getD k 0 = c := ⟨_, rfl⟩
      have hix : ∀ w, (Instr.index 9 (.string (str l)) (.int .i64 (k : Int))).run Tryz.prog w = .ok (.int .u8 (c.toNat : Int)) w := fun w => by rw [← hc]; exact run_ixs w l k hlt
      have hlk : l[k] = c := by rw [← hc, List.getD_eq_getElem?_getD, List.getElem?_eq_getElem hlt]; rfl
      cases hp : valB c with
      | true =>
        have HA2 : Hid ((l.take (k + 1)).all valB = true) := by
          show _ = _
          rw [List.take_succ_eq_append_getElem hlt, List.all_append, unhide HA, hlk]
          simp [hp]
        have HC := hide (isVal1_any c w)
        rw [hp] at HC
        clear hp hlk hc
        go_wp2_with (go_at_call 105; refine (unhide HC).mono ?_; rintro e w2 ⟨rfl, rfl⟩)
        go_round
        case rel => exact ⟨k + 1, by omega, by go_num, HA2⟩
        case measure => simp [intOf]; omega
      | false =>
        have HN : Hid (l.all valB = false) := by
          show _ = _
          rw [List.all_eq_false]
          exact ⟨c, by rw [← hlk]; exact List.getElem_mem hlt, by simp [hp]⟩
        have HC := hide (isVal1_any c w)
        rw [hp] at HC
        clear hp hlk hc
        go_wp2_with (go_at_call 105; refine (unhide HC).mono ?_; rintro e w2 ⟨rfl, rfl⟩)
        go_ret
        exact ⟨by rw [unhide HN]; rfl, rfl⟩
    · have hlt' : ¬ (k : Int) < (l.length : Int) := by omega
      have HN : Hid (l.all valB = true) := by
        show _ = _
        have := unhide HA
        rwa [List.take_of_length_le (by omega)] at this
      clear hlt
      go_wp2
      go_ret
      exact ⟨by rw [unhide HN]; rfl, rfl⟩
#print axioms all_val
end Go.Proofs.YtonaekkenggmbaaGreatDoor
end
