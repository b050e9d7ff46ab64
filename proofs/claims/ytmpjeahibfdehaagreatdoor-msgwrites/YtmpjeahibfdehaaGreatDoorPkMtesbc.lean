/-
  authtok: names: what AutA has of them, for seats without the rest of authtok (never with AutA).; msg: the document's Name, of any text.
-/
import Derived.Test.YtmpjeahibfdehaaGreatDoorPkMtesac
import Derived.Test.YtmpjeahibfdehaaGreatDoorPkMtesad
import Derived.Lib.Bytealg
section
set_option linter.unusedVariables false
set_option maxRecDepth 1000000
namespace Go.Proofs.YtmpjeahibfdehaaGreatDoor
open Go.RowKit

def nmB (c : UInt8) : Bool := (97 ≤ c && c ≤ 122) || (65 ≤ c && c ≤ 90) || (48 ≤ c && c ≤ 57) || c == 46 || c == 45 || c == 95
def nmOk (s : List UInt8) : Bool := decide (s ≠ []) && decide (s.length ≤ 24) && s.all nmB
theorem nm_len {s : List UInt8} (h : nmOk s = true) : s.length ≤ 24 ∧ s ≠ [] := by
 simp only [nmOk, Bool.and_eq_true, decide_eq_true_eq] at h
 exact ⟨h.1.2, h.1.1⟩

theorem run_ixs (w : World) (S : List UInt8) (k : Nat) (c : UInt8) (h : S[k]? = some c) : (Instr.index 9 (.string (str S)) (.int .i64 (k : Int))).run Tryz.prog w = .ok (.int .u8 (c.toNat : Int)) w := by
 rw [run_index_string w 9 (str S) .i64 (k : Int) Tryz.underlying9]
 have hk : k < S.length := (List.getElem?_eq_some_iff.1 h).1
 have hs : (str S).size = S.length := str_size S
 rw [dif_pos (by rw [hs]; omega)]
 have e2 : ((str S)[(k : Int).toNat]'(by rw [hs]; omega)) = c := by
  have : (S.toArray[k]'(by simpa using hk)) = c := by
   simpa using (List.getElem?_eq_some_iff.1 h).2
  exact this
 rw [e2]

set_option maxHeartbeats 1000000 in
theorem slIdx_any (s : ByteArray) (c : UInt8) (w : World) :
  Calls Tryz.prog 158 #[.string s, .int .u8 (c.toNat : Int)] w fun e w' => e = .returned (.int .i64 (Lib.indexByte s.data.toList c)) ∧ w' = w := by
 have hrun : (Extern.BytealgIndexByte.indexByte #[.string s, .int .u8 (c.toNat : Int)]).run Tryz.prog w = .ok (.int .i64 (Lib.indexByte s.data.toList c)) w := by
  rw [Lib.run_indexByteString]
  congr 3
  simp
 go_enter Tryz.func158, Tryz.ntmps158
 go_wp2
 rw [run_callFunc_extern Tryz.func175 (by kernel_rfl) (by kernel_rfl) (by kernel_rfl) (e := Extern.BytealgIndexByte.indexByte) (by kernel_rfl), hrun]
 simp only [Result.andThen]
 rw [Oper.upon_value]
 go_wp2
 go_ret
 exact ⟨rfl, rfl⟩
set_option maxHeartbeats 1000000 in
theorem sIdx_any (s : ByteArray) (c : UInt8) (w : World) :
  Calls Tryz.prog 129 #[.string s, .int .u8 (c.toNat : Int)] w fun e w' => e = .returned (.int .i64 (Lib.indexByte s.data.toList c)) ∧ w' = w := by
 go_enter Tryz.func129, Tryz.ntmps129
 go_wp2_with (go_at_call 158; refine (slIdx_any s c _).mono ?_; rintro e w2 ⟨rfl, rfl⟩)
 go_ret
 exact ⟨rfl, rfl⟩

theorem nm_index (c : UInt8) : (0 : Int) ≤ Lib.indexByte [46, 45, 95] c ↔ (c == 46 || c == 45 || c == 95) = true := by
 by_cases h1 : c = 46
 ·subst h1; decide
 by_cases h2 : c = 45
 ·subst h2; decide
 by_cases h3 : c = 95
 ·subst h3; decide
 have e : Lib.indexByte [46, 45, 95] c = -1 := by
  simp [Lib.indexByte, Ne.symm h1, Ne.symm h2, Ne.symm h3]
 rw [e]
 simp [h1, h2, h3]
theorem nmB_nat (c : UInt8) (X : Nat) (hX : c.toNat = X) : nmB c = (decide (97 ≤ X ∧ X ≤ 122) || decide (65 ≤ X ∧ X ≤ 90) || decide (48 ≤ X ∧ X ≤ 57) || (c == 46 || c == 45 || c == 95)) := by
 subst hX
 unfold nmB
 have k : ∀ a b : UInt8, decide (a ≤ b) = decide (a.toNat ≤ b.toNat) := fun a b => rfl
 simp only [k]
 simp [Bool.or_assoc, Bool.decide_and]

set_option maxHeartbeats 2000000 in
theorem isName_any (c : UInt8) (w : World) :
  Calls Tryz.prog 89 #[.int .u8 (c.toNat : Int)] w fun e w' => e = .returned (.bool (nmB c)) ∧ w' = w := by
 have hc := c.toNat_lt
 obtain ⟨X, hX⟩ : ∃ X, c.toNat = X := ⟨_, rfl⟩
 have hn := nmB_nat c X hX
 have hI := nm_index c
 have hcall := fun w => sIdx_any ⟨#[46, 45, 95]⟩ c w
 generalize (c == 46 || c == 45 || c == 95) = t at *
 have HN := hide hn
 have HI := hide hI
 have HC := hide hcall
 clear hn hI hcall
 rw [hX] at hc ⊢
 simp only [hX] at HC
 clear hX
 by_cases h1 : 97 ≤ X ∧ X ≤ 122
 ·obtain ⟨h1, h2⟩ := h1
  have h3 : ¬ X ≤ 90 := by omega
  have h4 : ¬ X ≤ 57 := by omega
  have HE : Hid (nmB c = true) := by show _ = _; rw [HN.out]; simp [h1, h2]
  go_enter Tryz.func89, Tryz.ntmps89
  go_wp2
  go_ret
  exact ⟨by rw [HE.out]; rfl, rfl⟩
 by_cases h2 : 65 ≤ X ∧ X ≤ 90
 ·obtain ⟨h2, h3⟩ := h2
  have h4 : ¬ 97 ≤ X := by omega
  have HE : Hid (nmB c = true) := by show _ = _; rw [HN.out]; simp [h2, h3]
  go_enter Tryz.func89, Tryz.ntmps89
  go_wp2
  go_ret
  exact ⟨by rw [HE.out]; rfl, rfl⟩
 by_cases h3 : 48 ≤ X ∧ X ≤ 57
 ·obtain ⟨h3, h4⟩ := h3
  have h5 : ¬ 97 ≤ X := by omega
  have h6 : ¬ 65 ≤ X := by omega
  have HE : Hid (nmB c = true) := by show _ = _; rw [HN.out]; simp [h3, h4]
  go_enter Tryz.func89, Tryz.ntmps89
  go_wp2
  go_ret
  exact ⟨by rw [HE.out]; rfl, rfl⟩
 have HE : Hid (nmB c = t) := by
  show _ = _
  rw [HN.out, decide_eq_false h1, decide_eq_false h2, decide_eq_false h3]
  simp
 have HCC : Hid (∀ w, Calls Tryz.prog 129 #[.string ⟨#[46, 45, 95]⟩, .int .u8 (X : Int)] w fun e w' => ∃ r : Int, e = .returned (.int .i64 r) ∧ Hid (decide (0 ≤ r) = t) ∧ w' = w) := by
  intro w
  refine (HC.out w).mono ?_
  rintro e w2 ⟨rfl, rfl⟩
  refine ⟨_, rfl, ?_, rfl⟩
  show decide _ = t
  cases t with
  | true => exact decide_eq_true (HI.out.2 rfl)
  | false => exact decide_eq_false (fun h => by have := HI.out.1 h; cases this)
 clear HC HI HN
 have fin : ∀ (g : Prop), g → g := fun _ h => h
 by_cases k1 : 97 ≤ X
 ·have k2 : ¬ X ≤ 122 := by omega
  have k3 : 65 ≤ X := by omega
  have k4 : ¬ X ≤ 90 := by omega
  have k5 : 48 ≤ X := by omega
  have k6 : ¬ X ≤ 57 := by omega
  clear h1 h2 h3
  have dd1 : decide ((X : Int) ≤ 122) = false := decide_eq_false (by omega)
  have dd2 : decide ((X : Int) ≤ 90) = false := decide_eq_false (by omega)
  have dd3 : decide ((X : Int) ≤ 57) = false := decide_eq_false (by omega)
  go_enter Tryz.func89, Tryz.ntmps89
  go_wp2_with (go_at_call 129; refine (HCC.out _).mono ?_; rintro e w2 ⟨r, rfl, hr, rfl⟩)
  go_ret
  exact ⟨by rw [HE.out, ← hr.out]; rfl, rfl⟩
 by_cases k3 : 65 ≤ X
 ·have k4 : ¬ X ≤ 90 := by omega
  have k5 : 48 ≤ X := by omega
  have k6 : ¬ X ≤ 57 := by omega
  clear h1 h2 h3
  have dd2 : decide ((X : Int) ≤ 90) = false := decide_eq_false (by omega)
  have dd3 : decide ((X : Int) ≤ 57) = false := decide_eq_false (by omega)
  go_enter Tryz.func89, Tryz.ntmps89
  go_wp2_with (go_at_call 129; refine (HCC.out _).mono ?_; rintro e w2 ⟨r, rfl, hr, rfl⟩)
  go_ret
  exact ⟨by rw [HE.out, ← hr.out]; rfl, rfl⟩
 by_cases k5 : 48 ≤ X
 ·have k6 : ¬ X ≤ 57 := by omega
  clear h1 h2 h3
  have dd3 : decide ((X : Int) ≤ 57) = false := decide_eq_false (by omega)
  go_enter Tryz.func89, Tryz.ntmps89
  go_wp2_with (go_at_call 129; refine (HCC.out _).mono ?_; rintro e w2 ⟨r, rfl, hr, rfl⟩)
  go_ret
  exact ⟨by rw [HE.out, ← hr.out]; rfl, rfl⟩
 ·clear h1 h2 h3
  go_enter Tryz.func89, Tryz.ntmps89
  go_wp2_with (go_at_call 129; refine (HCC.out _).mono ?_; rintro e w2 ⟨r, rfl, hr, rfl⟩)
  go_ret
  exact ⟨by rw [HE.out, ← hr.out]; rfl, rfl⟩

set_option maxHeartbeats 2000000 in
theorem name_any (s : List UInt8) (w : World) (hs : s.length ≤ 100000) :
  Calls Tryz.prog 53 #[.string (str s)] w fun e w' => e = .returned (.bool (nmOk s)) ∧ w' = w := by
 have hsz : (str s).size = s.length := str_size s
 by_cases h0 : s = []
 ·subst h0
  go_enter Tryz.func53, Tryz.ntmps53
  go_wp2
  go_ret
  exact ⟨rfl, rfl⟩
 have hl0 : ¬ s.length = 0 := fun h => h0 (List.eq_nil_of_length_eq_zero h)
 have hl0' : ¬ (s.length : Int) = 0 := by omega
 by_cases h1 : 24 < s.length
 ·have HE : Hid (nmOk s = false) := by show _ = _; unfold nmOk; rw [decide_eq_false (show ¬ s.length ≤ 24 by omega)]; simp
  clear h0
  go_enter Tryz.func53, Tryz.ntmps53
  go_wp2
  go_ret
  exact ⟨by rw [HE.out]; rfl, rfl⟩
 have HE : Hid (nmOk s = s.all nmB) := by
  show _ = _
  unfold nmOk
  rw [decide_eq_true h0, decide_eq_true (show s.length ≤ 24 by omega)]
  simp
 have hidx : ∀ i : Nat, i < s.length → ∀ w : World, (Instr.index 9 (.string (str s)) (.int .i64 (i : Int))).run Tryz.prog w = .ok (.int .u8 ((s.getD i 0).toNat : Int)) w := by
  intro i hi w
  exact run_ixs w s i _ (by rw [List.getD_eq_getElem?_getD, List.getElem?_eq_getElem hi]; rfl)
 have HX := hide hidx
 have hd1 : decide ((24 : Int) < (s.length : Int)) = false := decide_eq_false (by omega)
 have hq0 : ((s.length : Int) == 0) = false := by simp; omega
 clear hidx h0
 go_enter Tryz.func53, Tryz.ntmps53
 go_wp2
 go_loopw [14] (fun v wr => ∃ i : Nat, i ≤ s.length ∧ v = .int .i64 (i : Int) ∧ Hid ((s.take i).all nmB = true) ∧ wr = w) (fun v _ => s.length - (intOf v).toNat)
 case atStart => exact ⟨0, Nat.zero_le _, rfl, (by show _ = _; simp), rfl⟩
 case round =>
  obtain ⟨i, hi, rfl, ha, rfl⟩ := hrel
  by_cases hlt : i < s.length
  ·have hx := HX.out i hlt
   have HS : Hid (s.take (i + 1) = s.take i ++ [s.getD i 0]) := by show _ = _; rw [List.take_add_one]; simp [hlt]
   have HM : Hid (s.getD i 0 ∈ s) := by show _ ∈ _; simp [hlt]
   generalize s.getD i 0 = c at *
   cases hc : nmB c with
   | true =>
    have HC := hide hc
    clear hc
    go_wp2_with (go_at_call 89; refine (isName_any c _).mono ?_; rintro e w2 ⟨rfl, rfl⟩; rw [HC.out])
    go_roundw
    case rel => exact ⟨i + 1, by omega, by go_num, (by show _ = _; rw [HS.out, List.all_append, ha.out]; simp [HC.out]), trivial⟩
    case measure => simp [intOf]; omega
   | false =>
    have HC := hide hc
    have HF : Hid (s.all nmB = false) := by
     show _ = _
     rw [List.all_eq_false]
     exact ⟨c, HM.out, by rw [hc]; simp⟩
    clear hc
    go_wp2_with (go_at_call 89; refine (isName_any c _).mono ?_; rintro e w2 ⟨rfl, rfl⟩; rw [HC.out])
    go_ret
    exact ⟨by rw [HE.out, HF.out]; rfl, rfl⟩
  ·obtain rfl : i = s.length := by omega
   rw [List.take_length] at ha
   go_wp2
   go_ret
   exact ⟨by rw [HE.out, ha.out]; rfl, rfl⟩
end Go.Proofs.YtmpjeahibfdehaaGreatDoor
end
section
set_option linter.unusedVariables false
set_option maxRecDepth 1000000
namespace Go.Proofs.YtmpjeahibfdehaaGreatDoor
open Go.RowKit

theorem u8_is (c d : UInt8) : (c == d) = decide (c.toNat = d.toNat) := by
 rw [Bool.eq_iff_iff, beq_iff_eq, decide_eq_true_eq, UInt8.toNat_inj]
set_option maxHeartbeats 4000000 in
theorem rname_any (s : List UInt8) (w : World) (hs : s.length ≤ 9223372036854775807) :
  Calls Tryz.prog 44 #[.string (str s)] w fun e w' => e = .returned (.bool (nmOk s)) ∧ w' = w := by
 have hsz : (str s).size = s.length := str_size s
 have hidx : ∀ i : Nat, i < s.length → ∀ w : World, (Instr.index 9 (.string (str s)) (.int .i64 (i : Int))).run Tryz.prog w = .ok (.int .u8 ((s.getD i 0).toNat : Int)) w := by
  intro i hi w
  exact run_ixs w s i _ (by rw [List.getD_eq_getElem?_getD, List.getElem?_eq_getElem hi]; rfl)
 have HX := hide hidx
 obtain ⟨B, hB⟩ : ∃ B, nmOk s = B := ⟨_, rfl⟩
 rw [hB]
 have HB := hide hB
 clear hidx hB
 go_enter Tryz.func44, Tryz.ntmps44
 go_wp2
 go_loopw [8] (fun v wr => ∃ i : Nat, i ≤ s.length ∧ v = .int .i64 (i : Int) ∧ Hid ((s.take i).all nmB = true) ∧ wr = w) (fun v _ => s.length - (intOf v).toNat)
 case atStart => exact ⟨0, Nat.zero_le _, rfl, (by show _ = _; simp), rfl⟩
 case round =>
  obtain ⟨i, hi, rfl, ha, rfl⟩ := hrel
  by_cases hlt : i < s.length
  ·have hx := HX.out i hlt
   have HS : Hid (s.take (i + 1) = s.take i ++ [s.getD i 0]) := by show _ = _; rw [List.take_add_one]; simp [hlt]
   have HM : Hid (s.getD i 0 ∈ s) := by show _ ∈ _; simp [hlt]
   have hi2 : (i : Int) < (s.length : Int) := by omega
   generalize s.getD i 0 = c at *
   have hn := nmB_nat c c.toNat rfl
   have c46 := u8_is c 46
   have c45 := u8_is c 45
   have c95 := u8_is c 95
   rw [show (46 : UInt8).toNat = 46 from rfl] at c46
   rw [show (45 : UInt8).toNat = 45 from rfl] at c45
   rw [show (95 : UInt8).toNat = 95 from rfl] at c95
   rw [c46, c45, c95] at hn
   have hcl := c.toNat_lt
   have HGO : Hid (nmB c = true → (s.take (i + 1)).all nmB = true) := fun hc => by rw [HS.out, List.all_append, ha.out]; simp [hc]
   have HST : Hid (nmB c = false → B = false) := fun hc => by
    rw [← HB.out]
    unfold nmOk
    rw [show s.all nmB = false from by rw [List.all_eq_false]; exact ⟨c, HM.out, by rw [hc]; simp⟩]
    simp
   clear c46 c45 c95 HS HM ha
   generalize c.toNat = X at *
   generalize nmB c = q at *
   have HN := hide hn
   clear hn
   by_cases y0 : 97 ≤ X ∧ X ≤ 122
   ·have ga0 : decide ((97 : Int) ≤ (X : Int)) = true := decide_eq_true (by omega)
    have la0 : decide ((X : Int) ≤ 122) = true := decide_eq_true (by omega)
    have hq : q = true := by rw [HN.out]; simp; omega
    subst hq
    have HG := hide (HGO.out rfl)
    clear HGO HST HN
    go_wp2
    go_roundw
    case rel => exact ⟨i + 1, by omega, by go_num, HG, trivial⟩
    case measure => simp [intOf]; omega
   by_cases y1 : 122 < X
   ·have ga0 : decide ((97 : Int) ≤ (X : Int)) = true := decide_eq_true (by omega)
    have ga1 : decide ((65 : Int) ≤ (X : Int)) = true := decide_eq_true (by omega)
    have ga2 : decide ((48 : Int) ≤ (X : Int)) = true := decide_eq_true (by omega)
    have la0 : decide ((X : Int) ≤ 122) = false := decide_eq_false (by omega)
    have la1 : decide ((X : Int) ≤ 90) = false := decide_eq_false (by omega)
    have la2 : decide ((X : Int) ≤ 57) = false := decide_eq_false (by omega)
    have na0 : ((X : Int) != 46) = true := by simp; omega
    have nb0 : ((X : Int) == 46) = false := by simp; omega
    have na1 : ((X : Int) != 45) = true := by simp; omega
    have nb1 : ((X : Int) == 45) = false := by simp; omega
    have na2 : ((X : Int) != 95) = true := by simp; omega
    have nb2 : ((X : Int) == 95) = false := by simp; omega
    have hq : q = false := by rw [HN.out]; simp; omega
    subst hq
    obtain rfl := HST.out rfl
    clear HGO HST HN
    go_wp2
    go_ret
    exact ⟨rfl, rfl⟩
   by_cases y2 : 65 ≤ X ∧ X ≤ 90
   ·have ga0 : decide ((97 : Int) ≤ (X : Int)) = false := decide_eq_false (by omega)
    have ga1 : decide ((65 : Int) ≤ (X : Int)) = true := decide_eq_true (by omega)
    have la0 : decide ((X : Int) ≤ 90) = true := decide_eq_true (by omega)
    have hq : q = true := by rw [HN.out]; simp; omega
    subst hq
    have HG := hide (HGO.out rfl)
    clear HGO HST HN
    go_wp2
    go_roundw
    case rel => exact ⟨i + 1, by omega, by go_num, HG, trivial⟩
    case measure => simp [intOf]; omega
   by_cases y3 : X = 95
   ·have ga0 : decide ((97 : Int) ≤ (X : Int)) = false := decide_eq_false (by omega)
    have ga1 : decide ((65 : Int) ≤ (X : Int)) = true := decide_eq_true (by omega)
    have ga2 : decide ((48 : Int) ≤ (X : Int)) = true := decide_eq_true (by omega)
    have la0 : decide ((X : Int) ≤ 90) = false := decide_eq_false (by omega)
    have la1 : decide ((X : Int) ≤ 57) = false := decide_eq_false (by omega)
    have na0 : ((X : Int) != 46) = true := by simp; omega
    have nb0 : ((X : Int) == 46) = false := by simp; omega
    have na1 : ((X : Int) != 45) = true := by simp; omega
    have nb1 : ((X : Int) == 45) = false := by simp; omega
    have na2 : ((X : Int) != 95) = false := by simp; omega
    have nb2 : ((X : Int) == 95) = true := by simp; omega
    have hq : q = true := by rw [HN.out]; simp; omega
    subst hq
    have HG := hide (HGO.out rfl)
    clear HGO HST HN
    go_wp2
    go_roundw
    case rel => exact ⟨i + 1, by omega, by go_num, HG, trivial⟩
    case measure => simp [intOf]; omega
   by_cases y4 : 91 ≤ X
   ·have ga0 : decide ((97 : Int) ≤ (X : Int)) = false := decide_eq_false (by omega)
    have ga1 : decide ((65 : Int) ≤ (X : Int)) = true := decide_eq_true (by omega)
    have ga2 : decide ((48 : Int) ≤ (X : Int)) = true := decide_eq_true (by omega)
    have la0 : decide ((X : Int) ≤ 90) = false := decide_eq_false (by omega)
    have la1 : decide ((X : Int) ≤ 57) = false := decide_eq_false (by omega)
    have na0 : ((X : Int) != 46) = true := by simp; omega
    have nb0 : ((X : Int) == 46) = false := by simp; omega
    have na1 : ((X : Int) != 45) = true := by simp; omega
    have nb1 : ((X : Int) == 45) = false := by simp; omega
    have na2 : ((X : Int) != 95) = true := by simp; omega
    have nb2 : ((X : Int) == 95) = false := by simp; omega
    have hq : q = false := by rw [HN.out]; simp; omega
    subst hq
    obtain rfl := HST.out rfl
    clear HGO HST HN
    go_wp2
    go_ret
    exact ⟨rfl, rfl⟩
   by_cases y5 : 48 ≤ X ∧ X ≤ 57
   ·have ga0 : decide ((97 : Int) ≤ (X : Int)) = false := decide_eq_false (by omega)
    have ga1 : decide ((65 : Int) ≤ (X : Int)) = false := decide_eq_false (by omega)
    have ga2 : decide ((48 : Int) ≤ (X : Int)) = true := decide_eq_true (by omega)
    have la0 : decide ((X : Int) ≤ 57) = true := decide_eq_true (by omega)
    have hq : q = true := by rw [HN.out]; simp; omega
    subst hq
    have HG := hide (HGO.out rfl)
    clear HGO HST HN
    go_wp2
    go_roundw
    case rel => exact ⟨i + 1, by omega, by go_num, HG, trivial⟩
    case measure => simp [intOf]; omega
   by_cases y6 : 58 ≤ X
   ·have ga0 : decide ((97 : Int) ≤ (X : Int)) = false := decide_eq_false (by omega)
    have ga1 : decide ((65 : Int) ≤ (X : Int)) = false := decide_eq_false (by omega)
    have ga2 : decide ((48 : Int) ≤ (X : Int)) = true := decide_eq_true (by omega)
    have la0 : decide ((X : Int) ≤ 57) = false := decide_eq_false (by omega)
    have na0 : ((X : Int) != 46) = true := by simp; omega
    have nb0 : ((X : Int) == 46) = false := by simp; omega
    have na1 : ((X : Int) != 45) = true := by simp; omega
    have nb1 : ((X : Int) == 45) = false := by simp; omega
    have na2 : ((X : Int) != 95) = true := by simp; omega
    have nb2 : ((X : Int) == 95) = false := by simp; omega
    have hq : q = false := by rw [HN.out]; simp; omega
    subst hq
    obtain rfl := HST.out rfl
    clear HGO HST HN
    go_wp2
    go_ret
    exact ⟨rfl, rfl⟩
   by_cases y7 : X = 46
   ·have ga0 : decide ((97 : Int) ≤ (X : Int)) = false := decide_eq_false (by omega)
    have ga1 : decide ((65 : Int) ≤ (X : Int)) = false := decide_eq_false (by omega)
    have ga2 : decide ((48 : Int) ≤ (X : Int)) = false := decide_eq_false (by omega)
    have na0 : ((X : Int) != 46) = false := by simp; omega
    have nb0 : ((X : Int) == 46) = true := by simp; omega
    have hq : q = true := by rw [HN.out]; simp; omega
    subst hq
    have HG := hide (HGO.out rfl)
    clear HGO HST HN
    go_wp2
    go_roundw
    case rel => exact ⟨i + 1, by omega, by go_num, HG, trivial⟩
    case measure => simp [intOf]; omega
   by_cases y8 : X = 45
   ·have ga0 : decide ((97 : Int) ≤ (X : Int)) = false := decide_eq_false (by omega)
    have ga1 : decide ((65 : Int) ≤ (X : Int)) = false := decide_eq_false (by omega)
    have ga2 : decide ((48 : Int) ≤ (X : Int)) = false := decide_eq_false (by omega)
    have na0 : ((X : Int) != 46) = true := by simp; omega
    have nb0 : ((X : Int) == 46) = false := by simp; omega
    have na1 : ((X : Int) != 45) = false := by simp; omega
    have nb1 : ((X : Int) == 45) = true := by simp; omega
    have hq : q = true := by rw [HN.out]; simp; omega
    subst hq
    have HG := hide (HGO.out rfl)
    clear HGO HST HN
    go_wp2
    go_roundw
    case rel => exact ⟨i + 1, by omega, by go_num, HG, trivial⟩
    case measure => simp [intOf]; omega
   ·have ga0 : decide ((97 : Int) ≤ (X : Int)) = false := decide_eq_false (by omega)
    have ga1 : decide ((65 : Int) ≤ (X : Int)) = false := decide_eq_false (by omega)
    have ga2 : decide ((48 : Int) ≤ (X : Int)) = false := decide_eq_false (by omega)
    have na0 : ((X : Int) != 46) = true := by simp; omega
    have nb0 : ((X : Int) == 46) = false := by simp; omega
    have na1 : ((X : Int) != 45) = true := by simp; omega
    have nb1 : ((X : Int) == 45) = false := by simp; omega
    have na2 : ((X : Int) != 95) = true := by simp; omega
    have nb2 : ((X : Int) == 95) = false := by simp; omega
    have hq : q = false := by rw [HN.out]; simp; omega
    subst hq
    obtain rfl := HST.out rfl
    clear HGO HST HN
    go_wp2
    go_ret
    exact ⟨rfl, rfl⟩
  ·obtain rfl : i = s.length := by omega
   rw [List.take_length] at ha
   have HE : Hid (B = (decide (s ≠ []) && decide (s.length ≤ 24))) := by
    show _ = _
    rw [← HB.out]
    unfold nmOk
    rw [ha.out, Bool.and_true]
   by_cases h1 : 1 ≤ s.length
   ·have a1 : decide ((1 : Int) ≤ (s.length : Int)) = true := decide_eq_true (by omega)
    have hne : s ≠ [] := by intro e; subst e; simp at h1
    by_cases h2 : s.length ≤ 24
    ·have a2 : decide ((s.length : Int) ≤ 24) = true := decide_eq_true (by omega)
     obtain rfl : B = true := by rw [HE.out]; simp [hne, h2]
     clear hne
     go_wp2
     go_ret
     exact ⟨rfl, rfl⟩
    ·have a2 : decide ((s.length : Int) ≤ 24) = false := decide_eq_false (by omega)
     obtain rfl : B = false := by rw [HE.out]; simp [hne, h2]
     clear hne
     go_wp2
     go_ret
     exact ⟨rfl, rfl⟩
   ·have a1 : decide ((1 : Int) ≤ (s.length : Int)) = false := decide_eq_false (by omega)
    have hse : s = [] := List.eq_nil_of_length_eq_zero (by omega)
    obtain rfl : B = false := by rw [HE.out, hse]; simp
    clear hse
    go_wp2
    go_ret
    exact ⟨rfl, rfl⟩
end Go.Proofs.YtmpjeahibfdehaaGreatDoor
end
