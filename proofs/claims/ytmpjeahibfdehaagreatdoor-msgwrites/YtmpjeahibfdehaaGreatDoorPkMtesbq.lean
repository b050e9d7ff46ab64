/-
  jsonx: the document's own Digits, of every number.
-/
import Derived.Test.YtmpjeahibfdehaaGreatDoorPkMtesbp
import Derived.Lib.ItoaNum
import Derived.Lib.ItoaLen
import Derived.Lib.ItoaMem
section
set_option linter.unusedVariables false
set_option maxRecDepth 1000000
namespace Go.Proofs.YtmpjeahibfdehaaGreatDoor
open Go.RowKit

/-- The digits that are still to come. -/
def preD (m : Nat) : List UInt8 := if m = 0 then [] else Lib.decDigits m
theorem preD_step (m : Nat) (h : 0 < m) : preD m = preD (m / 10) ++ [UInt8.ofNat (48 + m % 10)] := by
 unfold preD
 rw [if_neg (by omega)]
 by_cases h10 : m < 10
 ·rw [Lib.decDigits_one h10, if_pos (by omega), Nat.mod_eq_of_lt h10]; rfl
 ·rw [Lib.decDigits, dif_neg h10, if_neg (by omega)]
theorem tdN (m : Nat) : (-(m : Int)).tdiv 10 = -((m / 10 : Nat) : Int) := by rw [Int.neg_tdiv, Int.tdiv_eq_ediv_of_nonneg (by omega)]; omega
theorem tmN (m : Nat) : (-(m : Int)).tmod 10 = -((m % 10 : Nat) : Int) := by rw [Int.neg_tmod, Int.tmod_eq_emod_of_nonneg (by omega)]; omega
theorem str_appJ (x y : List UInt8) : str x ++ str y = str (x ++ y) := by
 apply ByteArray.ext
 simp [str, ByteArray.data_append]
set_option maxHeartbeats 4000000 in
theorem rdigits_pos (n : Nat) (h0 : 0 < n) (hn : n ≤ 9223372036854775807) (w : World) :
  Calls Tryz.prog 85 #[.int .i64 ((n : Int))] w fun e w' => e = .returned (.string (str (Lib.decDigits n))) ∧ Hid (Below w.heap.size w w') := by
 have e0 : (((n : Int)) == 0) = false := by rw [beq_eq_false_iff_ne]; omega
 have e1 : ¬ ((n : Int)) < 0 := by omega
 obtain ⟨X, hX⟩ : ∃ X, X = Lib.decDigits n := ⟨_, rfl⟩
 rw [← hX]
 have HX : Hid (X = preD n ++ []) := by show _ = _; unfold preD; rw [if_neg (by omega), List.append_nil]; exact hX
 have hXl : X.length ≤ 21 := by
  have := Lib.itoa_length_le ((n : Int)) (by omega) (by omega)
  rw [Lib.itoa_nonneg n] at this
  rw [hX]
  exact this
 obtain ⟨N, hN⟩ : ∃ N : Int, N = (n : Int) := ⟨_, rfl⟩
 rw [← hN] at e0 e1 ⊢
 have HN := hide hN
 clear hX hN h0
 go_enter Tryz.func85, Tryz.ntmps85
 go_wp2
 go_loopw [0, 3] (fun v s wr => ∃ (m : Nat) (V : Int) (o : List UInt8), v = .int .i64 V ∧ Hid (V = (m : Int)) ∧ s = .string (str o) ∧ m ≤ n ∧ o.length ≤ 21 ∧ Hid (X = preD m ++ o) ∧ Hid (Below w.heap.size w wr)) (fun v _ _ => (intOf v).natAbs)
 case atStart => exact ⟨n, N, [], rfl, HN, rfl, Nat.le_refl _, by simp, HX, Below.refl _ _⟩
 case round =>
  clear HX
  obtain ⟨m, M, o, rfl, HM, rfl, hm, hol, HO, HB⟩ := hrel
  by_cases h0 : m = 0
  ·have hM0 : M = 0 := by rw [uh HM, h0]; rfl
   have HF : Hid (o = X) := by show _ = _; rw [uh HO, h0]; rfl
   subst hM0
   clear h0 HM
   have zo : (str o).size = o.length := str_size o
   go_wp2
   go_ret
   exact ⟨by rw [← uh HF]; rfl, HB⟩
  ·have hM0 : (M != 0) = true := by rw [bne_iff_ne, uh HM]; omega
   obtain ⟨d, hd⟩ : ∃ d, d = m % 10 := ⟨_, rfl⟩
   obtain ⟨m', hm'⟩ : ∃ m', m' = m / 10 := ⟨_, rfl⟩
   obtain ⟨M', hM'⟩ : ∃ M' : Int, M' = (m' : Int) := ⟨_, rfl⟩
   obtain ⟨E, hE⟩ : ∃ E : Int, E = (d : Int) := ⟨_, rfl⟩
   have hd10 : d < 10 := by omega
   have hMb := uh HM
   have t1 : M.tmod 10 = E := by rw [hMb, hE, hd]; rw [Int.tmod_eq_emod_of_nonneg (by omega)]; omega
   have t2 : M.tdiv 10 = M' := by rw [hMb, hM', hm']; rw [Int.tdiv_eq_ediv_of_nonneg (by omega)]; omega
   have t5 : wrap64 M' = M' := IntWalk.wrap64_in _ (by omega)
   have t7 : wrap64 E = E := IntWalk.wrap64_in _ (by omega)
   have t6 : wrap64 (-E) = -E := IntWalk.wrap64_in _ (by omega)
   obtain ⟨x, hx⟩ : ∃ x, x = UInt8.ofNat (48 + d) := ⟨_, rfl⟩
   have hxn : x.toNat = 48 + d := by rw [hx, UInt8.toNat_ofNat']; omega
   have HO2 : Hid (X = preD m' ++ ([x] ++ o)) := by
    show _ = _
    rw [uh HO, preD_step m (by omega), List.append_assoc, hx, hd, hm']
   have hol2 : ([x] ++ o).length ≤ 21 := by
    have := congrArg List.length (uh HO2)
    simp at this
    simp
    omega
   have hcat : str [x] ++ str o = str ([x] ++ o) := str_appJ [x] o
   have zo : (str o).size = o.length := str_size o
   have zx : (str [x]).size = 1 := str_size [x]
   have kc : (convert 80 9 (.slice (some ⟨wr.heap.size, 0, none⟩) 1 1)).run Tryz.prog (wr.alloc (.cells #[.int .u8 (x.toNat : Int)] 5)) = .ok (.string (str [x])) (wr.alloc (.cells #[.int .u8 (x.toNat : Int)] 5)) := run_str _ _ _ _ _ (row_lit wr _ x rfl) rfl
   have HB2 : Hid (Below w.heap.size w (wr.alloc (.cells #[.int .u8 (x.toNat : Int)] 5))) := (uh HB).alloc (uh HB).size _
   have HM2 : Hid (M' = (m' : Int)) := hM'
   have HZ : Hid (M'.natAbs < M.natAbs ∧ m' ≤ n) := by show _ ∧ _; rw [hM', hMb]; omega
   have hMr : -9223372036854775808 ≤ M ∧ M ≤ 9223372036854775807 := by omega
   by_cases hEn : E < 0
   ·have t4 : IntKind.u8.wrap (48 + -E) = (x.toNat : Int) := by rw [hxn]; simp [IntKind.wrap, IntKind.bits, IntKind.signed]; omega
    have hEr : -9 ≤ E := by omega
    clear hd hm' hx hxn hd10 h0 HO HM hMb hM' hE hm
    generalize [x] ++ o = q at *
    go_wp2
    go_roundw
    case rel => exact ⟨m', M', q, by first | rfl | rw [t5], HM2, rfl, (uh HZ).2, hol2, HO2, HB2⟩
    case measure => have h9 := (uh HZ).1; first | exact h9 | (rw [t5]; exact h9)
   ·have t4 : IntKind.u8.wrap (48 + E) = (x.toNat : Int) := by rw [hxn]; simp [IntKind.wrap, IntKind.bits, IntKind.signed]; omega
    have hEr : E ≤ 9 := by omega
    clear hd hm' hx hxn hd10 h0 HO HM hMb hM' hE hm
    generalize [x] ++ o = q at *
    go_wp2
    go_roundw
    case rel => exact ⟨m', M', q, by first | rfl | rw [t5], HM2, rfl, (uh HZ).2, hol2, HO2, HB2⟩
    case measure => have h9 := (uh HZ).1; first | exact h9 | (rw [t5]; exact h9)
set_option maxHeartbeats 4000000 in
theorem rdigits_neg (n : Nat) (h0 : 0 < n) (hn : n ≤ 9223372036854775808) (w : World) :
  Calls Tryz.prog 85 #[.int .i64 (-(n : Int))] w fun e w' => e = .returned (.string (str (45 :: Lib.decDigits n))) ∧ Hid (Below w.heap.size w w') := by
 have e0 : ((-(n : Int)) == 0) = false := by rw [beq_eq_false_iff_ne]; omega
 have e1 : (-(n : Int)) < 0 := by omega
 obtain ⟨X, hX⟩ : ∃ X, X = Lib.decDigits n := ⟨_, rfl⟩
 rw [← hX]
 have HX : Hid (X = preD n ++ []) := by show _ = _; unfold preD; rw [if_neg (by omega), List.append_nil]; exact hX
 have hXl : X.length ≤ 21 := by
  have := Lib.itoa_length_le (-(n : Int)) (by omega) (by omega)
  rw [Lib.itoa_neg n (by omega)] at this
  rw [hX]
  simp at this; omega
 obtain ⟨N, hN⟩ : ∃ N : Int, N = -(n : Int) := ⟨_, rfl⟩
 rw [← hN] at e0 e1 ⊢
 have HN := hide hN
 clear hX hN h0
 go_enter Tryz.func85, Tryz.ntmps85
 go_wp2
 go_loopw [0, 3] (fun v s wr => ∃ (m : Nat) (V : Int) (o : List UInt8), v = .int .i64 V ∧ Hid (V = -(m : Int)) ∧ s = .string (str o) ∧ m ≤ n ∧ o.length ≤ 21 ∧ Hid (X = preD m ++ o) ∧ Hid (Below w.heap.size w wr)) (fun v _ _ => (intOf v).natAbs)
 case atStart => exact ⟨n, N, [], rfl, HN, rfl, Nat.le_refl _, by simp, HX, Below.refl _ _⟩
 case round =>
  clear HX
  obtain ⟨m, M, o, rfl, HM, rfl, hm, hol, HO, HB⟩ := hrel
  by_cases h0 : m = 0
  ·have hM0 : M = 0 := by rw [uh HM, h0]; rfl
   have HF : Hid (o = X) := by show _ = _; rw [uh HO, h0]; rfl
   subst hM0
   clear h0 HM
   have zo : (str o).size = o.length := str_size o
   have hsum : ∀ w, (Op.stringOp .add (⟨#[45]⟩ : ByteArray) (str o)).run Tryz.prog w = .ok (.string (str (45 :: o))) w := fun w => by
    rw [← show (⟨#[45]⟩ : ByteArray) ++ str o = str (45 :: o) from str_appJ [45] o]; exact run_string_add_sum w _ _ (by rw [str_size]; show 1 + _ ≤ _; omega)
   go_wp2
   go_ret
   exact ⟨by rw [← uh HF]; rfl, HB⟩
  ·have hM0 : (M != 0) = true := by rw [bne_iff_ne, uh HM]; omega
   obtain ⟨d, hd⟩ : ∃ d, d = m % 10 := ⟨_, rfl⟩
   obtain ⟨m', hm'⟩ : ∃ m', m' = m / 10 := ⟨_, rfl⟩
   obtain ⟨M', hM'⟩ : ∃ M' : Int, M' = -(m' : Int) := ⟨_, rfl⟩
   obtain ⟨E, hE⟩ : ∃ E : Int, E = -(d : Int) := ⟨_, rfl⟩
   have hd10 : d < 10 := by omega
   have hMb := uh HM
   have t1 : M.tmod 10 = E := by rw [hMb, hE, hd]; exact tmN m
   have t2 : M.tdiv 10 = M' := by rw [hMb, hM', hm']; exact tdN m
   have t5 : wrap64 M' = M' := IntWalk.wrap64_in _ (by omega)
   have t7 : wrap64 E = E := IntWalk.wrap64_in _ (by omega)
   have t6 : wrap64 (-E) = -E := IntWalk.wrap64_in _ (by omega)
   obtain ⟨x, hx⟩ : ∃ x, x = UInt8.ofNat (48 + d) := ⟨_, rfl⟩
   have hxn : x.toNat = 48 + d := by rw [hx, UInt8.toNat_ofNat']; omega
   have HO2 : Hid (X = preD m' ++ ([x] ++ o)) := by
    show _ = _
    rw [uh HO, preD_step m (by omega), List.append_assoc, hx, hd, hm']
   have hol2 : ([x] ++ o).length ≤ 21 := by
    have := congrArg List.length (uh HO2)
    simp at this
    simp
    omega
   have hcat : str [x] ++ str o = str ([x] ++ o) := str_appJ [x] o
   have zo : (str o).size = o.length := str_size o
   have zx : (str [x]).size = 1 := str_size [x]
   have kc : (convert 80 9 (.slice (some ⟨wr.heap.size, 0, none⟩) 1 1)).run Tryz.prog (wr.alloc (.cells #[.int .u8 (x.toNat : Int)] 5)) = .ok (.string (str [x])) (wr.alloc (.cells #[.int .u8 (x.toNat : Int)] 5)) := run_str _ _ _ _ _ (row_lit wr _ x rfl) rfl
   have HB2 : Hid (Below w.heap.size w (wr.alloc (.cells #[.int .u8 (x.toNat : Int)] 5))) := (uh HB).alloc (uh HB).size _
   have HM2 : Hid (M' = -(m' : Int)) := hM'
   have HZ : Hid (M'.natAbs < M.natAbs ∧ m' ≤ n) := by show _ ∧ _; rw [hM', hMb]; omega
   have hMr : -9223372036854775808 ≤ M ∧ M ≤ 9223372036854775807 := by omega
   by_cases hEn : E < 0
   ·have t4 : IntKind.u8.wrap (48 + -E) = (x.toNat : Int) := by rw [hxn]; simp [IntKind.wrap, IntKind.bits, IntKind.signed]; omega
    have hEr : -9 ≤ E := by omega
    clear hd hm' hx hxn hd10 h0 HO HM hMb hM' hE hm
    generalize [x] ++ o = q at *
    go_wp2
    go_roundw
    case rel => exact ⟨m', M', q, by first | rfl | rw [t5], HM2, rfl, (uh HZ).2, hol2, HO2, HB2⟩
    case measure => have h9 := (uh HZ).1; first | exact h9 | (rw [t5]; exact h9)
   ·have t4 : IntKind.u8.wrap (48 + E) = (x.toNat : Int) := by rw [hxn]; simp [IntKind.wrap, IntKind.bits, IntKind.signed]; omega
    have hEr : E ≤ 9 := by omega
    clear hd hm' hx hxn hd10 h0 HO HM hMb hM' hE hm
    generalize [x] ++ o = q at *
    go_wp2
    go_roundw
    case rel => exact ⟨m', M', q, by first | rfl | rw [t5], HM2, rfl, (uh HZ).2, hol2, HO2, HB2⟩
    case measure => have h9 := (uh HZ).1; first | exact h9 | (rw [t5]; exact h9)
theorem rdigits_any (n : Int) (h1 : -9223372036854775808 ≤ n) (h2 : n ≤ 9223372036854775807) (w : World) :
  Calls Tryz.prog 85 #[.int .i64 n] w fun e w' => e = .returned (.string (str (Lib.itoa n))) ∧ Hid (Below w.heap.size w w') := by
 by_cases h : n < 0
 ·obtain ⟨k, rfl⟩ : ∃ k : Nat, n = -(k : Int) := ⟨n.natAbs, by omega⟩
  rw [Lib.itoa_neg k (by omega)]
  exact rdigits_neg k (by omega) (by omega) w
 ·obtain ⟨k, rfl⟩ : ∃ k : Nat, n = (k : Int) := ⟨n.toNat, by omega⟩
  rw [Lib.itoa_nonneg]
  by_cases h0 : k = 0
  ·subst h0
   have e : Lib.decDigits 0 = [48] := by rw [Lib.decDigits_one (by decide)]; rfl
   rw [e]
   go_enter Tryz.func85, Tryz.ntmps85
   go_wp2
   go_ret
   exact ⟨rfl, Below.refl _ _⟩
  ·exact rdigits_pos k (by omega) (by omega) w
end Go.Proofs.YtmpjeahibfdehaaGreatDoor
end
