/-
  THE WALK of DigestSpelt.
-/
import Derived.Test.YtldkpcklobjlbabDoorAwk
import Derived.Test.YtldkpcklobjlbabDoorSplY
set_option linter.unusedVariables false
namespace Go.Proofs.YtldkpcklobjlbabDoor
open Go.RowKit

def f64 (c : UInt8) : UInt8 := if c = 45 then 43 else if c = 95 then 47 else c
theorem l6_f : ∀ n : Fin 64, l6 n.val = f64 (lt n.val) := by decide +kernel
theorem l6f (n : Nat) (h : n < 64) : l6 n = f64 (lt n) := l6_f ⟨n, h⟩
theorem b64_sp : ∀ l : List UInt8, ∃ p, p ≤ 2 ∧ b64 l = (spR l 0 0).map f64 ++ List.replicate p 61
  | [] => ⟨0, by omega, by simp [b64, sp0]⟩
  | [x] => by
    have hx := x.toNat_lt
    refine ⟨2, by omega, ?_⟩
    rw [sp1, b64, l6f _ (by omega), l6f _ (by omega)]
    rfl
  | [x, y] => by
    have hx := x.toNat_lt
    have hy := y.toNat_lt
    refine ⟨1, by omega, ?_⟩
    rw [sp2, b64, l6f _ (by omega), l6f _ (by omega), l6f _ (by omega)]
    rfl
  | x :: y :: z :: r => by
    have hx := x.toNat_lt
    have hy := y.toNat_lt
    have hz := z.toNat_lt
    obtain ⟨p, hp, ih⟩ := b64_sp r
    refine ⟨p, hp, ?_⟩
    rw [sp3, b64, ih, fl, l6f _ (by omega), l6f _ (by omega), l6f _ (by omega), l6f _ (by omega)]
    simp

theorem run_ixs (w : World) (S : List UInt8) (k : Nat) (c : UInt8) (h : S[k]? = some c) : (Instr.index 9 (.string (str S)) (.int .i64 (k : Int))).run Tryd.prog w = .ok (.int .u8 (c.toNat : Int)) w := by
  rw [run_index_string w 9 (str S) .i64 (k : Int) Tryd.underlying9]
  have hk : k < S.length := (List.getElem?_eq_some_iff.1 h).1
  have hs : (str S).size = S.length := str_size S
  rw [dif_pos (by rw [hs]; omega)]
  have e2 : ((str S)[(k : Int).toNat]'(by rw [hs]; omega)) = c := by
    have : (S.toArray[k]'(by simpa using hk)) = c := by
      simpa using (List.getElem?_eq_some_iff.1 h).2
    exact this
  rw [e2]

set_option maxRecDepth 1000000 in
set_option maxHeartbeats 4000000 in
theorem spelt_core (a0 : Option Addr) (cap0 : Nat) (l0 : List UInt8) (w : World) (w0 : Bs w a0 cap0 l0) (hT : Tb w) (hb0 : ¬ 20000 < l0.length) (S T : List UInt8) (NS NT p : Nat) (hNS : S.length = NS) (hNT : T.length = NT) (hp : p ≤ 2) (hSp : NS = NT + p) (h4 : NS % 4 = 0) (hl : NS ≤ 1000000)
    (hin : ∀ k, k < NT → ∃ c, T[k]? = some c ∧ S[k]? = some (f64 c)) (hout : ∀ k, NT ≤ k → k < NS → S[k]? = some 61)
    (hbs : ∀ w, Bs w a0 cap0 l0 → Calls Tryd.prog 6 #[.slice a0 l0.length cap0] w fun e w' => e = .returned (.string (str S)) ∧ Below w.heap.size w w')
    (hsp : ∀ w, Bs w a0 cap0 l0 → Calls Tryd.prog 7 #[.slice a0 l0.length cap0] w fun e w' => e = .returned (.string (str T)) ∧ Below w.heap.size w w') :
    Calls Tryd.prog 3 #[.slice a0 l0.length cap0] w fun e w' => e = .returned (.bool true) ∧ Below w.heap.size w w' := by
  have hd0 : decide ((20000 : Int) < (l0.length : Int)) = false := decide_eq_false (by omega)
  have hl0 : l0.length ≤ 20000 := by omega
  have z1 : (str S).size = NS := by rw [str_size, hNS]
  have z2 : (str T).size = NT := by rw [str_size, hNT]
  have q4 : ((NS : Int) % 4 != 0) = false := by simp; omega
  have q4' : ((NS : Int).tmod 4 != 0) = false := by rw [Int.tmod_eq_emod_of_nonneg (by omega)]; exact q4
  have q5 : decide ((NS : Int) < (NT : Int)) = false := decide_eq_false (by omega)
  have q7 : NT ≤ NS := by omega
  have q8 : decide (NS < NT) = false := decide_eq_false (by omega)
  have q9 : NS ≤ NT + 2 := by omega
  have q6 : decide ((NT : Int) + 2 < (NS : Int)) = false := decide_eq_false (by omega)
  have HT := hide hT
  have H0 := hide w0
  have HI := hide hin
  have HO := hide hout
  have HB := hide hbs
  have HS := hide hsp
  have HSP := hide hSp
  clear hT w0 hin hout hbs hsp hNS hNT h4 hSp hb0
  go_enter Tryd.func3, Tryd.ntmps3
  go_wp2_with (first
    | (go_at_call 6; refine (HB.out w H0.out).mono ?_; rintro e w1 ⟨rfl, hb1⟩; have HB1 := hide hb1; clear hb1)
    | (go_at_call 7; refine (HS.out w1 (H0.out.below HB1.out (Nat.le_refl _))).mono ?_; rintro e w2 ⟨rfl, hb2⟩; have HB2 := hide (HB1.out.trans (hb2.mono HB1.out.size)); clear hb2))
  go_loopw [35] (fun v wr => ∃ k : Nat, k ≤ NS ∧ v = .int .i64 (k : Int) ∧ Hid (Below w.heap.size w wr)) (fun v _ => NS - (intOf v).toNat)
  case atStart => exact ⟨0, Nat.zero_le _, rfl, HB2⟩
  case round =>
    clear HB2
    obtain ⟨k, hk, rfl, hb⟩ := hrel
    by_cases hlt : k < NS
    · by_cases hkt : k < NT
      · obtain ⟨c, hc, hf⟩ := HI.out k hkt
        by_cases h45 : c = 45
        · subst h45
          have i1 := fun w => run_ixs w T k 45 hc
          have i2 := fun w => run_ixs w S k 43 hf
          have i1' : ∀ w, (Instr.index 9 (.string (str T)) (.int .i64 (k : Int))).run Tryd.prog w = .ok (.int .u8 45) w := i1
          have i2' : ∀ w, (Instr.index 9 (.string (str S)) (.int .i64 (k : Int))).run Tryd.prog w = .ok (.int .u8 43) w := i2
          clear i1 i2 hc hf
          go_wp2
          go_roundw
          case rel => exact ⟨k + 1, by omega, by go_num, hb⟩
          case measure => simp [intOf]; omega
        · by_cases h95 : c = 95
          · subst h95
            have i1' : ∀ w, (Instr.index 9 (.string (str T)) (.int .i64 (k : Int))).run Tryd.prog w = .ok (.int .u8 95) w := fun w => run_ixs w T k 95 hc
            have i2' : ∀ w, (Instr.index 9 (.string (str S)) (.int .i64 (k : Int))).run Tryd.prog w = .ok (.int .u8 47) w := fun w => run_ixs w S k 47 hf
            clear hc hf h45
            go_wp2
            go_roundw
            case rel => exact ⟨k + 1, by omega, by go_num, hb⟩
            case measure => simp [intOf]; omega
          · have ef : f64 c = c := by simp [f64, h45, h95]
            rw [ef] at hf
            have i1' := fun w => run_ixs w T k c hc
            have i2' := fun w => run_ixs w S k c hf
            have n1 : ((c.toNat : Int) == 45) = false := by
              simp only [beq_eq_false_iff_ne, ne_eq]
              intro h
              exact h45 (UInt8.toNat_inj.1 (by show c.toNat = 45; omega))
            have n2 : ((c.toNat : Int) == 95) = false := by
              simp only [beq_eq_false_iff_ne, ne_eq]
              intro h
              exact h95 (UInt8.toNat_inj.1 (by show c.toNat = 95; omega))
            clear hc hf h45 h95 ef
            go_wp2_with fail
            go_quiet (fail)
            go_wp2
            go_roundw
            case rel => exact ⟨k + 1, by omega, by go_num, bdrewN hb.out nq⟩
            case measure => simp [intOf]; omega
      · have hx := HO.out k (by omega) hlt
        have i2' : ∀ w, (Instr.index 9 (.string (str S)) (.int .i64 (k : Int))).run Tryd.prog w = .ok (.int .u8 61) w := fun w => run_ixs w S k 61 hx
        clear hx
        go_wp2
        go_roundw
        case rel => exact ⟨k + 1, by omega, by go_num, hb⟩
        case measure => simp [intOf]; omega
    · go_wp2_with (go_at_call 5; refine (awake_any _ (HT.out.below hb.out HT.out.big)).mono ?_; rintro e w9 ⟨rfl, hb9⟩)
      go_ret
      exact ⟨rfl, hb.out.trans (hb9.mono hb.out.size)⟩

theorem digestSpelt_walk (a0 : Option Addr) (cap0 : Nat) (l0 : List UInt8) (w : World) (w0 : Bs w a0 cap0 l0) (hT : Tb w) :
    Calls Tryd.prog 3 #[.slice a0 l0.length cap0] w fun e w' => e = .returned (.bool true) ∧ Below w.heap.size w w' := by
  by_cases hb0 : 20000 < l0.length
  · have hm0 : l0.length ≤ maxLen := Nat.le_trans w0.le w0.most
    unfold maxLen at hm0
    have HT := hide hT
    clear hT
    go_enter Tryd.func3, Tryd.ntmps3
    go_wp2_with (go_at_call 5; refine (awake_any _ HT.out).mono ?_; rintro e w9 ⟨rfl, hb9⟩)
    go_ret
    exact ⟨rfl, hb9⟩
  · obtain ⟨p, hp, he⟩ := b64_sp l0
    have hbl := b64_length l0
    have hl : (b64 l0).length = (spR l0 0 0).length + p := by rw [he]; simp
    refine spelt_core a0 cap0 l0 w w0 hT hb0 (b64 l0) (spR l0 0 0) _ _ p rfl rfl hp hl (by omega) (by omega) ?_ ?_ (fun w h => base64_any a0 cap0 l0 w h (by omega)) (fun w h => spell_any a0 cap0 l0 w h (by omega))
    · intro k hk
      refine ⟨(spR l0 0 0)[k], by simp [hk], ?_⟩
      rw [he, List.getElem?_append_left (by simpa using hk)]
      simp [hk]
    · intro k h1 h2
      have h3 : k - ((spR l0 0 0).map f64).length < p := by rw [List.length_map]; omega
      rw [he, List.getElem?_append_right (by simpa using h1), List.getElem?_replicate, if_pos h3]
#print axioms digestSpelt_walk
end Go.Proofs.YtldkpcklobjlbabDoor
