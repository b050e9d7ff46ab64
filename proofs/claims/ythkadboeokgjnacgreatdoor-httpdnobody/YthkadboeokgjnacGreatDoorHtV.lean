/-
  httpd's reader: a byte of a chunk's line.
-/
import Derived.Test.YthkadboeokgjnacGreatDoorHtT
import Derived.Deep.RegionHeld3
import Derived.Deep.RegionLaw
import Derived.Deep.DeepCutAuto
set_option linter.unusedVariables false
set_option maxRecDepth 1000000
namespace Go.Proofs.YthkadboeokgjnacGreatDoor
open Go.RowKit

def digB (c : UInt8) : Bool := decide (48 ≤ c.toNat) && decide (c.toNat ≤ 57)
theorem isDigit_any (c : UInt8) (w : World) : Calls Tryz.prog 51 #[.int .u8 (c.toNat : Int)] w fun e w' => e = .returned (.bool (digB c)) ∧ w' = w := by
  obtain ⟨x, hx⟩ : ∃ x, x = c.toNat := ⟨_, rfl⟩
  have hD : Hid (digB c = (decide (48 ≤ x) && decide (x ≤ 57))) := by show _ = _; unfold digB; rw [hx]
  rw [← hx]
  clear hx
  by_cases h1 : 48 ≤ x
  · have h1' : (48 : Int) ≤ (x : Int) := by omega
    by_cases h2 : x ≤ 57
    · have h2' : (x : Int) ≤ 57 := by omega
      have HR : Hid (digB c = true) := by show _ = _; rw [unhide hD, decide_eq_true h1, decide_eq_true h2]; rfl
      clear h1 h2
      go_enter Tryz.func51, Tryz.ntmps51
      go_wp2
      go_ret
      exact ⟨by rw [unhide HR]; rfl, rfl⟩
    · have h2' : ¬ (x : Int) ≤ 57 := by omega
      have HR : Hid (digB c = false) := by show _ = _; rw [unhide hD, decide_eq_true h1, decide_eq_false h2]; rfl
      clear h1 h2
      go_enter Tryz.func51, Tryz.ntmps51
      go_wp2
      go_ret
      exact ⟨by rw [unhide HR]; rfl, rfl⟩
  · have h1' : ¬ (48 : Int) ≤ (x : Int) := by omega
    have HR : Hid (digB c = false) := by show _ = _; rw [unhide hD, decide_eq_false h1]; rfl
    clear h1
    go_enter Tryz.func51, Tryz.ntmps51
    go_wp2
    go_ret
    exact ⟨by rw [unhide HR]; rfl, rfl⟩
#print axioms isDigit_any
set_option maxHeartbeats 2000000 in
theorem hexDigit_any (c : UInt8) (w : World) : Calls Tryz.prog 33 #[.int .u8 (c.toNat : Int)] w fun e w' => e = .returned (.tuple #[.int .u32 (((hexB c).getD 0 : Nat) : Int), .bool (hexB c).isSome]) ∧ w' = w := by
  have HD := hide (isDigit_any c w)
  obtain ⟨x, hx⟩ : ∃ x, x = c.toNat := ⟨_, rfl⟩
  have hD : digB c = (decide (48 ≤ x) && decide (x ≤ 57)) := by unfold digB; rw [hx]
  have hl : x < 256 := by rw [hx]; exact c.toNat_lt
  have HH : Hid (hexB c = if 48 ≤ x ∧ x ≤ 57 then some (x - 48) else if 97 ≤ x ∧ x ≤ 102 then some (x - 97 + 10) else if 65 ≤ x ∧ x ≤ 70 then some (x - 65 + 10) else none) := by show _ = _; unfold hexB; rw [← hx]
  rw [hD] at HD
  rw [← hx] at HD ⊢
  obtain ⟨y, hy⟩ : ∃ y, hexB c = y := ⟨_, rfl⟩
  rw [hy] at HH ⊢
  clear hx hD hy
  by_cases h1 : 48 ≤ x ∧ x ≤ 57
  · have hb : (decide (48 ≤ x) && decide (x ≤ 57)) = true := by rw [decide_eq_true h1.1, decide_eq_true h1.2]; rfl
    rw [hb] at HD
    have HR : Hid (y = some (x - 48)) := by show _ = _; rw [unhide HH, if_pos h1]
    obtain ⟨z, hz⟩ : ∃ z, x - 48 = z := ⟨_, rfl⟩
    have e1 : (x : Int) - 48 = (z : Int) := by omega
    have hzl : z ≤ 9 := by omega
    rw [hz] at HR
    clear h1 hb hz HH
    go_enter Tryz.func33, Tryz.ntmps33
    go_wp2_with (go_at_call 51; refine (unhide HD).mono ?_; rintro e w2 ⟨rfl, rfl⟩)
    go_ret2
    exact ⟨by rw [unhide HR]; rfl, rfl⟩
  · have hb : (decide (48 ≤ x) && decide (x ≤ 57)) = false := by
      cases h : (decide (48 ≤ x) && decide (x ≤ 57))
      · rfl
      · simp at h; exact absurd h h1
    rw [hb] at HD
    by_cases h2 : 97 ≤ x ∧ x ≤ 102
    · have HR : Hid (y = some (x - 97 + 10)) := by show _ = _; rw [unhide HH, if_neg h1, if_pos h2]
      obtain ⟨z, hz⟩ : ∃ z, x - 97 = z := ⟨_, rfl⟩
      have e1 : (x : Int) - 97 = (z : Int) := by omega
      have hzl : z ≤ 5 := by omega
      have d1 : (97 : Int) ≤ (x : Int) := by omega
      have d2 : (x : Int) ≤ 102 := by omega
      rw [hz] at HR
      clear h1 hb hz HH h2
      go_enter Tryz.func33, Tryz.ntmps33
      go_wp2_with (go_at_call 51; refine (unhide HD).mono ?_; rintro e w2 ⟨rfl, rfl⟩)
      go_ret2
      exact ⟨by rw [unhide HR]; rfl, rfl⟩
    · have d0 : (decide ((97 : Int) ≤ (x : Int)) && decide ((x : Int) ≤ 102)) = false := by
        cases h : (decide ((97 : Int) ≤ (x : Int)) && decide ((x : Int) ≤ 102))
        · rfl
        · simp at h; omega
      by_cases h3 : 65 ≤ x ∧ x ≤ 70
      · have HR : Hid (y = some (x - 65 + 10)) := by show _ = _; rw [unhide HH, if_neg h1, if_neg h2, if_pos h3]
        obtain ⟨z, hz⟩ : ∃ z, x - 65 = z := ⟨_, rfl⟩
        have e1 : (x : Int) - 65 = (z : Int) := by omega
        have hzl : z ≤ 5 := by omega
        have d1 : (65 : Int) ≤ (x : Int) := by omega
        have d2 : (x : Int) ≤ 70 := by omega
        have d3 : ¬ (97 : Int) ≤ (x : Int) := by omega
        rw [hz] at HR
        clear h1 hb hz HH h2 h3 d0
        go_enter Tryz.func33, Tryz.ntmps33
        go_wp2_with (go_at_call 51; refine (unhide HD).mono ?_; rintro e w2 ⟨rfl, rfl⟩)
        go_ret2
        exact ⟨by rw [unhide HR]; rfl, rfl⟩
      · have HR : Hid (y = none) := by show _ = _; rw [unhide HH, if_neg h1, if_neg h2, if_neg h3]
        clear h1 hb HH d0
        have d97 : ¬ (97 : Int) ≤ (x : Int) ∨ ((97 : Int) ≤ (x : Int) ∧ ¬ (x : Int) ≤ 102) := by omega
        have d65 : ¬ (65 : Int) ≤ (x : Int) ∨ ((65 : Int) ≤ (x : Int) ∧ ¬ (x : Int) ≤ 70) := by omega
        clear h2 h3
        rcases d97 with d97 | ⟨d97, d97'⟩ <;> rcases d65 with d65 | ⟨d65, d65'⟩
        any_goals (exfalso; omega)
        all_goals
          go_enter Tryz.func33, Tryz.ntmps33
          go_wp2_with (go_at_call 51; refine (unhide HD).mono ?_; rintro e w2 ⟨rfl, rfl⟩)
          go_ret2
          exact ⟨by rw [unhide HR]; rfl, rfl⟩
#print axioms hexDigit_any
theorem hex_or (n x : Nat) (hn : n < 268435456) (hx : x < 16) : bits .or .u32 ((n : Int) * 16) (x : Int) = ((n * 16 + x : Nat) : Int) := by
  have e1 := u32_or_nat (n * 16) x (by omega) (by omega)
  rw [nat_join 4 _ _ (by omega) (by omega)] at e1
  rw [← e1]
  rfl
set_option maxHeartbeats 4000000 in
theorem take_chunk (R : HdM) (w : World) (g : Nat → Nat) (r : Nat) (tk : Value) (n d : Nat) (Q : Rq) (hp : Option Addr) (hc : Nat) (bp : Option Addr) (bc : Nat) (c : UInt8) (a b e : Nat)
    (h : RdB w g r tk Q hp hc bp bc) (h1 : Bx w a (.int .i64 (d : Int))) (g1 : g a = 2) (h2 : Bx w b (.int .u32 (n : Int))) (g2 : g b = 7) (h3 : Bx w e (pt r)) (g3 : g e = 6) (hn : n < 16 ^ d) (hd : d ≤ 8)
    (htk : tk = .func (.func 32) #[] #[pt a, pt b, pt e]) :
    Calls Tryz.prog 32 #[.int .u8 (c.toNat : Int), pt a, pt b, pt e] w fun e w' => Ret w g r (stepM R (.chunk n d) Q c) e w' := by
  have c1 := h1.cell
  have f1 := h1.fz
  have c2 := h2.cell
  have f2 := h2.fz
  have c3 := h3.cell
  have hab : a ≠ b := by rintro rfl; omega
  have HD := hide (hexDigit_any c w)
  have hnn : n < 4294967296 := by
    have : 16 ^ d ≤ 16 ^ 8 := Nat.pow_le_pow_right (by decide) hd
    omega
  have HH := hide h
  have HBX := hide (show Bx w a (.int .i64 (d : Int)) ∧ Bx w b (.int .u32 (n : Int)) ∧ Bx w e (pt r) from ⟨h1, h2, h3⟩)
  clear h h1 h2 h3
  cases hx : hexB c with
  | some x =>
    have hxl := hexB_lt c x hx
    by_cases h8 : d < 8
    · have h8' : (d : Int) < 8 := by omega
      have HS : Hid (stepM R (.chunk n d) Q c = (1, .chunk (n * 16 + x) (d + 1), Q)) := by
        show _ = _
        unfold stepM
        simp only [hx, if_pos h8]
      have hn7 : n < 268435456 := by
        have : 16 ^ d ≤ 16 ^ 7 := Nat.pow_le_pow_right (by decide) (by omega)
        omega
      have hor := hex_or n x hn7 hxl
      obtain ⟨M, hM⟩ : ∃ M, n * 16 + x = M := ⟨_, rfl⟩
      have hMl : M < 16 ^ (d + 1) := by rw [← hM, Nat.pow_succ]; omega
      rw [hM] at hor HS
      obtain ⟨V, hV⟩ : ∃ V, V = ((w.setCell ⟨b, 0, none⟩ (.int .u32 (M : Int))).setCell ⟨a, 0, none⟩ (.int .i64 ((d : Int) + 1))).drew := ⟨_, rfl⟩
      have heq : ∀ k : Nat, V.heap[k]? = ((w.setCell ⟨b, 0, none⟩ (.int .u32 (M : Int))).setCell ⟨a, 0, none⟩ (.int .i64 ((d : Int) + 1))).heap[k]? := fun k => by rw [hV]; rfl
      have HR : Hid (RdB V g r tk Q hp hc bp bc) := by
        have := ((unhide HH).setBox b (.int .u32 (M : Int)) (.inr g2)).setBox a (.int .i64 ((d : Int) + 1)) (.inl g1)
        exact this.same (fun k hk => by rw [hV]; exact this.inb k hk) (fun k _ => ⟨heq k, rfl⟩)
      have HX : Hid (stV g V r (.chunk M (d + 1)) tk) := by
        obtain ⟨h1, h2, h3⟩ := unhide HBX
        refine ⟨a, b, e, htk, ?_, g1, ?_, g2, ?_, g3, hMl, by omega⟩
        · exact ((h1.setOther (u := .int .u32 (M : Int)) hab).set (.int .i64 ((d : Int) + 1))).of (heq a)
        · exact ((h2.set (.int .u32 (M : Int))).setOther (u := .int .i64 ((d : Int) + 1)) hab.symm).of (heq b)
        · exact ((h3.setOther (u := .int .u32 (M : Int)) (by rintro rfl; omega)).setOther (u := .int .i64 ((d : Int) + 1)) (by rintro rfl; omega)).of (heq e)
      have HK : Hid (Kp w V (fun k => g k ≠ 0)) := by
        have k1 := (kp_box w g b (.int .u32 (M : Int)) (by omega)).trans (kp_box (w.setCell ⟨b, 0, none⟩ (.int .u32 (M : Int))) g a (.int .i64 ((d : Int) + 1)) (by omega))
        exact k1.trans (Kp.of (by rw [hV]; exact (Below.refl _ _).drew))
      rw [hx] at HD
      clear hx h8 heq hM
      go_enter Tryz.func32, Tryz.ntmps32
      go_upto_region 3 with (go_at_call 33; refine (unhide HD).mono ?_; rintro e w2 ⟨rfl, rfl⟩)
      go_region
      rw [← hV]
      clear hV
      go_wp2
      go_ret
      rw [unhide HS]
      exact ⟨rfl, g, tk, hp, hc, bp, bc, unhide HR, fun _ => unhide HX, unhide HK, fun _ _ h => h⟩
    · have h8' : ¬ (d : Int) < 8 := by omega
      have hc13 : ((c.toNat : Int) == 13) = false := by
        rw [beq_eq_false_iff_ne]
        intro h
        have : c.toNat = 13 := by omega
        unfold hexB at hx
        rw [this] at hx
        simp at hx
      have HS : Hid (stepM R (.chunk n d) Q c = (400, .chunk n d, Q)) := by
        show _ = _
        unfold stepM
        simp only [hx, if_neg h8]
        rw [if_neg (by rintro ⟨rfl, _⟩; simp at hc13)]
      rw [hx] at HD
      clear hx h8
      go_enter Tryz.func32, Tryz.ntmps32
      go_wp2_with (go_at_call 33; refine (unhide HD).mono ?_; rintro e w2 ⟨rfl, rfl⟩)
      go_ret
      rw [unhide HS]
      exact ⟨rfl, g, tk, hp, hc, bp, bc, unhide HH, fun e => (by cases e), Kp.of (Below.refl _ _), fun _ _ h => h⟩
  | none =>
    rw [hx] at HD
    by_cases h13 : c = 13 ∧ 0 < d
    · have hc13 : ((c.toNat : Int) == 13) = true := by rw [h13.1]; rfl
      have hd0 : (0 : Int) < (d : Int) := by have := h13.2; omega
      have HS : Hid (stepM R (.chunk n d) Q c = (1, .text [10] 0 (.cb n), Q)) := by
        show _ = _
        unfold stepM
        simp only [hx, if_pos h13]
      have hG : RdB w (fun k => if k = b then 6 else g k) r tk Q hp hc bp bc := (unhide HH).same (fun k hk => by
          by_cases e : k = b
          · rw [e]; exact (unhide HBX).2.1.lt
          · simp only [if_neg e] at hk; exact (unhide HH).inb k hk) (fun k hk => ⟨rfl, by
          have : k ≠ b := by rintro rfl; omega
          simp only [if_neg this]⟩)
      have HT := hide (text_any w (fun k => if k = b then 6 else g k) r tk (.func (.func 35) #[] #[pt e, pt b]) (.cb n) [10] Q hp hc bp bc hG ⟨e, b, rfl, (unhide HBX).2.2, by
          have : e ≠ b := by rintro rfl; omega
          simp only [if_neg this]; exact g3, (unhide HBX).2.1, by simp, hnn⟩ (by decide) (by decide))
      clear hx h13 hG
      go_enter Tryz.func32, Tryz.ntmps32
      go_wp2_with (first
        | (go_at_call 33; refine (unhide HD).mono ?_; rintro e w2 ⟨rfl, rfl⟩)
        | (go_at_call 34; refine (unhide HT).mono ?_; rintro e w2 ⟨rfl, hr2⟩))
      go_ret
      rw [unhide HS]
      have hb0 : g b ≠ 0 := by omega
      have := Res.ret (x := (1, .text [10] 0 (.cb n))) ⟨rfl, hr2⟩
      obtain ⟨he, g', tk', p1, p2, p3, p4, k1, k2, k3, k4⟩ := this
      refine ⟨rfl, g', tk', p1, p2, p3, p4, k1, k2, k3.mono (fun k hk => ?_), fun k hk h0 => k4 k hk ?_⟩
      · by_cases e : k = b
        · rw [e]; exact hb0
        · simpa only [if_neg e] using hk
      · have : k ≠ b := by rintro rfl; exact hb0 h0
        simp only [if_neg this]; exact h0
    · have hcd : ((c.toNat : Int) == 13) = false ∨ (((c.toNat : Int) == 13) = true ∧ ¬ (0 : Int) < (d : Int)) := by
        by_cases h1 : c = 13
        · right
          refine ⟨by rw [h1]; rfl, fun h => h13 ⟨h1, by omega⟩⟩
        · left
          have : c.toNat ≠ 13 := fun e => h1 (UInt8.toNat_inj.1 e)
          rw [beq_eq_false_iff_ne]; omega
      have HS : Hid (stepM R (.chunk n d) Q c = (400, .chunk n d, Q)) := by
        show _ = _
        unfold stepM
        simp only [hx, if_neg h13]
      clear hx h13
      rcases hcd with hcd | ⟨hcd, hd0⟩
      all_goals
        go_enter Tryz.func32, Tryz.ntmps32
        go_wp2_with (go_at_call 33; refine (unhide HD).mono ?_; rintro e w2 ⟨rfl, rfl⟩)
        go_ret
        rw [unhide HS]
        exact ⟨rfl, g, tk, hp, hc, bp, bc, unhide HH, fun e => (by cases e), Kp.of (Below.refl _ _), fun _ _ h => h⟩
#print axioms take_chunk
end Go.Proofs.YthkadboeokgjnacGreatDoor
