/-
  httpd's reader: a byte of a chunk's line.; httpd's reader: a byte of the body.; httpd's reader: a byte of a head.
-/
import Derived.Test.YtonaekkenggmbaaGreatDoorPkHadsag
import Derived.Deep.RegionHeld3
import Derived.Deep.RegionLaw
import Derived.Deep.DeepCutAuto
import Derived.Test.YtonaekkenggmbaaGreatDoorPkHadsac
section
set_option linter.unusedVariables false
set_option maxRecDepth 1000000
namespace Go.Proofs.YtonaekkenggmbaaGreatDoor
open Go.RowKit

def digB (c : UInt8) : Bool := decide (48 ≤ c.toNat) && decide (c.toNat ≤ 57)
theorem isDigit_any (c : UInt8) (w : World) : Calls Tryz.prog 126 #[.int .u8 (c.toNat : Int)] w fun e w' => e = .returned (.bool (digB c)) ∧ w' = w := by
  obtain ⟨x, hx⟩ : ∃ x, x = c.toNat := ⟨_, rfl⟩
  have hD : Hid (digB c = (decide (48 ≤ x) && decide (x ≤ 57))) := by show _ = _; unfold digB; rw [hx]
  rw [← hx]
  clear hx
  by_cases h1 : 48 ≤ x
  · have h1' : (48 : Int) ≤ (x : Int) := by omega
    by_cases h2 : x ≤ 57
    · have h2' : (x : Int) ≤ 57 := by omega
      have HR : Hid (digB c = true) := by show _ = _; rw [unhide hD, decide_eq_true h1, decide_eq_true h2]; rfl
      clear h1 h2
      go_enter Tryz.func126, Tryz.ntmps126
      go_wp2
      go_ret
      exact ⟨by rw [unhide HR]; rfl, rfl⟩
    · have h2' : ¬ (x : Int) ≤ 57 := by omega
      have HR : Hid (digB c = false) := by show _ = _; rw [unhide hD, decide_eq_true h1, decide_eq_false h2]; rfl
      clear h1 h2
      go_enter Tryz.func126, Tryz.ntmps126
      go_wp2
      go_ret
      exact ⟨by rw [unhide HR]; rfl, rfl⟩
  · have h1' : ¬ (48 : Int) ≤ (x : Int) := by omega
    have HR : Hid (digB c = false) := by show _ = _; rw [unhide hD, decide_eq_false h1]; rfl
    clear h1
    go_enter Tryz.func126, Tryz.ntmps126
    go_wp2
    go_ret
    exact ⟨by rw [unhide HR]; rfl, rfl⟩
#print axioms isDigit_any
set_option maxHeartbeats 2000000 in
theorem hexDigit_any (c : UInt8) (w : World) : Calls Tryz.prog 146 #[.int .u8 (c.toNat : Int)] w fun e w' => e = .returned (.tuple #[.int .u32 (((hexB c).getD 0 : Nat) : Int), .bool (hexB c).isSome]) ∧ w' = w := by
  have HD := hide (isDigit_any c w)
  obtain ⟨x, hx⟩ : ∃ x, x = c.toNat := ⟨_, rfl⟩
  have hD : digB c = (decide (48 ≤ x) && decide (x ≤ 57)) := by unfold digB; rw [hx]
  have hl : x < 256 := by rw [hx]; exact c.toNat_lt
  have HH : Hid (hexB c = if 48 ≤ x ∧ x ≤ 57 then some (x - 48) else if 97 ≤ x ∧ x ≤ 102 then some (x - 97 + 10) else if 65 ≤ x ∧ x ≤ 70 then some (x - 65 + 10) else none) := by show _ = _; unfold hexB; rw [← hx]
  rw [hD] at HD
  rw [← hx] at HD ⊢
  obtain ⟨y, hy⟩ : ∃ y, hexB c = y := ⟨_, rfl⟩
  rw [hy] at HH ⊢
  clear hx hD hy
  by_cases h1 : 48 ≤ x ∧ x ≤ 57
  · have hb : (decide (48 ≤ x) && decide (x ≤ 57)) = true := by rw [decide_eq_true h1.1, decide_eq_true h1.2]; rfl
    rw [hb] at HD
    have HR : Hid (y = some (x - 48)) := by show _ = _; rw [unhide HH, if_pos h1]
    obtain ⟨z, hz⟩ : ∃ z, x - 48 = z := ⟨_, rfl⟩
    have e1 : (x : Int) - 48 = (z : Int) := by omega
    have hzl : z ≤ 9 := by omega
    rw [hz] at HR
    clear h1 hb hz HH
    go_enter Tryz.func146, Tryz.ntmps146
    go_wp2_with (go_at_call 126; refine (unhide HD).mono ?_; rintro e w2 ⟨rfl, rfl⟩)
    go_ret2
    exact ⟨by rw [unhide HR]; rfl, rfl⟩
  · have hb : (decide (48 ≤ x) && decide (x ≤ 57)) = false := by
      cases h : (decide (48 ≤ x) && decide (x ≤ 57))
      · rfl
      · simp at h; exact absurd h h1
    rw [hb] at HD
    by_cases h2 : 97 ≤ x ∧ x ≤ 102
    · have HR : Hid (y = some (x - 97 + 10)) := by show _ = _; rw [unhide HH, if_neg h1, if_pos h2]
      obtain ⟨z, hz⟩ : ∃ z, x - 97 = z := ⟨_, rfl⟩
      have e1 : (x : Int) - 97 = (z : Int) := by omega
      have hzl : z ≤ 5 := by omega
      have d1 : (97 : Int) ≤ (x : Int) := by omega
      have d2 : (x : Int) ≤ 102 := by omega
      rw [hz] at HR
      clear h1 hb hz HH h2
      go_enter Tryz.func146, Tryz.ntmps146
      go_wp2_with (go_at_call 126; refine (unhide HD).mono ?_; rintro e w2 ⟨rfl, rfl⟩)
      go_ret2
      exact ⟨by rw [unhide HR]; rfl, rfl⟩
    · have d0 : (decide ((97 : Int) ≤ (x : Int)) && decide ((x : Int) ≤ 102)) = false := by
        cases h : (decide ((97 : Int) ≤ (x : Int)) && decide ((x : Int) ≤ 102))
        · rfl
        · simp at h; omega
      by_cases h3 : 65 ≤ x ∧ x ≤ 70
      · have HR : Hid (y = some (x - 65 + 10)) := by show _ = _; rw [unhide HH, if_neg h1, if_neg h2, if_pos h3]
        obtain ⟨z, hz⟩ : ∃ z, x - 65 = z := ⟨_, rfl⟩
        have e1 : (x : Int) - 65 = (z : Int) := by omega
        have hzl : z ≤ 5 := by omega
        have d1 : (65 : Int) ≤ (x : Int) := by omega
        have d2 : (x : Int) ≤ 70 := by omega
        have d3 : ¬ (97 : Int) ≤ (x : Int) := by omega
        rw [hz] at HR
        clear h1 hb hz HH h2 h3 d0
        go_enter Tryz.func146, Tryz.ntmps146
        go_wp2_with (go_at_call 126; refine (unhide HD).mono ?_; rintro e w2 ⟨rfl, rfl⟩)
        go_ret2
        exact ⟨by rw [unhide HR]; rfl, rfl⟩
      · have HR : Hid (y = none) := by show _ = _; rw [unhide HH, if_neg h1, if_neg h2, if_neg h3]
        clear h1 hb HH d0
        have d97 : ¬ (97 : Int) ≤ (x : Int) ∨ ((97 : Int) ≤ (x : Int) ∧ ¬ (x : Int) ≤ 102) := by omega
        have d65 : ¬ (65 : Int) ≤ (x : Int) ∨ ((65 : Int) ≤ (x : Int) ∧ ¬ (x : Int) ≤ 70) := by omega
        clear h2 h3
        rcases d97 with d97 | ⟨d97, d97'⟩ <;> rcases d65 with d65 | ⟨d65, d65'⟩
        any_goals (exfalso; omega)
        all_goals
          go_enter Tryz.func146, Tryz.ntmps146
          go_wp2_with (go_at_call 126; refine (unhide HD).mono ?_; rintro e w2 ⟨rfl, rfl⟩)
          go_ret2
          exact ⟨by rw [unhide HR]; rfl, rfl⟩
#print axioms hexDigit_any
theorem hex_or (n x : Nat) (hn : n < 268435456) (hx : x < 16) : bits .or .u32 ((n : Int) * 16) (x : Int) = ((n * 16 + x : Nat) : Int) := by
  have e1 := u32_or_nat (n * 16) x (by omega) (by omega)
  rw [nat_join 4 _ _ (by omega) (by omega)] at e1
  rw [← e1]
  rfl
set_option maxHeartbeats 4000000 in
theorem take_chunk (R : HdM) (w : World) (g : Nat → Nat) (r : Nat) (tk : Value) (n d : Nat) (Q : Rq) (hp : Option Addr) (hc : Nat) (bp : Option Addr) (bc : Nat) (c : UInt8) (a b e : Nat)
    (h : RdB w g r tk Q hp hc bp bc) (h1 : Bx w a (.int .i64 (d : Int))) (g1 : g a = 2) (h2 : Bx w b (.int .u32 (n : Int))) (g2 : g b = 7) (h3 : Bx w e (pt r)) (g3 : g e = 6) (hn : n < 16 ^ d) (hd : d ≤ 8)
    (htk : tk = .func (.func 145) #[] #[pt a, pt b, pt e]) :
    Calls Tryz.prog 145 #[.int .u8 (c.toNat : Int), pt a, pt b, pt e] w fun e w' => Ret w g r (stepM R (.chunk n d) Q c) e w' := by
  have c1 := h1.cell
  have f1 := h1.fz
  have c2 := h2.cell
  have f2 := h2.fz
  have c3 := h3.cell
  have hab : a ≠ b := by rintro rfl; omega
  have HD := hide (hexDigit_any c w)
  have hnn : n < 4294967296 := by
    have : 16 ^ d ≤ 16 ^ 8 := Nat.pow_le_pow_right (by decide) hd
    omega
  have HH := hide h
  have HBX := hide (show Bx w a (.int .i64 (d : Int)) ∧ Bx w b (.int .u32 (n : Int)) ∧ Bx w e (pt r) from ⟨h1, h2, h3⟩)
  clear h h1 h2 h3
  cases hx : hexB c with
  | some x =>
    have hxl := hexB_lt c x hx
    by_cases h8 : d < 8
    · have h8' : (d : Int) < 8 := by omega
      have HS : Hid (stepM R (.chunk n d) Q c = (1, .chunk (n * 16 + x) (d + 1), Q)) := by
        show _ = _
        unfold stepM
        simp only [hx, if_pos h8]
      have hn7 : n < 268435456 := by
        have : 16 ^ d ≤ 16 ^ 7 := Nat.pow_le_pow_right (by decide) (by omega)
        omega
      have hor := hex_or n x hn7 hxl
      obtain ⟨M, hM⟩ : ∃ M, n * 16 + x = M := ⟨_, rfl⟩
      have hMl : M < 16 ^ (d + 1) := by rw [← hM, Nat.pow_succ]; omega
      rw [hM] at hor HS
      obtain ⟨V, hV⟩ : ∃ V, V = ((w.setCell ⟨b, 0, none⟩ (.int .u32 (M : Int))).setCell ⟨a, 0, none⟩ (.int .i64 ((d : Int) + 1))).drew := ⟨_, rfl⟩
      have heq : ∀ k : Nat, V.heap[k]? = ((w.setCell ⟨b, 0, none⟩ (.int .u32 (M : Int))).setCell ⟨a, 0, none⟩ (.int .i64 ((d : Int) + 1))).heap[k]? := fun k => by rw [hV]; rfl
      have HR : Hid (RdB V g r tk Q hp hc bp bc) := by
        have := ((unhide HH).setBox b (.int .u32 (M : Int)) (.inr g2)).setBox a (.int .i64 ((d : Int) + 1)) (.inl g1)
        exact this.same (fun k hk => by rw [hV]; exact this.inb k hk) (fun k _ => ⟨heq k, rfl⟩)
      have HX : Hid (stV g V r (.chunk M (d + 1)) tk) := by
        obtain ⟨h1, h2, h3⟩ := unhide HBX
        refine ⟨a, b, e, htk, ?_, g1, ?_, g2, ?_, g3, hMl, by omega⟩
        · exact ((h1.setOther (u := .int .u32 (M : Int)) hab).set (.int .i64 ((d : Int) + 1))).of (heq a)
        · exact ((h2.set (.int .u32 (M : Int))).setOther (u := .int .i64 ((d : Int) + 1)) hab.symm).of (heq b)
        · exact ((h3.setOther (u := .int .u32 (M : Int)) (by rintro rfl; omega)).setOther (u := .int .i64 ((d : Int) + 1)) (by rintro rfl; omega)).of (heq e)
      have HK : Hid (Kp w V (fun k => g k ≠ 0)) := by
        have k1 := (kp_box w g b (.int .u32 (M : Int)) (by omega)).trans (kp_box (w.setCell ⟨b, 0, none⟩ (.int .u32 (M : Int))) g a (.int .i64 ((d : Int) + 1)) (by omega))
        exact k1.trans (Kp.of (by rw [hV]; exact (Below.refl _ _).drew))
      rw [hx] at HD
      clear hx h8 heq hM
      go_enter Tryz.func145, Tryz.ntmps145
      go_upto_region 3 with (go_at_call 146; refine (unhide HD).mono ?_; rintro e w2 ⟨rfl, rfl⟩)
      go_region
      rw [← hV]
      clear hV
      go_wp2
      go_ret
      rw [unhide HS]
      exact ⟨rfl, g, tk, hp, hc, bp, bc, unhide HR, fun _ => unhide HX, unhide HK, fun _ _ h => h⟩
    · have h8' : ¬ (d : Int) < 8 := by omega
      have hc13 : ((c.toNat : Int) == 13) = false := by
        rw [beq_eq_false_iff_ne]
        intro h
        have : c.toNat = 13 := by omega
        unfold hexB at hx
        rw [this] at hx
        simp at hx
      have HS : Hid (stepM R (.chunk n d) Q c = (400, .chunk n d, Q)) := by
        show _ = _
        unfold stepM
        simp only [hx, if_neg h8]
        rw [if_neg (by rintro ⟨rfl, _⟩; simp at hc13)]
      rw [hx] at HD
      clear hx h8
      go_enter Tryz.func145, Tryz.ntmps145
      go_wp2_with (go_at_call 146; refine (unhide HD).mono ?_; rintro e w2 ⟨rfl, rfl⟩)
      go_ret
      rw [unhide HS]
      exact ⟨rfl, g, tk, hp, hc, bp, bc, unhide HH, fun e => (by cases e), Kp.of (Below.refl _ _), fun _ _ h => h⟩
  | none =>
    rw [hx] at HD
    by_cases h13 : c = 13 ∧ 0 < d
    · have hc13 : ((c.toNat : Int) == 13) = true := by rw [h13.1]; rfl
      have hd0 : (0 : Int) < (d : Int) := by have := h13.2; omega
      have HS : Hid (stepM R (.chunk n d) Q c = (1, .text [10] 0 (.cb n), Q)) := by
        show _ = _
        unfold stepM
        simp only [hx, if_pos h13]
      have hG : RdB w (fun k => if k = b then 6 else g k) r tk Q hp hc bp bc := (unhide HH).same (fun k hk => by
          by_cases e : k = b
          · rw [e]; exact (unhide HBX).2.1.lt
          · simp only [if_neg e] at hk; exact (unhide HH).inb k hk) (fun k hk => ⟨rfl, by
          have : k ≠ b := by rintro rfl; omega
          simp only [if_neg this]⟩)
      have HT := hide (text_any w (fun k => if k = b then 6 else g k) r tk (.func (.func 148) #[] #[pt e, pt b]) (.cb n) [10] Q hp hc bp bc hG ⟨e, b, rfl, (unhide HBX).2.2, by
          have : e ≠ b := by rintro rfl; omega
          simp only [if_neg this]; exact g3, (unhide HBX).2.1, by simp, hnn⟩ (by decide) (by decide))
      clear hx h13 hG
      go_enter Tryz.func145, Tryz.ntmps145
      go_wp2_with (first
        | (go_at_call 146; refine (unhide HD).mono ?_; rintro e w2 ⟨rfl, rfl⟩)
        | (go_at_call 147; refine (unhide HT).mono ?_; rintro e w2 ⟨rfl, hr2⟩))
      go_ret
      rw [unhide HS]
      have hb0 : g b ≠ 0 := by omega
      have := Res.ret (x := (1, .text [10] 0 (.cb n))) ⟨rfl, hr2⟩
      obtain ⟨he, g', tk', p1, p2, p3, p4, k1, k2, k3, k4⟩ := this
      refine ⟨rfl, g', tk', p1, p2, p3, p4, k1, k2, k3.mono (fun k hk => ?_), fun k hk h0 => k4 k hk ?_⟩
      · by_cases e : k = b
        · rw [e]; exact hb0
        · simpa only [if_neg e] using hk
      · have : k ≠ b := by rintro rfl; exact hb0 h0
        simp only [if_neg this]; exact h0
    · have hcd : ((c.toNat : Int) == 13) = false ∨ (((c.toNat : Int) == 13) = true ∧ ¬ (0 : Int) < (d : Int)) := by
        by_cases h1 : c = 13
        · right
          refine ⟨by rw [h1]; rfl, fun h => h13 ⟨h1, by omega⟩⟩
        · left
          have : c.toNat ≠ 13 := fun e => h1 (UInt8.toNat_inj.1 e)
          rw [beq_eq_false_iff_ne]; omega
      have HS : Hid (stepM R (.chunk n d) Q c = (400, .chunk n d, Q)) := by
        show _ = _
        unfold stepM
        simp only [hx, if_neg h13]
      clear hx h13
      rcases hcd with hcd | ⟨hcd, hd0⟩
      all_goals
        go_enter Tryz.func145, Tryz.ntmps145
        go_wp2_with (go_at_call 146; refine (unhide HD).mono ?_; rintro e w2 ⟨rfl, rfl⟩)
        go_ret
        rw [unhide HS]
        exact ⟨rfl, g, tk, hp, hc, bp, bc, unhide HH, fun e => (by cases e), Kp.of (Below.refl _ _), fun _ _ h => h⟩
#print axioms take_chunk
end Go.Proofs.YtonaekkenggmbaaGreatDoor
end
section
set_option linter.unusedVariables false
set_option maxRecDepth 1000000
namespace Go.Proofs.YtonaekkenggmbaaGreatDoor
open Go.RowKit

/-- What a byte more in the body leaves. -/
structure BtP (w V : World) (g g' : Nat → Nat) (r : Nat) (tk : Value) (Q : Rq) (hp : Option Addr) (hc : Nat) (bp : Option Addr) (bc : Nat) : Prop where
  rd : RdB V g' r tk Q hp hc bp bc
  kp : Kp w V (fun k => g k ≠ 0)
  old : ∀ k, k < w.heap.size → g' k = g k
  stay : ∀ k, g k = 2 ∨ g k = 6 ∨ g k = 7 → V.heap[k]? = w.heap[k]?
theorem body_app {w w2 w3 : World} {g : Nat → Nat} {r : Nat} {tk : Value} {Q : Rq} {hp : Option Addr} {hc : Nat} {bp bp' : Option Addr} {bc bc' : Nat} {l : List UInt8} {c : UInt8} (h : RdB w g r tk Q hp hc bp bc) (hb : Below w.heap.size w w2)
    (hl : l = Q.b ++ [c]) (ho : OwnB w3 0 bp' bc' l) (hg : w2.grownBy w3 (blk bp)) (hloc : bp' = bp ∨ ∀ k, blk bp' = some k → w2.heap.size ≤ k) (hf : Q.b.length + 1 ≤ 1000000) :
    ∃ g', BtP w (w3.setCell ⟨r, 4, none⟩ (.slice bp' l.length bc')) g g' r tk { Q with b := Q.b ++ [c] } hp hc bp' bc' := by
  have hr := h.lt
  have hbs := hb.size
  have hgs := hg.size
  have hbl : ∀ k, blk bp = some k → k < w.heap.size := fun k hk => h.inb k (by rw [h.bt k hk]; decide)
  have hbr : blk bp ≠ some r := fun e => by have := h.bt r e; rw [h.tag] at this; cases this
  have same3 : ∀ k, k < w.heap.size → blk bp ≠ some k → w3.heap[k]? = w.heap[k]? := fun k hk hn => (hg.block k (by omega) (fun e => hn e.symm)).trans (hb.block k hk)
  have hbp' : ∀ k, blk bp' = some k → blk bp = some k ∨ w.heap.size ≤ k := by
    intro k hk
    rcases hloc with e | e
    · left; rw [← e]; exact hk
    · right; have := e k hk; omega
  have hpr : ∀ k, blk bp' = some k → k ≠ r := fun k hk e => by
    rcases hbp' k hk with h1 | h1
    · exact hbr (by rw [h1, e])
    · omega
  have ne : ∀ k, k ≠ r → (w3.setCell ⟨r, 4, none⟩ (.slice bp' l.length bc')).heap[k]? = w3.heap[k]? := fun k hk => Below.heap_setCell w3 ⟨r, 4, none⟩ _ k hk
  have hpb : ∀ k, blk hp = some k → blk bp ≠ some k := fun k hk e => by have h1 := h.ht k hk; have h2 := h.bt k e; omega
  have hpn : ∀ k, blk hp = some k → k ≠ r := fun k hk e => by have h1 := h.ht k hk; rw [e, h.tag] at h1; cases h1
  have hpl : ∀ k, blk hp = some k → k < w.heap.size := fun k hk => h.inb k (by rw [h.ht k hk]; decide)
  refine ⟨fun k => if k < w.heap.size then g k else if blk bp' = some k then 5 else 0, ⟨?_, ?_, ?_, ?_, ?_, ?_, ?_, ?_⟩, ?_, ?_, ?_⟩
  · intro k hk
    simp only [World.setCell, Array.size_modify]
    by_cases h1 : k < w.heap.size
    · omega
    · simp only [if_neg h1] at hk
      by_cases h2 : blk bp' = some k
      · exact (ho.lt k h2).2
      · simp [h2] at hk
  · simp only [if_pos hr]; exact h.tag
  · have hrow := (same3 r hr hbr).trans h.row
    rw [heap_setCell_same w3 r 4 _ _ _ hrow]
    simp [hl]
  · exact h.hdr.same (fun k hk hl => (ne k (hpn k hk)).trans (same3 k hl (hpb k hk)))
  · intro k hk
    simp only [if_pos (hpl k hk)]
    exact h.ht k hk
  · have := ho.same (w' := w3.setCell ⟨r, 4, none⟩ (.slice bp' l.length bc')) (fun k hk => ne k (hpr k hk))
    show OwnB _ 0 bp' bc' (Q.b ++ [c])
    rw [← hl]
    exact this
  · intro k hk
    by_cases h1 : k < w.heap.size
    · simp only [if_pos h1]
      rcases hbp' k hk with h2 | h2
      · exact h.bt k h2
      · omega
    · simp only [if_neg h1, if_pos hk]
  · simp; omega
  · have k1 : Kp w w2 (fun k => g k ≠ 0) := Kp.of hb
    have k2 : Kp w2 w3 (fun k => g k ≠ 0) := Kp.ofG hg (fun k hk => by rw [h.bt k hk]; decide)
    exact (k1.trans k2).trans (Kp.ofG (gsc w3 ⟨r, 4, none⟩ _) (fun k hk => by cases hk; rw [h.tag]; decide))
  · intro k hk
    simp only [if_pos hk]
  · intro k hk
    have h0 : g k ≠ 0 := by rcases hk with e | e | e <;> omega
    have hl := h.inb k h0
    refine (ne k (by rintro rfl; rw [h.tag] at hk; omega)).trans (same3 k hl (fun e => by have := h.bt k e; omega))

theorem row1 (w : World) (c : UInt8) (V : World) (h : V.heap[w.heap.size]? = some (.cells #[.int .u8 (c.toNat : Int)] 5 (0, 0))) : Row V (some ⟨w.heap.size, 0, none⟩) [c] := by
  intro _
  refine ⟨w.heap.size, 0, rfl, fun i hi => ?_⟩
  obtain rfl : i = 0 := by simpa using hi
  rw [cell_of_row V _ _ _ _ _ h]
  simp

set_option maxHeartbeats 4000000 in
theorem take_bytes (R : HdM) (w : World) (g : Nat → Nat) (r : Nat) (tk : Value) (n : Nat) (t : Th) (Q : Rq) (hp : Option Addr) (hc : Nat) (bp : Option Addr) (bc : Nat) (c : UInt8) (a b d : Nat) (tv : Value)
    (h : RdB w g r tk Q hp hc bp bc) (h1 : Bx w a (pt r)) (g1 : g a = 6) (h2 : Bx w b (.int .i64 (n : Int))) (g2 : g b = 2) (h3 : Bx w d tv) (g3 : g d = 6) (ht : thV g w r t tv) (hn : 0 < n) (hn2 : n ≤ 4294967296) (hq : Q.b.length + n ≤ 32768)
    (htk : tk = .func (.func 150) #[] #[pt a, pt b, pt d]) :
    Calls Tryz.prog 150 #[.int .u8 (c.toNat : Int), pt a, pt b, pt d] w fun e w' => Ret w g r (stepM R (.bytes n t) Q c) e w' := by
  have c1 := h1.cell
  have c4 := h.bodyCell
  have f4 := frozen_of_row w r 4 _ _ h.row
  have HH := hide h
  have hrl := h.lt
  have hal := h1.lt
  obtain ⟨W2, hW2⟩ : ∃ W2, W2 = (w.alloc (.cells #[.int .u8 (c.toNat : Int)] 5)).drew := ⟨_, rfl⟩
  have hB2 : Below w.heap.size w W2 := by rw [hW2]; exact ((Below.refl _ _).alloc (Nat.le_refl _) _).drew
  have hO2 : OwnB W2 0 bp bc Q.b := h.body.below hB2 (Nat.le_refl _)
  have hR2 : Row W2 (some ⟨w.heap.size, 0, none⟩) [c] := row1 w c W2 (by rw [hW2]; exact heap_alloc_new w _)
  have hAP : ∀ (bp' : Option Addr) (bc' : Nat) (l : List UInt8) (w3 : World), l = Q.b ++ [c] → OwnB w3 0 bp' bc' l → W2.grownBy w3 (blk bp) → (bp' = bp ∨ ∀ k, blk bp' = some k → W2.heap.size ≤ k) → ∃ g', BtP w (w3.setCell ⟨r, 4, none⟩ (.slice bp' l.length bc')) g g' r tk { Q with b := Q.b ++ [c] } hp hc bp' bc' :=
    fun bp' bc' l w3 e1 e2 e3 e4 => body_app h hB2 e1 e2 e3 e4 (by omega)
  have hST : ∀ (w3 : World), W2.grownBy w3 (blk bp) → w3.cell? ⟨a, 0, none⟩ = some (pt r) ∧ w3.cell? ⟨r, 4, none⟩ = some (.slice bp Q.b.length bc) ∧ w3.frozen? ⟨r, 4, none⟩ = false := by
    intro w3 hg
    have s3 : ∀ k, k < w.heap.size → blk bp ≠ some k → w3.heap[k]? = w.heap[k]? := fun k hk hn => (hg.block k (by have := hB2.size; omega) (fun e => hn e.symm)).trans (hB2.block k hk)
    have sr := (s3 r hrl (fun e => by have := h.bt r e; rw [h.tag] at this; cases this)).trans h.row
    refine ⟨(h1.of (s3 a hal (fun e => by have := h.bt a e; omega))).cell, by rw [cell_of_row w3 r 4 _ _ _ sr]; rfl, frozen_of_row w3 r 4 _ _ sr⟩
  have HO2 := hide hO2
  have HR2 := hide hR2
  have HAP := hide hAP
  have HST := hide hST
  have HBX := hide (show Bx w a (pt r) ∧ Bx w b (.int .i64 (n : Int)) ∧ Bx w d tv from ⟨h1, h2, h3⟩)
  have HTV := hide ht
  have hL0 : Q.b.length ≤ 32768 := by omega
  clear hO2 hR2 hAP hST h h1 h2 h3 ht hB2
  go_enter Tryz.func150, Tryz.ntmps150
  go_upto_region 1 with fail
  go_cut [] (fun wx => ∃ bp' bc' g', Hid (BtP w wx g g' r tk { Q with b := Q.b ++ [c] } hp hc bp' bc'))
  case first =>
    go_region_law (rw [← hW2]; refine stp_app2 _ rfl _ _ rfl 0 bp bc Q.b _ rfl rfl (unhide HO2) (some ⟨w.heap.size, 0, none⟩) 1 [c] _ rfl rfl (unhide HR2) (fun h => by cases h) (by simp; omega) (Nat.zero_le _) ?_; intro bp' bc' l w3 hl3 ho3 hg3 hloc3; have k3 := unhide HST w3 (unhide hg3); have k30 := k3.1; have k31 := k3.2.1; have k32 := k3.2.2; clear k3)
    all_goals
      go_wp2_with fail
      go_meet
      case rel =>
        obtain ⟨g', hg'⟩ := unhide HAP bp' bc' l w3 (unhide hl3) (unhide ho3) (unhide hg3) (unhide hloc3)
        exact ⟨bp', bc', g', hg'⟩
  case rest =>
    obtain ⟨bp', bc', g', HP⟩ := hcut
    clear HO2 HR2 HAP HST hW2 c1 c4 f4
    have hP := unhide HP
    have hbl := (unhide HBX).2.1.lt
    have hdl := (unhide HBX).2.2.lt
    have q1 : Bx wc a (pt r) := (unhide HBX).1.of (hP.stay a (.inr (.inl g1)))
    have q2 : Bx wc b (.int .i64 (n : Int)) := (unhide HBX).2.1.of (hP.stay b (.inl g2))
    have q3 : Bx wc d tv := (unhide HBX).2.2.of (hP.stay d (.inr (.inl g3)))
    have g1' : g' a = 6 := (hP.old a hal).trans g1
    have g2' : g' b = 2 := (hP.old b hbl).trans g2
    have g3' : g' d = 6 := (hP.old d hdl).trans g3
    have hT : thV g' wc r t tv := (unhide HTV).same (fun k hk hl => ⟨hP.stay k (.inr (.inl hk)), (hP.old k hl).trans hk⟩)
    have c2 := q2.cell
    have f2 := q2.fz
    obtain ⟨V, hV⟩ : ∃ V, V = wc.setCell ⟨b, 0, none⟩ (.int .i64 ((n : Int) - 1)) := ⟨_, rfl⟩
    have hR : RdB V g' r tk { Q with b := Q.b ++ [c] } hp hc bp' bc' := by rw [hV]; exact hP.rd.setBox b _ (.inl g2')
    have hTV : thV g' V r t tv := by rw [hV]; exact hT.setBox b _ (.inl g2')
    have v1 : Bx V a (pt r) := by rw [hV]; exact q1.setOther (by rintro rfl; omega)
    have v2 : Bx V b (.int .i64 (((n - 1 : Nat)) : Int)) := by rw [hV, show ((n - 1 : Nat) : Int) = (n : Int) - 1 by omega]; exact q2.set _
    have v3 : Bx V d tv := by rw [hV]; exact q3.setOther (by rintro rfl; omega)
    have k2 : V.cell? ⟨b, 0, none⟩ = some (.int .i64 ((n : Int) - 1)) := by have := v2.cell; rwa [show ((n - 1 : Nat) : Int) = (n : Int) - 1 by omega] at this
    have k3 := v3.cell
    have hK : Kp w V (fun k => g k ≠ 0) := by rw [hV]; exact hP.kp.trans' (kp_box wc g' b _ (by omega)) (fun i hi hs => by rw [hP.old i hi] at hs; exact hs)
    have HK := hide hK
    have HR := hide hR
    have HOLD : Hid (∀ k, k < w.heap.size → g k = 0 → g' k = 0) := fun k hk h0 => by rw [hP.old k hk]; exact h0
    have hq2 : (Q.b ++ [c]).length ≤ 32768 := by simp; omega
    by_cases hl : 1 < n
    · have hl' : (0 : Int) < (n : Int) - 1 := by omega
      have HS : Hid (stepM R (.bytes n t) Q c = (1, .bytes (n - 1) t, { Q with b := Q.b ++ [c] })) := by
        show _ = _
        unfold stepM
        simp only [if_pos hl]
      have HX : Hid (stV g' V r (.bytes (n - 1) t) tk) := ⟨a, b, d, tv, htk, v1, g1', v2, g2', v3, g3', hTV, by omega, by omega⟩
      clear hP hR hT hTV hK v1 v2 v3 q1 q2 q3 hl htk HP HTV HBX
      go_upto_region 3 with fail
      rw [← hV]
      clear hV
      go_wp2
      go_ret
      rw [unhide HS]
      exact ⟨rfl, g', tk, hp, hc, bp', bc', unhide HR, fun _ => unhide HX, unhide HK, unhide HOLD⟩
    · obtain rfl : n = 1 := by omega
      have HS : Hid (stepM R (.bytes 1 t) Q c = ((thM t (.bytes 1 t) { Q with b := Q.b ++ [c] }).1, (thM t (.bytes 1 t) { Q with b := Q.b ++ [c] }).2, { Q with b := Q.b ++ [c] })) := by
        show _ = _
        unfold stepM
        simp only [if_neg hl]
      have k2' : V.cell? ⟨b, 0, none⟩ = some (.int .i64 0) := k2
      clear k2
      cases t with
      | fin =>
        obtain rfl : tv = _ := hTV
        clear hP hR hT hK v1 v2 v3 q1 q2 q3 hl htk HP HTV HBX
        go_upto_region 3 with fail
        rw [show (((1 : Nat) : Int) - 1) = 0 from rfl] at hV
        rw [← hV]
        clear hV
        go_wp2_with (go_at_call 122; refine (end_any V r).mono ?_; rintro e w2 ⟨rfl, rfl⟩)
        go_ret
        rw [unhide HS]
        exact ⟨rfl, g', tk, hp, hc, bp', bc', unhide HR, fun e => (by cases e), unhide HK, unhide HOLD⟩
      | chk =>
        obtain rfl : tv = _ := hTV
        have HC := hide (chunk_any V g' r tk _ hp hc bp' bc' hR)
        clear hP hR hT hK v1 v2 v3 q1 q2 q3 hl htk HP HTV HBX
        go_upto_region 3 with fail
        rw [show (((1 : Nat) : Int) - 1) = 0 from rfl] at hV
        rw [← hV]
        clear hV
        go_wp2_with (go_at_call 120; refine (unhide HC).mono ?_; rintro e w2 ⟨rfl, hr2⟩)
        go_ret
        rw [unhide HS]
        exact Ret.behind (unhide HK) (unhide HOLD) (Res.ret (x := (1, .chunk 0 0)) ⟨rfl, hr2⟩)
      | cb m =>
        obtain ⟨p, q, rfl, p1, p2, p3, p4, p5⟩ := hTV
        have HC := hide (then_cb V g' r p q tk m _ hp hc bp' bc' hR p1 p3 p5 hq2)
        clear hP hR hT hK v1 v2 v3 q1 q2 q3 hl htk HP HTV HBX p1 p2 p3 p4 p5
        go_upto_region 3 with fail
        rw [show (((1 : Nat) : Int) - 1) = 0 from rfl] at hV
        rw [← hV]
        clear hV
        go_wp2_with (go_at_call 148; refine (unhide HC).mono ?_; rintro e w2 ⟨rfl, hr2⟩)
        go_ret
        rw [unhide HS]
        exact Ret.behind (unhide HK) (unhide HOLD) (Res.ret (x := cbM m { Q with b := Q.b ++ [c] }) ⟨rfl, hr2⟩)
      | tl =>
        obtain ⟨p, rfl, p1, p2⟩ := hTV
        have HC := hide (then_tl V g' r p tk _ hp hc bp' bc' hR p1)
        clear hP hR hT hK v1 v2 v3 q1 q2 q3 hl htk HP HTV HBX p1 p2
        go_upto_region 3 with fail
        rw [show (((1 : Nat) : Int) - 1) = 0 from rfl] at hV
        rw [← hV]
        clear hV
        go_wp2_with (go_at_call 171; refine (unhide HC).mono ?_; rintro e w2 ⟨rfl, hr2⟩)
        go_ret
        rw [unhide HS]
        exact Ret.behind (unhide HK) (unhide HOLD) (Res.ret (x := (1, .text crlf 0 .chk)) ⟨rfl, hr2⟩)
#print axioms take_bytes
end Go.Proofs.YtonaekkenggmbaaGreatDoor
end
section
set_option linter.unusedVariables false
set_option maxRecDepth 1000000
namespace Go.Proofs.YtonaekkenggmbaaGreatDoor
open Go.RowKit

/-- Does a list end with another one? -/
def sufB (l s : List UInt8) : Bool := decide (s.length ≤ l.length) && (l.drop (l.length - s.length) == s)
theorem sufB_iff (l s : List UInt8) : sufB l s = decide (s <:+ l) := by
  unfold sufB
  by_cases h : s <:+ l
  · rw [decide_eq_true h, decide_eq_true h.length_le]
    obtain ⟨t, rfl⟩ := h
    simp
  · rw [decide_eq_false h]
    by_cases h1 : s.length ≤ l.length
    · rw [decide_eq_true h1, Bool.true_and, beq_eq_false_iff_ne]
      intro e
      exact h ⟨l.take (l.length - s.length), by conv => lhs; rw [← e]
                                                rw [List.length_drop, show l.length - (l.length - (l.length - s.length)) = l.length - s.length by omega]; exact List.take_append_drop _ _⟩
    · rw [decide_eq_false h1]; rfl
set_option maxHeartbeats 1000000 in
theorem hasSuffix_any (a1 : Option Addr) (c1 : Nat) (l1 : List UInt8) (a2 : Option Addr) (c2 : Nat) (l2 : List UInt8) (w : World) (h1 : Bs w a1 c1 l1) (h2 : Bs w a2 c2 l2) :
    Calls Tryz.prog 98 #[.slice a1 l1.length c1, .slice a2 l2.length c2] w fun e w' => e = .returned (.bool (decide (l2 <:+ l1))) ∧ w' = w := by
  have hm := h1.most
  have hl := h1.le
  unfold maxLen at hm
  rw [← sufB_iff]
  have HS : Hid (sufB l1 l2 = (decide (l2.length ≤ l1.length) && (l1.drop (l1.length - l2.length) == l2))) := rfl
  by_cases hle : l2.length ≤ l1.length
  · have hle' : ((l2.length : Nat) : Int) ≤ (l1.length : Int) := by omega
    rw [decide_eq_true hle, Bool.true_and] at HS
    obtain ⟨E, hE⟩ : ∃ E, l1.length - l2.length = E := ⟨_, rfl⟩
    have hE2 : (l1.length : Int) - (l2.length : Int) = (E : Int) := by omega
    have hEl : E ≤ l1.length := by omega
    rw [hE] at HS
    obtain ⟨xh, hh, hhB, -⟩ := cut_tail a1 c1 E l1 hl hEl (fun h => by obtain ⟨b, off, e, _⟩ := h1.row h; exact ⟨b, off, e⟩)
    have hh1 := hh w
    have HB := hide (hhB w h1)
    have H2 := hide h2
    clear hh hhB h1 h2 hle hE
    go_enter Tryz.func98, Tryz.ntmps98
    go_wp2_with fail
    refine (equal_any xh (l1.length - E) (c1 - E) (l1.drop E) a2 l2.length c2 l2 w (unhide HB).row (unhide H2).row (by simp) rfl).mono ?_
    rintro e w' ⟨rfl, rfl⟩
    rw [← unhide HS]
    go_wp2
    go_ret
    exact ⟨rfl, rfl⟩
  · have hle' : ¬ ((l2.length : Nat) : Int) ≤ (l1.length : Int) := by omega
    have HF : Hid (sufB l1 l2 = false) := by show _ = _; rw [unhide HS, decide_eq_false hle]; rfl
    clear hle HS h1 h2
    go_enter Tryz.func98, Tryz.ntmps98
    go_wp2
    go_ret
    exact ⟨by rw [unhide HF]; rfl, rfl⟩
#print axioms hasSuffix_any

set_option maxHeartbeats 1000000 in
theorem bytes_zero (w : World) (r : Nat) :
    Calls Tryz.prog 121 #[pt r, .int .i64 0, .func (.func 122) #[pt r] #[]] w fun e w' => e = .returned (.int .i64 0) ∧ Hid (Below w.heap.size w w') := by
  obtain ⟨V, hV, hb, hs, b0, b1, b2⟩ := three w (pt r) (.int .i64 0) (.func (.func 122) #[pt r] #[]) 74 3 45
  have c1 := b1.cell
  have c2 := b2.cell
  have HB := hide hb
  clear b0 b1 b2 hb
  go_enter Tryz.func121, Tryz.ntmps121
  go_upto_region 1 with fail
  rw [← hV]
  clear hV
  go_wp2_with (go_at_call 122; refine (end_any V r).mono ?_; rintro e w2 ⟨rfl, rfl⟩)
  go_ret
  exact ⟨rfl, HB⟩

/-- What readHead answers. -/
def RHs (E : World → Prop) (R : HdM) : Prop := ∀ (h : List UInt8) (w : World), h.length ≤ 8192 → E w → Calls Tryz.prog 119 #[.string (str h)] w fun e w' => ∃ hp hc,
  e = .returned (.tuple #[.agg #[.string (str (R h).1.m), .string (str (R h).1.p), .slice hp (R h).1.h.length hc, .slice none 0 0], .agg #[.bool (R h).2.1.c, .int .i64 ((R h).2.1.n : Int)], .int .i64 ((R h).2.2 : Int)]) ∧
  Hid (HdR w' hp (R h).1.h) ∧ Hid (∀ k, blk hp = some k → w.heap.size ≤ k ∧ k < w'.heap.size) ∧ Hid (Below w.heap.size w w')

theorem request_set {w V V2 : World} {g : Nat → Nat} {r : Nat} {tk : Value} {Q Q' : Rq} {hp : Option Addr} {hc : Nat} {bp : Option Addr} {bc : Nat} {hp' : Option Addr} {hc' : Nat} (h : RdB w g r tk Q hp hc bp bc) (hb : Below w.heap.size w V)
    (hH : HdR V hp' Q'.h) (hk : ∀ k, blk hp' = some k → w.heap.size ≤ k ∧ k < V.heap.size) (hQ : Q'.b = [])
    (hV : V2 = (((V.setCell ⟨r, 1, none⟩ (.string (str Q'.m))).setCell ⟨r, 2, none⟩ (.string (str Q'.p))).setCell ⟨r, 3, none⟩ (.slice hp' Q'.h.length hc')).setCell ⟨r, 4, none⟩ (.slice none 0 0)) :
    ∃ g', RdB V2 g' r tk Q' hp' hc' none 0 ∧ Kp w V2 (fun k => g k ≠ 0) ∧ ∀ k, k < w.heap.size → g' k = g k := by
  have hr := h.lt
  have hbs := hb.size
  have ne : ∀ k, k ≠ r → V2.heap[k]? = V.heap[k]? := fun k hk => by
    rw [hV, Below.heap_setCell _ ⟨r, 4, none⟩ _ k hk, Below.heap_setCell _ ⟨r, 3, none⟩ _ k hk, Below.heap_setCell _ ⟨r, 2, none⟩ _ k hk, Below.heap_setCell _ ⟨r, 1, none⟩ _ k hk]
  have hsz : V2.heap.size = V.heap.size := by rw [hV]; simp [World.setCell]
  have hrow := (hb.block r hr).trans h.row
  refine ⟨fun k => if k < w.heap.size then g k else if blk hp' = some k then 4 else 0, ⟨?_, ?_, ?_, ?_, ?_, ?_, ?_, ?_⟩, ?_, ?_⟩
  · intro k hk2
    rw [hsz]
    by_cases h1 : k < w.heap.size
    · omega
    · simp only [if_neg h1] at hk2
      by_cases h2 : blk hp' = some k
      · exact (hk k h2).2
      · simp [h2] at hk2
  · simp only [if_pos hr]; exact h.tag
  · rw [hV, heap_setCell_same _ r 4 _ _ _ (heap_setCell_same _ r 3 _ _ _ (heap_setCell_same _ r 2 _ _ _ (heap_setCell_same _ r 1 _ _ _ hrow))), hQ]
    rfl
  · exact hH.same (fun k hk2 _ => ne k (by rintro rfl; have := (hk k hk2).1; omega))
  · intro k hk2
    have := (hk k hk2).1
    simp only [if_neg (show ¬ k < w.heap.size by omega), if_pos hk2]
  · rw [hQ]; exact OwnB.nil _ _
  · intro k hk2; cases hk2
  · rw [hQ]; simp
  · have k1 : Kp w V (fun k => g k ≠ 0) := Kp.of hb
    refine ⟨?_, ?_, ?_, ?_, fun k hk2 hn => ?_⟩
    · rw [hV]; exact k1.os
    · rw [hV]; exact k1.tape
    · rw [hV]; exact k1.output
    · rw [hsz]; exact k1.size
    · exact (ne k (by rintro rfl; exact hn (by rw [h.tag]; decide))).trans (k1.block k hk2 hn)
  · intro k hk2
    simp only [if_pos hk2]

set_option maxHeartbeats 4000000 in
theorem behindHead_any (E : World → Prop) (R : HdM) (hR : RHs E R) (hok : Rok R) (w : World) (g : Nat → Nat) (r : Nat) (tk : Value) (Q : Rq) (hp : Option Addr) (hc : Nat) (bp : Option Addr) (bc : Nat) (x : List UInt8) (h : RdB w g r tk Q hp hc bp bc) (hE : E w) (hx : x.length ≤ 8192) :
    Calls Tryz.prog 99 #[pt r, .string (str x)] w fun e w' => Ret w g r (bhM R Q x) e w' := by
  have HR := hide (hR x w hx hE)
  have HH := hide h
  have hrl := h.lt
  have HOK := hide (hok x)
  obtain ⟨⟨Q', F, st⟩, hy⟩ : ∃ y, R x = y := ⟨_, rfl⟩
  have HB : Hid (bhM R Q x = if st ≠ 0 then (st, .head x, Q) else if F.c then (1, .chunk 0 0, Q') else if F.n = 0 then (0, .head x, Q') else (1, .bytes F.n .fin, Q')) := by
    show _ = _
    unfold bhM
    rw [hy]
  rw [hy] at HR HOK
  clear hR hok h hE hy
  obtain ⟨fc, fn⟩ := F
  simp only at HR HB HOK
  have hfn : fn ≤ 32768 := (unhide HOK).2.1
  by_cases hst : st = 0
  · subst hst
    go_enter Tryz.func99, Tryz.ntmps99
    go_wp2_with fail
    refine (unhide HR).mono ?_
    rintro e w1 ⟨hp', hc', rfl, HH1, HK1, HB1⟩
    obtain ⟨V, hV⟩ : ∃ V, V = (w1.alloc (.cells #[.string (str Q'.m), .string (str Q'.p), .slice hp' Q'.h.length hc', .slice none 0 0] 39)).alloc (.cells #[.bool fc, .int .i64 (fn : Int)] 152) := ⟨_, rfl⟩
    have hbV : Below w1.heap.size w1 V := by rw [hV]; exact ((Below.refl _ _).alloc (Nat.le_refl _) _).alloc (by simp) _
    have hrV : V.heap[w1.heap.size]? = some (.cells #[.string (str Q'.m), .string (str Q'.p), .slice hp' Q'.h.length hc', .slice none 0 0] 39 (0, 0)) := by
      rw [hV, Below.heap_alloc _ _ _ (by simp)]; exact heap_alloc_new w1 _
    have hfV : V.heap[w1.heap.size + 1]? = some (.cells #[.bool fc, .int .i64 (fn : Int)] 152 (0, 0)) := by
      have := heap_alloc_new (w1.alloc (.cells #[.string (str Q'.m), .string (str Q'.p), .slice hp' Q'.h.length hc', .slice none 0 0] 39)) (.cells #[.bool fc, .int .i64 (fn : Int)] 152)
      rw [← hV] at this
      rw [← this]; simp
    have hb : Below w.heap.size w V := (unhide HB1).trans (hbV.mono (unhide HB1).size)
    have hrow := (hb.block r hrl).trans (unhide HH).row
    have a0 : V.cell? ⟨w1.heap.size, 0, none⟩ = some (.string (str Q'.m)) := by rw [cell_of_row V _ 0 _ _ _ hrV]; rfl
    have a1 : V.cell? ⟨w1.heap.size, 1, none⟩ = some (.string (str Q'.p)) := by rw [cell_of_row V _ 1 _ _ _ hrV]; rfl
    have a2 : V.cell? ⟨w1.heap.size, 2, none⟩ = some (.slice hp' Q'.h.length hc') := by rw [cell_of_row V _ 2 _ _ _ hrV]; rfl
    have a3 : V.cell? ⟨w1.heap.size, 3, none⟩ = some (.slice none 0 0) := by rw [cell_of_row V _ 3 _ _ _ hrV]; rfl
    have r1 : V.cell? ⟨r, 1, none⟩ = some (.string (str Q.m)) := by rw [cell_of_row V r 1 _ _ _ hrow]; rfl
    have r2 : V.cell? ⟨r, 2, none⟩ = some (.string (str Q.p)) := by rw [cell_of_row V r 2 _ _ _ hrow]; rfl
    have r3 : V.cell? ⟨r, 3, none⟩ = some (.slice hp Q.h.length hc) := by rw [cell_of_row V r 3 _ _ _ hrow]; rfl
    have r4 : V.cell? ⟨r, 4, none⟩ = some (.slice bp Q.b.length bc) := by rw [cell_of_row V r 4 _ _ _ hrow]; rfl
    have z1 := frozen_of_row V r 1 _ _ hrow
    have z2 := frozen_of_row V r 2 _ _ hrow
    have z3 := frozen_of_row V r 3 _ _ hrow
    have z4 := frozen_of_row V r 4 _ _ hrow
    obtain ⟨V2, hV2⟩ : ∃ V2, V2 = (((V.setCell ⟨r, 1, none⟩ (.string (str Q'.m))).setCell ⟨r, 2, none⟩ (.string (str Q'.p))).setCell ⟨r, 3, none⟩ (.slice hp' Q'.h.length hc')).setCell ⟨r, 4, none⟩ (.slice none 0 0) := ⟨_, rfl⟩
    obtain ⟨g', k1, k2, k3⟩ := request_set (Q' := Q') (unhide HH) hb ((unhide HH1).below hbV (Nat.le_refl _)) (fun k hk => ⟨((unhide HK1) k hk).1, Nat.lt_of_lt_of_le ((unhide HK1) k hk).2 hbV.size⟩) (unhide HOK).1 hV2
    have hs1 := (unhide HB1).size
    have hf2 : V2.heap[w1.heap.size + 1]? = some (.cells #[.bool fc, .int .i64 (fn : Int)] 152 (0, 0)) := by
      rw [hV2, Below.heap_setCell _ ⟨r, 4, none⟩ _ _ (show w1.heap.size + 1 ≠ r by omega), Below.heap_setCell _ ⟨r, 3, none⟩ _ _ (show w1.heap.size + 1 ≠ r by omega), Below.heap_setCell _ ⟨r, 2, none⟩ _ _ (show w1.heap.size + 1 ≠ r by omega), Below.heap_setCell _ ⟨r, 1, none⟩ _ _ (show w1.heap.size + 1 ≠ r by omega)]
      exact hfV
    have b0 : V2.cell? ⟨w1.heap.size + 1, 0, none⟩ = some (.bool fc) := by rw [cell_of_row V2 _ 0 _ _ _ hf2]; rfl
    have b1 : V2.cell? ⟨w1.heap.size + 1, 1, none⟩ = some (.int .i64 (fn : Int)) := by rw [cell_of_row V2 _ 1 _ _ _ hf2]; rfl
    have HG := hide k1
    have HK := hide k2
    have HO : Hid (∀ k, k < w.heap.size → g k = 0 → g' k = 0) := fun k hk h0 => by rw [k3 k hk]; exact h0
    clear hrV hfV hrow hb hbV HH1 HK1 k1 k2 k3 hf2 hs1
    go_upto_region 4 with fail
    rw [← hV]
    clear hV
    go_upto_region 5 with fail
    rw [← hV2]
    clear hV2 a0 a1 a2 a3 r1 r2 r3 r4 z1 z2 z3 z4
    cases fc with
    | true =>
      have HS : Hid (bhM R Q x = (1, .chunk 0 0, Q')) := by show _ = _; rw [unhide HB]; simp
      have HC := hide (chunk_any V2 g' r tk Q' hp' hc' none 0 (unhide HG))
      go_wp2_with (go_at_call 120; refine (unhide HC).mono ?_; rintro e w2 ⟨rfl, hr2⟩)
      go_ret
      rw [unhide HS]
      exact Ret.behind (unhide HK) (unhide HO) (Res.ret (x := (1, .chunk 0 0)) ⟨rfl, hr2⟩)
    | false =>
      by_cases h0 : fn = 0
      · subst h0
        have HS : Hid (bhM R Q x = (0, .head x, Q')) := by show _ = _; rw [unhide HB]; simp
        go_wp2_with (go_at_call 121; refine (bytes_zero V2 r).mono ?_; rintro e w2 ⟨rfl, hb2⟩)
        go_ret
        rw [unhide HS]
        exact Ret.behind (unhide HK) (unhide HO) (Res.ret (x := (0, .head x)) (Res.none (unhide HG) (unhide hb2) 0 _ (by decide)))
      · have HS : Hid (bhM R Q x = (1, .bytes fn .fin, Q')) := by show _ = _; rw [unhide HB]; simp [h0]
        have HC := hide (bytes_any V2 g' r tk (.func (.func 122) #[pt r] #[]) .fin fn Q' hp' hc' none 0 (unhide HG) rfl (by omega) (by omega))
        clear h0
        go_wp2_with (go_at_call 121; refine (unhide HC).mono ?_; rintro e w2 ⟨rfl, hr2⟩)
        go_ret
        rw [unhide HS]
        exact Ret.behind (unhide HK) (unhide HO) (Res.ret (x := (1, .bytes fn .fin)) ⟨rfl, hr2⟩)
  · have hst' : ((st : Int) != 0) = true := by simp; omega
    have HS : Hid (bhM R Q x = (st, .head x, Q)) := by show _ = _; rw [unhide HB, if_pos hst]
    have h1 : st ≠ 1 := (unhide HOK).2.2
    clear hst HB
    go_enter Tryz.func99, Tryz.ntmps99
    go_wp2_with fail
    refine (unhide HR).mono ?_
    rintro e w1 ⟨hp', hc', rfl, HH1, HK1, HB1⟩
    go_wp2
    go_ret
    rw [unhide HS]
    exact Res.ret (x := (st, .head x)) (Res.none (unhide HH) ((unhide HB1).trans ((((Below.refl _ _).alloc (Nat.le_refl _) _).alloc (by simp) _).mono (unhide HB1).size)) st _ h1)
#print axioms behindHead_any
end Go.Proofs.YtonaekkenggmbaaGreatDoor
end
