/-
  THE WALK OF WireForms.
-/
import Derived.Test.YthkeghbhckamoabCurX
import Derived.Test.YthkeghbhckamoabNumX
import Derived.Test.YthkeghbhckamoabUnf
import Derived.Test.YthkeghbhckamoabFrmQ
set_option linter.unusedVariables false
namespace Go.Proofs.Ythkeghbhckamoab
open Go.RowKit

theorem bs_nil (w : World) : Bs w none 0 [] := ⟨fun h => absurd rfl h, Nat.le_refl _, by unfold maxLen; omega, fun _ => rfl⟩

theorem sum_nil (w : World) : Calls Try.prog 9 #[.slice none 0 0] w fun e w' => e = .returned (.int .u32 0) ∧ w' = w := by
  refine (wsum_none none 0 w).mono ?_
  rintro e w' ⟨rfl, rfl⟩
  exact ⟨ret_int (by decide +kernel), rfl⟩

theorem bs_lit (w : World) (z : Int) (c : UInt8) (h : z = (c.toNat : Int)) : Bs (w.alloc (.cells #[.int .u8 z] 5)) (some ⟨w.heap.size, 0, none⟩) 1 [c] :=
  ⟨row_lit w z c h, by simp, by unfold maxLen; omega, fun h => by cases h⟩

theorem below_cur {B : Nat} {w0 w w' : World} {C : Nat} (h : Below B w0 w) (hg : w.grownBy w' (some C)) (hB : B ≤ w.heap.size) (hC : B ≤ C) : Below B w0 w' :=
  h.grown hg hB (fun k hk => by have := Option.some.inj hk; omega)

theorem tx_ok (l t : List UInt8) (m : Int) (S : Nat) (h : (t, 0, S) = tx l m) : ∃ s n, txOk l t s n ∧ S = s + n := by
  unfold tx at h
  by_cases h1 : (rd l).2.2 ≠ 0
  · rw [if_pos h1] at h
    simp only [Prod.mk.injEq] at h
    exact absurd h.2.1.symm h1
  · rw [if_neg h1] at h
    split at h
    · simp at h
    · split at h
      · simp at h
      · rename_i q1 q2
        simp only [Prod.mk.injEq, true_and] at h
        exact ⟨(rd l).2.1, (rd l).1, ⟨by simpa using h1, rfl, rfl, by omega, h.1⟩, h.2⟩

theorem tx_err (l t : List UInt8) (m : Int) (E S : Nat) (h : (t, E, S) = tx l m) (hE : E ≠ 0) : S = 0 := by
  unfold tx at h
  split at h
  · simp only [Prod.mk.injEq] at h; exact h.2.2
  · split at h
    · simp only [Prod.mk.injEq] at h; exact h.2.2
    · split at h
      · simp only [Prod.mk.injEq] at h; exact h.2.2
      · simp only [Prod.mk.injEq] at h; exact absurd h.2.1 hE

theorem tx_le (l t : List UInt8) (m : Int) (S : Nat) (h : (t, 0, S) = tx l m) : t.length ≤ l.length ∧ S ≤ l.length := by
  obtain ⟨s, n, h1, h2⟩ := tx_ok l t m S h
  have h3 := txOk_form l t s n h1
  obtain ⟨q1, q2, q3, q4, q5⟩ := h1
  have := rd_le l
  omega

set_option maxHeartbeats 400000 in
theorem wireForms_big (a0 : Option Addr) (cap0 : Nat) (l0 : List UInt8) (w : World) (hm : l0.length ≤ maxLen) (h1 : 262144 < l0.length) :
    Calls Try.prog 3 #[.slice a0 l0.length cap0] w fun e w' => e = .returned (.bool true) ∧ Below w.heap.size w w' := by
  unfold maxLen at hm
  go_enter Try.func3, Try.ntmps3
  go_wp2_with fail
  refine (sum_nil w).mono ?_
  rintro e w1 ⟨rfl, rfl⟩
  go_wp2
  go_ret
  exact ⟨rfl, Below.refl _ _⟩

set_option maxHeartbeats 4000000 in
theorem wireForms_small (a0 : Option Addr) (cap0 : Nat) (l0 : List UInt8) (w : World) (w0 : Bs w a0 cap0 l0) (h1 : ¬ 262144 < l0.length) :
    Calls Try.prog 3 #[.slice a0 l0.length cap0] w fun e w' => e = .returned (.bool true) ∧ Below w.heap.size w w' := by
  have hcap := w0.le
  go_enter Try.func3, Try.ntmps3
  go_wp2_with fail
  refine (from_any (some ⟨w.heap.size, 0, none⟩) 1 1 [7] _ (bs_lit w 7 7 rfl) rfl (by simp)).mono ?_
  rintro e v1 ⟨C1, a1, cap1, rfl, hC1, hC1l, _, hb1⟩
  have hW1 : Below w.heap.size w v1 := ((Below.refl _ _).alloc (Nat.le_refl _) _).trans (hb1.mono (by simp))
  have hC1g : w.heap.size ≤ C1 := by simp at hC1l; omega
  go_wp2_with fail
  refine (cnumber_any C1 a1 cap1 [7] 0 v1 hC1).mono ?_
  rintro e v2 ⟨N2, S2, E2, rfl, hr2, _, hg2⟩
  have hq := hr2.out
  have hq2 : rd ([7].drop 0) = (7, 1, 0) := by decide
  rw [hq2] at hq
  simp only [Prod.mk.injEq] at hq
  obtain ⟨rfl, rfl, rfl⟩ := hq
  have hW2 := below_cur hW1 hg2 hW1.size hC1g
  clear hr2 hq2 hg2 hW1 hC1 hC1l hb1 hC1g
  go_wp2_with fail
  -- a number
  refine (from_any a0 _ cap0 l0 v2 (w0.below hW2 (Nat.le_refl _)) rfl (by omega)).mono ?_
  rintro e v3 ⟨C3, a3, cap3, rfl, hC3, hC3l, _, hb3⟩
  have hW3 := hW2.trans (hb3.mono hW2.size)
  have hC3g : w.heap.size ≤ C3 := by have := hW2.size; omega
  go_wp2_with fail
  refine (cnumber_any C3 a3 cap3 l0 0 v3 hC3).mono ?_
  rintro e v4 ⟨N4, S4, E4, rfl, hr4, hC4, hg4⟩
  have hW4 := below_cur hW3 hg4 hW3.size hC3g
  have hr4' := hr4.out
  rw [List.drop_zero] at hr4'
  have hrl := rd_le l0
  rw [← hr4'] at hrl
  obtain ⟨hrl1, hrl2, hrl3⟩ := hrl
  simp only at hrl1 hrl2 hrl3
  have HRL := hide hr4'
  clear hb3 hW2 hW3 hC3 hg4 hC3l hr4 hr4'
  by_cases hE4 : E4 = 0
  case' pos =>
    subst hE4
    have hfm : form N4 = l0.take S4 := by
      have := form_rd l0 (by rw [← HRL.out])
      rw [← HRL.out] at this
      exact this
    have HFM := hide hfm
    clear hfm
    go_wp2_with fail
    refine (number_any none 0 [] (N4 : Int) v4 (bs_nil v4) (by simp) (by omega) (by omega)).mono ?_
    rintro e v5 ⟨a5, cap5, x, rfl, hr5, ho5, hb5⟩
    have hC5 := hC4.below hb5 (Nat.le_refl _)
    have hW5 := hW4.trans (hb5.mono hW4.size)
    have hxx : x = l0.take S4 := by rw [hr5.out, ← HFM.out]; simp
    subst hxx
    go_wp2_with fail
    refine (cat_any C3 a3 cap3 l0 (0 + S4) v5 hC5).mono ?_
    rintro e v5' ⟨rfl, rfl⟩
    rw [Nat.zero_add] at *
    have hSc : S4 ≤ cap0 := by omega
    have hlen := hide (show S4 = (l0.take S4).length by simp; omega)
    have hbb : (l0.take S4 == l0.take S4) = true := beq_self_eq_true _
    go_wp2_with fail
    refine (equal_any a5 _ cap5 (l0.take S4) a0 _ cap0 (l0.take S4) _ ho5.toBs.row ((w0.below hW5 (Nat.le_refl _)).row.take S4) (unhide hlen) (unhide hlen)).mono ?_
    rintro e v6 ⟨rfl, rfl⟩
    have hW6 : Below w.heap.size w v6 := hW5
    clear hbb hlen HFM HRL hr5 ho5 hb5 hC4 hC5 hW4 hW5
    go_wp2_with fail
  case' neg =>
    have hne : ((E4 : Int) != 0) = true := by rw [bne_iff_ne]; omega
    have hnq : ((E4 : Int) == 0) = false := by rw [beq_eq_false_iff_ne]; omega
    have hS0 : S4 = 0 := (rd_zero l0 N4 S4 E4 HRL.out hE4).1
    subst hS0
    go_wp2_with fail
    refine (cat_any C3 a3 cap3 l0 (0 + 0) v4 hC4).mono ?_
    rintro e v6 ⟨rfl, rfl⟩
    have hW6 : Below w.heap.size w v6 := hW4
    clear HRL hC4 hW4
    go_wp2_with fail
  all_goals
    -- a text
    refine (from_any a0 _ cap0 l0 v6 (w0.below hW6 (Nat.le_refl _)) rfl (by omega)).mono ?_
    rintro e v7 ⟨C7, a7, cap7, rfl, hC7, hC7l, _, hb7⟩
    have hW7 := hW6.trans (hb7.mono hW6.size)
    have hC7g : w.heap.size ≤ C7 := by have := hW6.size; omega
    go_wp2_with fail
    refine (ctext_any C7 a7 cap7 l0 0 (l0.length : Int) v7 hC7 (by omega) (by omega)).mono ?_
    rintro e v8 ⟨t, E8, S8, rfl, hr8, hC8, hg8⟩
    have hW8 := below_cur hW7 hg8 hW7.size hC7g
    have hr8' := hr8.out
    rw [List.drop_zero] at hr8'
    have HR8 := hide hr8'
    clear hb7 hW6 hW7 hC7 hg8 hC7l hr8 hr8'
    by_cases hE8 : E8 = 0
    case' pos =>
      subst hE8
      have htl := tx_le l0 t _ S8 HR8.out
      obtain ⟨htl1, htl2⟩ := htl
      have hfm : form t.length ++ t = l0.take S8 := by
        obtain ⟨s, n, q1, q2⟩ := tx_ok l0 t _ S8 HR8.out
        have := txOk_form l0 t s n q1
        rw [q2]
        exact this.2
      have HFM := hide hfm
      have hss := str_size t
      clear hfm
      go_wp2_with fail
      refine (text_any none 0 [] (str t) v8 (bs_nil v8) (by simp) (by rw [str_size]; omega)).mono ?_
      rintro e v9 ⟨a9, cap9, y, rfl, hr9, ho9, hb9⟩
      have hC9 := hC8.below hb9 (Nat.le_refl _)
      have hW9 := hW8.trans (hb9.mono hW8.size)
      have hyy : y = l0.take S8 := by rw [hr9.out, str_size, str_data, ← HFM.out]; simp
      subst hyy
      go_wp2_with fail
      refine (cat_any C7 a7 cap7 l0 (0 + S8) v9 hC9).mono ?_
      rintro e v9' ⟨rfl, rfl⟩
      rw [Nat.zero_add] at *
      have hSc8 : S8 ≤ cap0 := by omega
      have hlen := hide (show S8 = (l0.take S8).length by simp; omega)
      have hbb : (l0.take S8 == l0.take S8) = true := beq_self_eq_true _
      go_wp2_with fail
      refine (equal_any a9 _ cap9 (l0.take S8) a0 _ cap0 (l0.take S8) _ ho9.toBs.row ((w0.below hW9 (Nat.le_refl _)).row.take S8) (unhide hlen) (unhide hlen)).mono ?_
      rintro e v10 ⟨rfl, rfl⟩
      have hW10 : Below w.heap.size w v10 := hW9
      clear hbb hlen HFM HR8 hr9 ho9 hb9 hC8 hC9 hW8 hW9
      go_wp2_with fail
    case' neg =>
      have hne8 : ((E8 : Int) != 0) = true := by rw [bne_iff_ne]; omega
      have hnq8 : ((E8 : Int) == 0) = false := by rw [beq_eq_false_iff_ne]; omega
      have hS8 : S8 = 0 := tx_err l0 t _ E8 S8 HR8.out hE8
      subst hS8
      go_wp2_with fail
      refine (cat_any C7 a7 cap7 l0 (0 + 0) v8 hC8).mono ?_
      rintro e v10 ⟨rfl, rfl⟩
      have hW10 : Below w.heap.size w v10 := hW8
      clear HR8 hC8 hW8
      go_wp2_with fail
  all_goals
    -- a frame
    refine (unframe_any a0 _ cap0 l0 v10 (w0.below hW10 (Nat.le_refl _)) rfl).mono ?_
    rintro e v11 ⟨a11, cap11, p, N11, E11, rfl, hr11, ho11, hb11⟩
    have hW11 := hW10.trans (hb11.mono hW10.size)
    by_cases hE11 : E11 = 0
    case' pos =>
      subst hE11
      obtain ⟨hp1, hp2, hp3⟩ := unframe_back l0 p N11 hr11.out
      have HP3 := hide hp3
      clear hp3 hr11
      go_wp2_with fail
      refine (frame_ok a11 _ cap11 p v11 ho11.toBs rfl (by omega)).mono ?_
      rintro e v12 ⟨a12, cap12, f, rfl, hr12, ho12, hb12⟩
      have hW12 := hW11.trans (hb12.mono hW11.size)
      have hff : f = l0.take N11 := by rw [hr12.out, HP3.out]
      subst hff
      have hNc : N11 ≤ cap0 := by omega
      have hlen := hide (show N11 = (l0.take N11).length by simp; omega)
      have hbb : (l0.take N11 == l0.take N11) = true := beq_self_eq_true _
      go_wp2_with fail
      refine (equal_any a12 _ cap12 (l0.take N11) a0 _ cap0 (l0.take N11) _ ho12.toBs.row ((w0.below hW12 (Nat.le_refl _)).row.take N11) (unhide hlen) (unhide hlen)).mono ?_
      rintro e v13 ⟨rfl, rfl⟩
      go_wp2
      go_ret
      exact ⟨rfl, hW12⟩
    case' neg =>
      have hne11 : ((E11 : Int) != 0) = true := by rw [bne_iff_ne]; omega
      obtain ⟨rfl, rfl⟩ := unframe_none l0 p N11 E11 hr11.out hE11
      go_wp2
      go_ret
      exact ⟨rfl, hW11⟩

theorem wireForms_walk (a0 : Option Addr) (cap0 : Nat) (l0 : List UInt8) (w : World) (w0 : Bs w a0 cap0 l0) :
    Calls Try.prog 3 #[.slice a0 l0.length cap0] w fun e w' => e = .returned (.bool true) ∧ Below w.heap.size w w' := by
  by_cases h : 262144 < l0.length
  · exact wireForms_big a0 cap0 l0 w (Nat.le_trans w0.le w0.most) h
  · exact wireForms_small a0 cap0 l0 w w0 h
#print axioms wireForms_walk
end Go.Proofs.Ythkeghbhckamoab
