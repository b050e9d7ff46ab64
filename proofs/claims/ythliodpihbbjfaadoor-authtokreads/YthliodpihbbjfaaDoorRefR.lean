/-
  THE WALKS of the reference's Read and of its cursor.
-/
import Derived.Test.YthliodpihbbjfaaDoorCurX
set_option linter.unusedVariables false
namespace Go.Proofs.YthliodpihbbjfaaDoor
open Go.RowKit

theorem fold_from (t : List UInt8) : ∀ n : Nat, t.foldl (fun n c => n * 256 + c.toNat) n = n * 256 ^ t.length + ofBe t := by
  induction t with
  | nil => intro n; simp [ofBe]
  | cons y t ih =>
    intro n
    have h2 : ofBe (y :: t) = (0 * 256 + y.toNat) * 256 ^ t.length + ofBe t := ih (0 * 256 + y.toNat)
    rw [List.foldl_cons, ih, h2, List.length_cons, Nat.pow_succ, Nat.add_mul, Nat.zero_mul, Nat.zero_add]
    have : n * 256 * 256 ^ t.length = n * (256 ^ t.length * 256) := by rw [Nat.mul_assoc, Nat.mul_comm 256]
    omega
theorem ofBe_cons (x : UInt8) (t : List UInt8) : ofBe (x :: t) = x.toNat * 256 ^ t.length + ofBe t := by
  have h : ofBe (x :: t) = t.foldl (fun n c => n * 256 + c.toNat) (0 * 256 + x.toNat) := rfl
  rw [h, fold_from, Nat.zero_mul, Nat.zero_add]
theorem ofBe_take_le (t : List UInt8) (k : Nat) : ofBe (t.take k) ≤ ofBe t := by
  have e : ofBe t = (ofBe (t.take k)) * 256 ^ (t.drop k).length + ofBe (t.drop k) := by
    rw [← fold_from]
    have : ofBe (t.take k ++ t.drop k) = (t.drop k).foldl (fun n c => n * 256 + c.toNat) (ofBe (t.take k)) := by
      unfold ofBe
      rw [List.foldl_append]
    rw [← this, List.take_append_drop]
  have h1 : 1 ≤ 256 ^ (t.drop k).length := Nat.pow_pos (by decide)
  have h2 := Nat.le_mul_of_pos_right (ofBe (t.take k)) h1
  omega

/-- When a form is not the least one, and when it is too great, by its second byte. -/
theorem form_bad (x : UInt8) (t : List UInt8) (k : Nat) (hk : k = t.length + 1) (hk8 : k ≤ 8) : (bb (ofBe (x :: t)) < k) ↔ (x.toNat = 0 ∨ (k = 1 ∧ x.toNat < 248)) := by
  have hx := x.toNat_lt
  have hl := ofBe_lt t
  have hc := ofBe_cons x t
  have hlen : (x :: t).length ≤ 8 := by simp; omega
  have hlt := ofBe_lt (x :: t)
  have hp8 : 256 ^ (x :: t).length ≤ 256 ^ 8 := Nat.pow_le_pow_right (by decide) hlen
  have h256 : (256 : Nat) ^ 8 = 18446744073709551616 := by decide
  by_cases h1 : k = 1
  · have ht : t = [] := List.eq_nil_of_length_eq_zero (by omega)
    subst ht
    have e : ofBe [x] = x.toNat := by rw [hc]; simp [ofBe]
    rw [e]
    unfold bb
    by_cases h : x.toNat ≤ 247
    · rw [if_pos h]; omega
    · rw [if_neg h]
      have := nb_pos x.toNat
      omega
  · have hp : 1 ≤ t.length := by omega
    have hpw : 256 ≤ 256 ^ t.length := by
      have := Nat.pow_le_pow_right (show 0 < 256 by decide) hp
      simpa using this
    by_cases h0 : x.toNat = 0
    · rw [h0, Nat.zero_mul, Nat.zero_add] at hc
      refine ⟨fun _ => .inl h0, fun _ => ?_⟩
      rw [hc]
      unfold bb
      by_cases h : ofBe t ≤ 247
      · rw [if_pos h]; omega
      · rw [if_neg h]
        by_cases hn : nb (ofBe t) < k
        · exact hn
        · exfalso
          have h2 := nb_lo (ofBe t) (by omega)
          have h3 := Nat.pow_le_pow_right (show 0 < 256 by decide) (show t.length ≤ nb (ofBe t) - 1 by omega)
          omega
    · have h2 : 256 ^ t.length ≤ ofBe (x :: t) := by
        have := Nat.le_mul_of_pos_left (256 ^ t.length) (show 0 < x.toNat by omega)
        omega
      refine ⟨fun h => ?_, fun h => by omega⟩
      exfalso
      unfold bb at h
      rw [if_neg (by omega)] at h
      have h3 := nb_hi (ofBe (x :: t)) (by omega)
      have h4 := Nat.pow_le_pow_right (show 0 < 256 by decide) (show nb (ofBe (x :: t)) ≤ t.length by omega)
      omega
theorem form_big (x : UInt8) (t : List UInt8) (k : Nat) (hk : k = t.length + 1) (hk8 : k ≤ 8) : (9223372036854775807 < ofBe (x :: t)) ↔ (k = 8 ∧ 128 ≤ x.toNat) := by
  have hx := x.toNat_lt
  have hl := ofBe_lt t
  have hc := ofBe_cons x t
  by_cases h8 : k = 8
  · have ht : t.length = 7 := by omega
    rw [ht] at hc hl
    have e : (256 : Nat) ^ 7 = 72057594037927936 := by decide
    rw [e] at hc hl
    omega
  · have hlt := ofBe_lt (x :: t)
    have hp := Nat.pow_le_pow_right (show 0 < 256 by decide) (show (x :: t).length ≤ 7 by simp; omega)
    have e : (256 : Nat) ^ 7 = 72057594037927936 := by decide
    omega

set_option maxRecDepth 20000 in
set_option maxHeartbeats 2000000 in
theorem rread_any (a : Option Addr) (n cap : Nat) (l : List UInt8) (w : World) (hB : Bs w a cap l) (hn : n = l.length) :
    Calls Tryd.prog 65 #[.slice a n cap] w fun e w' => ∃ N S E : Nat, e = .returned (.tuple #[.int .i64 (N : Int), .int .i64 (S : Int), .int .i64 (E : Int)]) ∧ Hid ((N, S, E) = rd l) ∧ w' = w := by
  subst hn
  have hle := hB.le
  have hm := hB.most
  unfold maxLen at hm
  cases l with
  | nil =>
    go_enter Tryd.func65, Tryd.ntmps65
    go_wp2
    go_ret3
    exact ⟨0, 0, 2, rfl, rfl, rfl⟩
  | cons c t =>
    obtain ⟨b, off, rfl, hc⟩ := hB.row (by simp)
    have h0 : w.cell? ⟨b, off, none⟩ = some (.int .u8 (c.toNat : Int)) := by simpa using hc 0 (by simp)
    have hcl := c.toNat_lt
    have hlen : (c :: t).length = t.length + 1 := by simp
    obtain ⟨L, hL⟩ : ∃ L, L = (c :: t).length := ⟨_, rfl⟩
    have hL1 : 1 ≤ L := by omega
    have hLz : ((L : Int) == 0) = false := by simp; omega
    have HL := hide (show L = t.length + 1 by omega)
    rw [← hL]
    have hcap : L ≤ cap := by omega
    have Hc := hide hc
    have hLm : L ≤ 9223372036854775807 := by omega
    clear hL hlen hle hc
    obtain ⟨x, hx⟩ : ∃ x, x = c.toNat := ⟨_, rfl⟩
    have Hx := hide hx
    rw [← hx] at h0 hcl
    clear hx
    by_cases h1 : x ≤ 247
    · have hk : (x : Int) - 247 ≤ 0 := by omega
      go_enter Tryd.func65, Tryd.ntmps65
      go_wp2
      go_ret3
      exact ⟨x, 1, 0, rfl, by show _ = _; rw [unhide Hx] at h1 ⊢; simp only [rd, if_pos h1], rfl⟩
    · obtain ⟨k, hk⟩ : ∃ k, k = x - 247 := ⟨_, rfl⟩
      have hki : (x : Int) - 247 = (k : Int) := by omega
      have hk1 : 1 ≤ k := by omega
      have hk8 : k ≤ 8 := by omega
      have hkd : decide ((k : Int) ≤ 0) = false := by simp; omega
      have Hk := hide (show c.toNat - 247 = k by rw [← unhide Hx]; omega)
      have Hx2 := hide (show ¬ c.toNat ≤ 247 by rw [← unhide Hx]; omega)
      clear hk h1
      by_cases h2 : L < k + 1
      · have h2i : (L : Int) < (k : Int) + 1 := by omega
        go_enter Tryd.func65, Tryd.ntmps65
        go_wp2
        go_ret3
        exact ⟨0, 0, 2, rfl, by show _ = _; simp only [rd, if_neg (unhide Hx2), unhide Hk]; rw [if_pos (by have := unhide HL; omega)], rfl⟩
      · cases t with
        | nil => exfalso; have := unhide HL; simp at this; omega
        | cons y t' =>
          have h1c : w.cell? ⟨b, off + 1, none⟩ = some (.int .u8 (y.toNat : Int)) := by simpa using unhide Hc 1 (by simp)
          have hyl := y.toNat_lt
          obtain ⟨u, hu⟩ : ∃ u, u = (y :: t').take k := ⟨_, rfl⟩
          have hul : u.length = k := by rw [hu, List.length_take]; have := unhide HL; simp at this ⊢; omega
          have hu2 : u = y :: t'.take (k - 1) := by
            rw [hu]
            obtain ⟨k', rfl⟩ : ∃ k', k = k' + 1 := ⟨k - 1, by omega⟩
            simp
          have hkl : k = (t'.take (k - 1)).length + 1 := by
            have := hul
            rw [hu2] at this
            simp only [List.length_cons] at this
            omega
          have HF := hide (form_bad y (t'.take (k - 1)) k hkl hk8)
          have HG := hide (form_big y (t'.take (k - 1)) k hkl hk8)
          rw [← hu2] at HF HG
          have HR : Hid (rd (c :: y :: t') = if bb (ofBe u) < k then (0, 0, 10) else if 9223372036854775807 < ofBe u then (0, 0, 5) else (ofBe u, k + 1, 0)) := by
            show _ = _
            have hx2 := unhide Hx2
            have hkk := unhide Hk
            simp only [rd, if_neg hx2, hkk]
            rw [if_neg (by have := unhide HL; simp at this ⊢; omega), ← hu]
          have HC : Hid (∀ j, j < k → w.cell? ⟨b, off + (j + 1), none⟩ = some (.int .u8 ((u.getD j 0).toNat : Int))) := by
            intro j hj
            have := unhide Hc (j + 1) (by have := unhide HL; simp at this ⊢; omega)
            rw [this, hu]
            simp [hj]
          have Hul := hide hul
          have h2i : ¬ (L : Int) < (k : Int) + 1 := by omega
          have hL2 : 2 ≤ L := by omega
          clear hu hu2 hkl Hc hul
          obtain ⟨z, hz⟩ : ∃ z, z = y.toNat := ⟨_, rfl⟩
          rw [← hz] at h1c hyl HF HG
          clear hz
          by_cases hz0 : z = 0
          · subst hz0
            have hb : bb (ofBe u) < k := (unhide HF).2 (.inl rfl)
            have HRR : Hid (rd (c :: y :: t') = (0, 0, 10)) := by show _ = _; rw [unhide HR, if_pos hb]
            clear hb HR HF HG HC
            go_enter Tryd.func65, Tryd.ntmps65
            go_wp2
            go_ret3
            exact ⟨0, 0, 10, rfl, (unhide HRR).symm, rfl⟩
          · have hz0d : ((z : Int) == 0) = false := by simp; omega
            by_cases hk1' : k = 1
            · subst hk1'
              by_cases hz2 : z < 248
              · have hb : bb (ofBe u) < 1 := (unhide HF).2 (.inr ⟨rfl, hz2⟩)
                have HRR : Hid (rd (c :: y :: t') = (0, 0, 10)) := by show _ = _; rw [unhide HR, if_pos hb]
                have hz2i : (z : Int) < 248 := by omega
                clear hb HR HF HG HC hz0
                go_enter Tryd.func65, Tryd.ntmps65
                go_wp2
                go_ret3
                exact ⟨0, 0, 10, rfl, (unhide HRR).symm, rfl⟩
              · have hb : ¬ bb (ofBe u) < 1 := fun h => by rcases (unhide HF).1 h with h | h <;> omega
                have hg : ¬ 9223372036854775807 < ofBe u := fun h => by have := (unhide HG).1 h; omega
                have HRR : Hid (rd (c :: y :: t') = (ofBe u, 2, 0)) := by show _ = _; rw [unhide HR, if_neg hb, if_neg hg]
                have hz2i : ¬ (z : Int) < 248 := by omega
                have hz2d : decide ((z : Int) < 248) = false := by simp; omega
                obtain ⟨v, hv⟩ : ∃ v, u = [v] := by
                  match u, unhide Hul with
                  | [v], _ => exact ⟨v, rfl⟩
                subst hv
                have hc0 := unhide HC 0 (by omega)
                simp at hc0
                rw [h1c] at hc0
                have hvz : v.toNat = z := by simp at hc0; omega
                have HN : Hid (ofBe [v] = z) := by show _ = _; rw [← hvz]; simp [ofBe]
                clear hb hg HR HF HG HC hz0 hz2 hc0 hvz
                go_enter Tryd.func65, Tryd.ntmps65
                go_wp2
                refine wp_loop_rounds 2 ?_
                rw [rounds_succ]
                go_wp2
                rw [rounds_succ]
                go_wp2
                go_ret3
                exact ⟨z, 2, 0, rfl, by show _ = _; rw [unhide HRR, unhide HN], rfl⟩
            · have hk1d : ((k : Int) == 1) = false := by simp; omega
              have hb : ¬ bb (ofBe u) < k := fun h => by rcases (unhide HF).1 h with h | h <;> omega
              by_cases hg : 9223372036854775807 < ofBe u
              · have HRR : Hid (rd (c :: y :: t') = (0, 0, 5)) := by show _ = _; rw [unhide HR, if_neg hb, if_pos hg]
                obtain ⟨hk8', hz128⟩ := (unhide HG).1 hg
                subst hk8'
                have hz128i : (128 : Int) ≤ (z : Int) := by omega
                clear hb hg HR HF HG HC hz0
                go_enter Tryd.func65, Tryd.ntmps65
                go_wp2
                go_ret3
                exact ⟨0, 0, 5, rfl, (unhide HRR).symm, rfl⟩
              · have HRR : Hid (rd (c :: y :: t') = (ofBe u, k + 1, 0)) := by show _ = _; rw [unhide HR, if_neg hb, if_neg hg]
                have hgl : ofBe u ≤ 9223372036854775807 := by omega
                have hcond : ¬ (k = 8 ∧ 128 ≤ z) := fun h => hg ((unhide HG).2 h)
                have hpick : (((k : Int) == 8) && decide ((128 : Int) ≤ (z : Int))) = false := by
                  by_cases h8 : k = 8
                  · have : ¬ 128 ≤ z := fun h => hcond ⟨h8, h⟩
                    simp; omega
                  · simp; omega
                have HW : Hid (∀ Q : Prop, (k = 8 → ¬ 128 ≤ z → Q) → (¬ k = 8 → Q) → Q) := fun Q h1 h2 => by
                  by_cases h8 : k = 8
                  · exact h1 h8 (fun h => hcond ⟨h8, h⟩)
                  · exact h2 h8
                clear hb hg HR HF HG hz0 hcond hpick
                by_cases h8 : k = 8
                · have h8d : ((k : Int) == 8) = true := by simp; omega
                  have hz128 : decide ((128 : Int) ≤ (z : Int)) = false := by
                    have : ¬ 128 ≤ z := unhide HW _ (fun _ h => h) (fun h => absurd h8 h)
                    simp; omega
                  clear h8 HW
                  go_enter Tryd.func65, Tryd.ntmps65
                  go_wp2
                  go_loop [6, 7] (fun n i => ∃ J : Nat, 1 ≤ J ∧ J ≤ k + 1 ∧ i = .int .i64 (J : Int) ∧ n = .int .i64 ((ofBe (u.take (J - 1)) : Nat) : Int)) (fun _ i => k + 1 - (intOf i).toNat)
                  case atStart => exact ⟨1, Nat.le_refl _, by omega, rfl, by simp [ofBe]⟩
                  case round =>
                    obtain ⟨J, hJ1, hJ2, rfl, rfl⟩ := hrel
                    by_cases hJk : J ≤ k
                    · have hcj := unhide HC (J - 1) (by omega)
                      rw [show J - 1 + 1 = J by omega] at hcj
                      have HS : Hid (ofBe (u.take (J + 1 - 1)) = ofBe (u.take (J - 1)) * 256 + (u.getD (J - 1) 0).toNat) := by
                        show _ = _
                        rw [show J + 1 - 1 = (J - 1) + 1 by omega]
                        exact ofBe_take u (J - 1) (by have := unhide Hul; omega)
                      have hle2 : ofBe (u.take (J + 1 - 1)) ≤ 9223372036854775807 := Nat.le_trans (ofBe_take_le u _) hgl
                      have hyy := (u.getD (J - 1) 0).toNat_lt
                      rw [unhide HS] at hle2
                      generalize (u.getD (J - 1) 0).toNat = Y at *
                      generalize ofBe (u.take (J - 1)) = A at *
                      have hJL : J < L := by omega
                      have hJLi : (J : Int) < (L : Int) := by omega
                      go_wp2
                      go_round
                      case rel => exact ⟨J + 1, by omega, by omega, by go_num, by rw [unhide HS]; go_num⟩
                      case measure => simp [intOf]; omega
                    · obtain rfl : J = k + 1 := by omega
                      have HT : Hid (u.take (k + 1 - 1) = u) := by show _ = _; exact List.take_of_length_le (by have := unhide Hul; omega)
                      rw [unhide HT]
                      go_wp2
                      go_ret3
                      exact ⟨ofBe u, k + 1, 0, rfl, (unhide HRR).symm, rfl⟩
                · have h8d : ((k : Int) == 8) = false := by simp; omega
                  clear h8 HW
                  go_enter Tryd.func65, Tryd.ntmps65
                  go_wp2
                  go_loop [6, 7] (fun n i => ∃ J : Nat, 1 ≤ J ∧ J ≤ k + 1 ∧ i = .int .i64 (J : Int) ∧ n = .int .i64 ((ofBe (u.take (J - 1)) : Nat) : Int)) (fun _ i => k + 1 - (intOf i).toNat)
                  case atStart => exact ⟨1, Nat.le_refl _, by omega, rfl, by simp [ofBe]⟩
                  case round =>
                    obtain ⟨J, hJ1, hJ2, rfl, rfl⟩ := hrel
                    by_cases hJk : J ≤ k
                    · have hcj := unhide HC (J - 1) (by omega)
                      rw [show J - 1 + 1 = J by omega] at hcj
                      have HS : Hid (ofBe (u.take (J + 1 - 1)) = ofBe (u.take (J - 1)) * 256 + (u.getD (J - 1) 0).toNat) := by
                        show _ = _
                        rw [show J + 1 - 1 = (J - 1) + 1 by omega]
                        exact ofBe_take u (J - 1) (by have := unhide Hul; omega)
                      have hle2 : ofBe (u.take (J + 1 - 1)) ≤ 9223372036854775807 := Nat.le_trans (ofBe_take_le u _) hgl
                      have hyy := (u.getD (J - 1) 0).toNat_lt
                      rw [unhide HS] at hle2
                      generalize (u.getD (J - 1) 0).toNat = Y at *
                      generalize ofBe (u.take (J - 1)) = A at *
                      have hJL : J < L := by omega
                      have hJLi : (J : Int) < (L : Int) := by omega
                      go_wp2
                      go_round
                      case rel => exact ⟨J + 1, by omega, by omega, by go_num, by rw [unhide HS]; go_num⟩
                      case measure => simp [intOf]; omega
                    · obtain rfl : J = k + 1 := by omega
                      have HT : Hid (u.take (k + 1 - 1) = u) := by show _ = _; exact List.take_of_length_le (by have := unhide Hul; omega)
                      rw [unhide HT]
                      go_wp2
                      go_ret3
                      exact ⟨ofBe u, k + 1, 0, rfl, (unhide HRR).symm, rfl⟩
#print axioms rread_any
end Go.Proofs.YthliodpihbbjfaaDoor
