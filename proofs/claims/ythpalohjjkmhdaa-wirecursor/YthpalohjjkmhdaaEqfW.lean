/-
  THE WALK of slices.EqualFunc over slices of slices of bytes, with bytes.Equal.
-/
import Derived.Test.YthpalohjjkmhdaaByt
import Derived.Test.YthpalohjjkmhdaaOwnS
set_option linter.unusedVariables false
namespace Go.Proofs.Ythpalohjjkmhdaa
open Go.RowKit

/-- A slice of slices that can be read, and the lists that these hold. -/
structure SR (w : World) (a : Option Addr) (vs : List Sl) (ps : List (List UInt8)) : Prop where
  len : vs.length = ps.length
  row : vs ≠ [] → ∃ b off, a = some ⟨b, off, none⟩ ∧ ∀ (i : Nat) (x : Sl), vs[i]? = some x → w.cell? ⟨b, off + i, none⟩ = some (.slice x.1 x.2.1 x.2.2)
  pay : ∀ (i : Nat) (p : List UInt8), ps[i]? = some p → ∃ c cap, vs[i]? = some (c, p.length, cap) ∧ Row w c p
theorem SR.of {w : World} {base base' : Nat} {a : Option Addr} {cap : Nat} {vs : List Sl} {ps : List (List UInt8)} (h : OwnS w base a cap vs) (p : Pays w base' vs ps) : SR w a vs ps := by
  refine ⟨p.len, fun hne => ?_, fun i q hq => ?_⟩
  · obtain ⟨g, rfl, _, _, _, hc⟩ := h.some (List.length_pos_iff.2 hne)
    exact ⟨g, 0, rfl, fun i x hx => by rw [Nat.zero_add]; exact hc i x hx⟩
  · obtain ⟨c, cap, h1, h2⟩ := p.own i q hq
    exact ⟨c, cap, h1, h2.toBs.row⟩

theorem list_ext {α : Type} (x y : List α) (k : Nat) (h : x.take k = y.take k) (hx : x.length = k) (hy : y.length = k) : x = y := by
  rw [List.take_of_length_le (by omega), List.take_of_length_le (by omega)] at h
  exact h
theorem take_step {α : Type} (x y : List α) (k : Nat) (h : x.take k = y.take k) (h2 : x[k]? = y[k]?) : x.take (k + 1) = y.take (k + 1) := by
  rw [List.take_add_one, List.take_add_one, h, h2]

set_option maxHeartbeats 2000000 in
theorem eqfunc_n (a1 : Option Addr) (cap1 : Nat) (v1 : List Sl) (p1 : List (List UInt8)) (a2 : Option Addr) (cap2 : Nat) (v2 : List Sl) (p2 : List (List UInt8)) (w : World) (n1 n2 : Nat) (E1 : Hid (n1 = v1.length)) (E2 : Hid (n2 = v2.length)) (h1 : SR w a1 v1 p1) (h2 : SR w a2 v2 p2) (hl1 : n1 ≤ 1000000000) (hl2 : n2 ≤ 1000000000) :
    Calls Try.prog 12 #[.slice a1 n1 cap1, .slice a2 n2 cap2, .func (.func 13) #[] #[]] w fun e w' => e = .returned (.bool (p1 == p2)) ∧ w' = w := by
  have L1 : Hid (n1 = p1.length) := by show _ = _; rw [unhide E1]; exact h1.len
  have L2 : Hid (n2 = p2.length) := by show _ = _; rw [unhide E2]; exact h2.len
  by_cases hl : n1 = n2
  · subst hl
    go_enter Try.func12, Try.ntmps12
    go_wp2
    go_loop [17] (fun i => ∃ k : Nat, k ≤ n1 ∧ i = .int .i64 (k : Int) ∧ Hid (p1.take k = p2.take k)) (fun i => n1 - (intOf i).toNat)
    case atStart => exact ⟨0, Nat.zero_le _, rfl, (by show _ = _; simp)⟩
    case round =>
      obtain ⟨k, hk, rfl, HT⟩ := hrel
      by_cases hlt : k < n1
      · have hk1 : k < p1.length := by have := unhide L1; omega
        have hk2 : k < p2.length := by have := unhide L2; omega
        have g1 := List.getElem?_eq_getElem hk1
        have g2 := List.getElem?_eq_getElem hk2
        obtain ⟨c1, d1, hv1, hr1⟩ := h1.pay k _ g1
        obtain ⟨c2, d2, hv2, hr2⟩ := h2.pay k _ g2
        obtain ⟨b1, o1, rfl, hc1⟩ := h1.row (by intro e; subst e; have := unhide E1; simp at this; omega)
        obtain ⟨b2, o2, rfl, hc2⟩ := h2.row (by intro e; subst e; have := unhide E2; simp at this; omega)
        have k1 := hc1 k _ hv1
        have k2 := hc2 k _ hv2
        simp only at k1 k2
        obtain ⟨x, hx⟩ : ∃ x, x = p1[k] := ⟨_, rfl⟩
        obtain ⟨y, hy⟩ : ∃ y, y = p2[k] := ⟨_, rfl⟩
        rw [← hx] at k1 hr1 g1
        rw [← hy] at k2 hr2 g2
        have Hr1 := hide hr1
        have Hr2 := hide hr2
        have G1 := hide g1
        have G2 := hide g2
        clear hx hy hc1 hc2 hv1 hv2 hr1 hr2 g1 g2
        go_wp2_with fail
        refine (equal_any c1 _ d1 x c2 _ d2 y w (unhide Hr1) (unhide Hr2) rfl rfl).mono ?_
        rintro e w' ⟨rfl, rfl⟩
        by_cases hxy : x = y
        · have hb : (x == y) = true := by simp [hxy]
          have HT2 : Hid (p1.take (k + 1) = p2.take (k + 1)) := take_step p1 p2 k (unhide HT) (by rw [unhide G1, unhide G2, hxy])
          clear hxy
          rw [hb]
          go_wp2
          go_round
          case rel => exact ⟨k + 1, by omega, by go_num, HT2⟩
          case measure => simp [intOf]; omega
        · have hb : (x == y) = false := by simp [hxy]
          have HF : Hid ((p1 == p2) = false) := by
            show _ = _
            simp only [beq_eq_false_iff_ne, ne_eq]
            intro e
            apply hxy
            have := unhide G1
            rw [e, unhide G2] at this
            exact (Option.some.inj this).symm
          clear hxy
          rw [hb]
          go_wp2
          go_ret
          exact ⟨by rw [unhide HF]; rfl, rfl⟩
      · obtain rfl : k = n1 := by omega
        have HF : Hid ((p1 == p2) = true) := by
          show _ = _
          have := list_ext p1 p2 k (unhide HT) (unhide L1).symm (unhide L2).symm
          rw [this]; simp
        go_wp2
        go_ret
        exact ⟨by rw [unhide HF]; rfl, rfl⟩
  · have HF : Hid ((p1 == p2) = false) := by
      show _ = _
      simp only [beq_eq_false_iff_ne, ne_eq]
      intro e
      apply hl
      rw [unhide L1, unhide L2, e]
    have hd : ((n1 : Int) != (n2 : Int)) = true := by simp; omega
    go_enter Try.func12, Try.ntmps12
    go_wp2
    go_ret
    exact ⟨by rw [unhide HF]; rfl, rfl⟩
theorem eqfunc_any (a1 : Option Addr) (cap1 : Nat) (v1 : List Sl) (p1 : List (List UInt8)) (a2 : Option Addr) (cap2 : Nat) (v2 : List Sl) (p2 : List (List UInt8)) (w : World) (h1 : SR w a1 v1 p1) (h2 : SR w a2 v2 p2) (hl1 : v1.length ≤ 1000000000) (hl2 : v2.length ≤ 1000000000) :
    Calls Try.prog 12 #[.slice a1 v1.length cap1, .slice a2 v2.length cap2, .func (.func 13) #[] #[]] w fun e w' => e = .returned (.bool (p1 == p2)) ∧ w' = w :=
  eqfunc_n a1 cap1 v1 p1 a2 cap2 v2 p2 w _ _ rfl rfl h1 h2 hl1 hl2
#print axioms eqfunc_any
end Go.Proofs.Ythpalohjjkmhdaa
