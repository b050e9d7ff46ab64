/-
  THE WALK of AuthtokTimes.
-/
import Derived.Test.YthliodpihbbjfabDoorAutT
set_option linter.unusedVariables false
set_option maxRecDepth 1000000
namespace Go.Proofs.YthliodpihbbjfabDoor
open Go.RowKit

/-- What is read is refused at all times, or is a claim up to its time's end. -/
theorem rd_cases (L : List Sec) (s : List UInt8) : (∃ e : Int, (e = 102 ∨ e = 100) ∧ ∀ now, rdT L now s = (e, Cl.zero)) ∨ ∃ x : Cl, ∀ now, rdT L now s = if x.u ≤ now then (101, Cl.zero) else (0, x) := by
  by_cases h1 : ckOk L = false
  · exact .inl ⟨102, .inl rfl, fun now => by unfold rdT; rw [if_pos h1]⟩
  · by_cases h2 : sgn L (say s).1 (say s).2 s = false
    · exact .inl ⟨100, .inr rfl, fun now => by unfold rdT; rw [if_neg h1, if_pos h2]⟩
    · exact .inr ⟨(say s).2, fun now => by unfold rdT; rw [if_neg h1, if_neg h2]⟩

set_option maxHeartbeats 8000000 in
theorem authtokTimes_walk (p : Option Addr) (cp : Nat) (L : List Sec) (s : List UInt8) (a b : Int) (w : World) (h : SecR w p L) (hl : L.length ≤ maxLen) (hs : s.length ≤ maxLen) (hT : Tb w) :
    Calls Tryd.prog 3 #[.slice p L.length cp, .string (str s), .int .i64 a, .int .i64 b] w fun e w' => e = .returned (.bool true) ∧ Below w.heap.size w w' := by
  unfold maxLen at hs
  have HS := hide h
  have HT := hide hT
  have hss : (str s).size = s.length := str_size s
  clear h hT
  have HAW : Hid (∀ W, Hid (Below w.heap.size w W) → Calls Tryd.prog 5 #[] W fun e W' => e = .returned (.bool true) ∧ Hid (Below w.heap.size w W')) := by
    intro W h
    refine (awake_any W (HT.out.below h.out HT.out.big)).mono ?_
    rintro e W' ⟨rfl, hb⟩
    exact ⟨rfl, h.out.trans (hb.mono h.out.size)⟩
  have HLE : Hid (min a b ≤ max a b) := by show _ ≤ _; omega
  go_enter Tryd.func3, Tryd.ntmps3
  go_wp2_with fail
  refine (secrets_any p cp L w HS.out hl).mono ?_
  rintro e w2 ⟨HB2, hv⟩
  have HT2 := hide (HT.out.below HB2.out HT.out.big)
  rcases hv with rfl | ⟨d, cap, rfl, HS2, hcap, hcm, h21⟩
  · go_wp2_with (go_at_call 5; refine (HAW.out _ HB2).mono ?_; rintro e w9 ⟨rfl, hb9⟩)
    go_ret
    exact ⟨rfl, hb9.out⟩
  by_cases q1 : 65536 < s.length
  · have d1 : decide ((65536 : Int) < (s.length : Int)) = true := decide_eq_true (by omega)
    go_wp2_with (go_at_call 5; refine (HAW.out _ HB2).mono ?_; rintro e w9 ⟨rfl, hb9⟩)
    go_ret
    exact ⟨rfl, hb9.out⟩
  have d1 : decide ((65536 : Int) < (s.length : Int)) = false := decide_eq_false (by omega)
  have HRD : Hid (∀ (now : Int) (W : World), Hid (Below w2.heap.size w2 W) → Calls Tryd.prog 6 #[.slice d L.length cap, .int .i64 now, .string (str s)] W fun e W' => ∃ (E : Int) (c g : List UInt8) (u : Int), e = .returned (.tuple #[.agg #[.string (str c), .string (str g), .int .i64 u], .int .i64 E]) ∧ Hid ((E, (⟨c, g, u⟩ : Cl)) = rdT L now s) ∧ Hid (Below W.heap.size W W')) := by
    intro now W hb
    exact read_any d cap L now s W (HS2.out.below hb.out (Nat.le_refl _)) (HT2.out.below hb.out HT2.out.big) (by omega) hcap hcm (by omega)
  go_wp2_with fail
  generalize min a b = A at *
  generalize max a b = B at *
  refine (HRD.out A w2 (Below.refl _ _)).mono ?_
  rintro e w3 ⟨E1, c1, g1, u1, rfl, hE1, hb3⟩
  go_wp2_with fail
  have HX := hide (ClC.new w3 c1 g1 u1)
  have HB4 : Hid (Below w2.heap.size w2 (w3.alloc (.cells #[.string (str c1), .string (str g1), .int .i64 u1] 27))) := hb3.out.alloc hb3.out.size _
  generalize w3.alloc (.cells #[.string (str c1), .string (str g1), .int .i64 u1] 27) = w4 at *
  generalize w3.heap.size = X at *
  clear hb3
  refine (HRD.out _ w4 HB4).mono ?_
  rintro e w5 ⟨E2, c2, g2, u2, rfl, hE2, hb5⟩
  have HX5 := hide (HX.out.below hb5.out (Nat.le_refl _))
  have HB5 : Hid (Below w.heap.size w w5) := HB2.out.trans ((HB4.out.trans (hb5.out.mono HB4.out.size)).mono HB2.out.size)
  have HB6 : Hid (∀ o, Hid (Below w.heap.size w (w5.alloc o))) := fun o => HB5.out.alloc HB5.out.size o
  clear HX hb5 HB4 HRD
  obtain ⟨x0, x1, x2⟩ := HX5.out
  have hx := HX5.out.lt
  have hle := HLE.out
  have e0 : str [] = (⟨#[]⟩ : ByteArray) := rfl
  rcases rd_cases L s with ⟨er, her, hrd⟩ | ⟨x, hrd⟩
  · rw [hrd] at hE1 hE2
    have i1 := (Prod.mk.inj hE1.out).1
    have i2 := (Prod.mk.inj hE2.out).1
    subst i1
    subst i2
    clear hE1 hE2 hrd
    rcases her with rfl | rfl
    all_goals
      go_wp2_with (go_at_call 5; refine (HAW.out _ (HB6.out _)).mono ?_; rintro e w9 ⟨rfl, hb9⟩)
      go_ret
      exact ⟨rfl, hb9.out⟩
  · rw [hrd] at hE1 hE2
    clear hrd
    obtain ⟨xc, xg, xu⟩ := x
    simp only at hE1 hE2
    by_cases hA : xu ≤ A
    · have hB : xu ≤ B := by omega
      rw [if_pos hA] at hE1
      rw [if_pos (by omega)] at hE2
      have i1 := (Prod.mk.inj hE1.out).1
      have i2 := (Prod.mk.inj hE2.out).1
      subst i1
      subst i2
      clear hE1 hE2
      go_wp2_with (go_at_call 5; refine (HAW.out _ (HB6.out _)).mono ?_; rintro e w9 ⟨rfl, hb9⟩)
      go_ret
      exact ⟨rfl, hb9.out⟩
    · rw [if_neg hA] at hE1
      have i1 := Prod.mk.inj hE1.out
      have i2 := i1.2
      simp only [Cl.mk.injEq] at i2
      obtain ⟨rfl, rfl, rfl⟩ := i2
      have i3 := i1.1
      subst i3
      by_cases hB : u1 ≤ B
      · rw [if_pos hB] at hE2
        have i2 := (Prod.mk.inj hE2.out).1
        subst i2
        have y1 : decide (A < u1) = true := decide_eq_true (by omega)
        have y2 : decide (u1 ≤ B) = true := decide_eq_true hB
        clear hE1 hE2 i1
        go_wp2_with (go_at_call 5; refine (HAW.out _ (HB6.out _)).mono ?_; rintro e w9 ⟨rfl, hb9⟩)
        go_ret
        exact ⟨rfl, hb9.out⟩
      · rw [if_neg hB] at hE2
        have j1 := Prod.mk.inj hE2.out
        have j2 := j1.2
        simp only [Cl.mk.injEq] at j2
        obtain ⟨rfl, rfl, rfl⟩ := j2
        have j3 := j1.1
        subst j3
        clear hE1 hE2 i1 j1
        go_wp2_with (go_at_call 5; refine (HAW.out _ (HB6.out _)).mono ?_; rintro e w9 ⟨rfl, hb9⟩)
        go_ret
        exact ⟨rfl, hb9.out⟩
#print axioms authtokTimes_walk
end Go.Proofs.YthliodpihbbjfabDoor
