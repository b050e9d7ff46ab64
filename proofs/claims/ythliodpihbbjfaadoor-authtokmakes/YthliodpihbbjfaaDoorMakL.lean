/-
  THE WALK of AuthtokMakes.
-/
import Derived.Test.YthliodpihbbjfaaDoorAutY
set_option linter.unusedVariables false
set_option maxRecDepth 1000000
namespace Go.Proofs.YthliodpihbbjfaaDoor
open Go.RowKit

set_option maxHeartbeats 8000000 in
theorem authtokMakes_walk (p : Option Addr) (cp : Nat) (L : List Sec) (c g : List UInt8) (u : Int) (s : List UInt8) (w : World) (h : SecR w p L) (hl : L.length ≤ maxLen) (hc : c.length ≤ maxLen) (hg : g.length ≤ maxLen) (hu0 : -9223372036854775808 ≤ u) (hu1 : u ≤ 9223372036854775807) (hs : s.length ≤ maxLen) (hT : Tb w) :
    Calls Tryd.prog 3 #[.slice p L.length cp, .agg #[.string (str c), .string (str g), .int .i64 u], .string (str s)] w fun e w' => e = .returned (.bool true) ∧ Below w.heap.size w w' := by
  unfold maxLen at hc hg hs
  have HS := hide h
  have HT := hide hT
  have hsc : (str c).size = c.length := str_size c
  have hsg : (str g).size = g.length := str_size g
  have hss : (str s).size = s.length := str_size s
  clear h hT
  have HAW : Hid (∀ W, Hid (Below w.heap.size w W) → Calls Tryd.prog 10 #[] W fun e W' => e = .returned (.bool true) ∧ Hid (Below w.heap.size w W')) := by
    intro W h
    refine (awake_any W (HT.out.below h.out HT.out.big)).mono ?_
    rintro e W' ⟨rfl, hb⟩
    exact ⟨rfl, h.out.trans (hb.mono h.out.size)⟩
  go_enter Tryd.func3, Tryd.ntmps3
  go_wp2_with fail
  have HC1 := hide (ClC.new w c g u)
  have HB1 : Hid (Below w.heap.size w (w.alloc (.cells #[.string (str c), .string (str g), .int .i64 u] 24))) := (Below.refl _ _).alloc (Nat.le_refl _) _
  generalize w.alloc (.cells #[.string (str c), .string (str g), .int .i64 u] 24) = w1 at *
  refine (secrets_any p cp L w1 (HS.out.below HB1.out (Nat.le_refl _)) hl).mono ?_
  rintro e w2 ⟨hb2, hv⟩
  have HC2 := hide (HC1.out.below hb2.out (Nat.le_refl _))
  have HB2 : Hid (Below w.heap.size w w2) := HB1.out.trans (hb2.out.mono HB1.out.size)
  have HT2 := hide (HT.out.below HB2.out HT.out.big)
  clear hb2 HC1 HB1
  obtain ⟨k0, k1, k2⟩ := HC2.out
  rcases hv with rfl | ⟨a, cap, rfl, HS2, hcap, hcm, h21⟩
  · go_wp2_with (go_at_call 10; refine (HAW.out _ HB2).mono ?_; rintro e w9 ⟨rfl, hb9⟩)
    go_ret
    exact ⟨rfl, hb9.out⟩
  by_cases q0 : 65536 < s.length
  · have d0 : decide ((65536 : Int) < (s.length : Int)) = true := decide_eq_true (by omega)
    go_wp2_with (go_at_call 10; refine (HAW.out _ HB2).mono ?_; rintro e w9 ⟨rfl, hb9⟩)
    go_ret
    exact ⟨rfl, hb9.out⟩
  have d0 : decide ((65536 : Int) < (s.length : Int)) = false := decide_eq_false (by omega)
  by_cases q1 : 65536 < c.length
  · have d1 : decide ((65536 : Int) < (c.length : Int)) = true := decide_eq_true (by omega)
    go_wp2_with (go_at_call 10; refine (HAW.out _ HB2).mono ?_; rintro e w9 ⟨rfl, hb9⟩)
    go_ret
    exact ⟨rfl, hb9.out⟩
  have d1 : decide ((65536 : Int) < (c.length : Int)) = false := decide_eq_false (by omega)
  by_cases q2 : 65536 < g.length
  · have d2 : decide ((65536 : Int) < (g.length : Int)) = true := decide_eq_true (by omega)
    go_wp2_with (go_at_call 10; refine (HAW.out _ HB2).mono ?_; rintro e w9 ⟨rfl, hb9⟩)
    go_ret
    exact ⟨rfl, hb9.out⟩
  have d2 : decide ((65536 : Int) < (g.length : Int)) = false := decide_eq_false (by omega)
  go_wp2_with fail
  refine (make_core a cap L c g u w2 HS2.out HT2.out (by omega) (by omega) (by omega) hu0 hu1).mono ?_
  rintro e w3 ⟨E, t, rfl, hE, hb3⟩
  have HS3 := hide (HS2.out.below hb3.out (Nat.le_refl _))
  have HC3 := hide (HC2.out.below hb3.out (Nat.le_refl _))
  have HB3 : Hid (Below w.heap.size w w3) := HB2.out.trans (hb3.out.mono HB2.out.size)
  clear hb3 HC2 HB2 HT2 HS2 k0 k1 k2
  obtain ⟨k0, k1, k2⟩ := HC3.out
  go_wp2_with fail
  refine (rmake_any p cp L c g u w3 (HS.out.below HB3.out (Nat.le_refl _)) (by omega) (by omega) (by omega) hu0 hu1).mono ?_
  rintro e w4 ⟨E', t', rfl, hE', hb4⟩
  obtain ⟨rfl, rfl⟩ : E = E' ∧ t = t' := by
    have := hE.out.trans hE'.out.symm
    exact Prod.mk.inj this
  have HS4 := hide (HS3.out.below hb4.out (Nat.le_refl _))
  have HB4 : Hid (Below w.heap.size w w4) := HB3.out.trans (hb4.out.mono HB3.out.size)
  clear hb4 HC3 HB3 HS3 k0 k1 k2 hE hE'
  have hq : ((str t).toList == (str t).toList) = true := by simp
  have hq2 : (E == E) = true := by simp
  obtain ⟨K, hK⟩ : ∃ K, (if ckOk L = true then (0 : Int) else 102) = K := ⟨_, rfl⟩
  have HCK : Hid (Calls Tryd.prog 13 #[.slice a L.length cap] w4 fun e w' => e = .returned (.int .i64 K) ∧ Below w4.heap.size w4 w') := by
    have := check_any a cap L L.length w4 rfl HS4.out (by omega)
    rw [hK] at this
    exact this
  have HRK : Hid (∀ W, Hid (Below w.heap.size w W) → Calls Tryd.prog 14 #[.slice p L.length cp] W fun e w' => e = .returned (.int .i64 K) ∧ Hid (Below W.heap.size W w')) := by
    intro W hW
    have := rcheck_any p cp L W (HS.out.below hW.out (Nat.le_refl _)) (by omega)
    rw [hK] at this
    exact this
  have hKK : (K == K) = true := by simp
  obtain ⟨B, hB⟩ : ∃ B, nmOk s = B := ⟨_, rfl⟩
  have HNM : Hid (∀ W, Calls Tryd.prog 15 #[.string (str s)] W fun e w' => e = .returned (.bool B) ∧ w' = W) := fun W => by
    have := name_any s W (by omega)
    rw [hB] at this
    exact this
  have HRN : Hid (∀ W, Calls Tryd.prog 16 #[.string (str s)] W fun e w' => e = .returned (.bool B) ∧ w' = W) := fun W => by
    have := rname_any s W (by omega)
    rw [hB] at this
    exact this
  have hBB : (B == B) = true := by simp
  clear hK hB
  go_wp2_with fail
  refine HCK.out.mono ?_
  rintro e w5 ⟨rfl, hb5⟩
  have HS5 := hide (HS4.out.below hb5 (Nat.le_refl _))
  have HB5 : Hid (Below w.heap.size w w5) := HB4.out.trans (hb5.mono HB4.out.size)
  clear hb5 HB4 HS4 HCK
  go_wp2_with fail
  refine (HRK.out w5 HB5).mono ?_
  rintro e w6 ⟨rfl, hb6⟩
  have HS6 := hide (HS5.out.below hb6.out (Nat.le_refl _))
  have HB6 : Hid (Below w.heap.size w w6) := HB5.out.trans (hb6.out.mono HB5.out.size)
  clear hb6 HB5 HS5 HRK
  go_wp2_with fail
  refine (HNM.out w6).mono ?_
  rintro e w7 ⟨rfl, rfl⟩
  go_wp2_with fail
  refine (HRN.out w7).mono ?_
  rintro e w8 ⟨rfl, rfl⟩
  go_wp2_with fail
  refine (sames_any a cap p cp L w8 HS6.out (HS.out.below HB6.out (Nat.le_refl _)) (by omega)).mono ?_
  rintro e w9 ⟨rfl, hb9⟩
  have HB9 : Hid (Below w.heap.size w w9) := HB6.out.trans (hb9.out.mono HB6.out.size)
  clear hb9 HB6 HS6
  go_wp2_with (go_at_call 10; refine (HAW.out _ HB9).mono ?_; rintro e w10 ⟨rfl, hb10⟩)
  go_ret
  exact ⟨rfl, hb10.out⟩
#print axioms authtokMakes_walk
end Go.Proofs.YthliodpihbbjfaaDoor
