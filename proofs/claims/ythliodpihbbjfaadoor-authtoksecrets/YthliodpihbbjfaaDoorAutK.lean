/-
  THE WALK of AuthtokBack.
-/
import Derived.Test.YthliodpihbbjfaaDoorAutT
set_option linter.unusedVariables false
set_option maxRecDepth 1000000
namespace Go.Proofs.YthliodpihbbjfaaDoor
open Go.RowKit

theorem mk_ok {L : List Sec} {x : Cl} {t : List UInt8} (h : mkT L x = (0, t)) : ckOk L = true ∧ clOk x = 0 ∧ t = tok (lastS L) x := by
  unfold mkT at h
  split at h
  · simp at h
  · rename_i h1
    split at h
    · rename_i h2
      exact absurd (Prod.mk.inj h).1 h2
    · rename_i h2
      exact ⟨by simpa using h1, by simpa using h2, (Prod.mk.inj h).2.symm⟩
theorem mk_bad {L : List Sec} {x : Cl} {E : Int} {t : List UInt8} (h : mkT L x = (E, t)) (hE : E ≠ 0) : t = [] := by
  unfold mkT at h
  split at h
  · exact (Prod.mk.inj h).2.symm
  · split at h
    · exact (Prod.mk.inj h).2.symm
    · exact absurd (Prod.mk.inj h).1.symm hE
theorem cl_names {x : Cl} (h : clOk x = 0) : x.c.length ≤ 24 ∧ x.g.length ≤ 24 ∧ 0 ≤ x.u ∧ x.u ≤ 1099511627776 := by
  unfold clOk at h
  split at h
  · rename_i hn
    rw [Bool.and_eq_true] at hn
    split at h
    · rename_i hu
      exact ⟨(nm_len hn.1).1, (nm_len hn.2).1, hu.1, hu.2⟩
    · omega
  · omega
theorem tok_len (s : Sec) (x : Cl) (h : clOk x = 0) : (tok s x).length ≤ 400 := by
  have hn := cl_names h
  simp only [tok, List.length_append, List.length_cons, sp_length, mac_length]
  have := pay_len s.1 x
  omega
theorem ok_ne {L : List Sec} (h : ckOk L = true) : L ≠ [] := by
  simp only [ckOk, Bool.and_eq_true, decide_eq_true_eq] at h
  exact h.1.1
theorem rd_last {L : List Sec} {x : Cl} {t : List UInt8} (now : Int) (h : mkT L x = (0, t)) : rdT L now t = if x.u ≤ now then (101, Cl.zero) else (0, x) := by
  obtain ⟨h1, h2, rfl⟩ := mk_ok h
  exact rd_mk L (L.length - 1) (lastS L) x now h1 (last_get L (ok_ne h1)) h2

set_option maxHeartbeats 8000000 in
theorem authtokBack_walk (p : Option Addr) (cp : Nat) (L : List Sec) (c g : List UInt8) (u now : Int) (w : World) (h : SecR w p L) (hl : L.length ≤ maxLen) (hc : c.length ≤ maxLen) (hg : g.length ≤ maxLen) (hu0 : -9223372036854775808 ≤ u) (hu1 : u ≤ 9223372036854775807) (hT : Tb w) :
    Calls Tryd.prog 6 #[.slice p L.length cp, .agg #[.string (str c), .string (str g), .int .i64 u], .int .i64 now] w fun e w' => e = .returned (.bool true) ∧ Below w.heap.size w w' := by
  unfold maxLen at hc hg
  have HS := hide h
  have HT := hide hT
  have hsc : (str c).size = c.length := str_size c
  have hsg : (str g).size = g.length := str_size g
  clear h hT
  go_enter Tryd.func6, Tryd.ntmps6
  go_wp2_with fail
  have HC1 := hide (ClC.new w c g u)
  have HB1 : Hid (Below w.heap.size w (w.alloc (.cells #[.string (str c), .string (str g), .int .i64 u] 24))) := (Below.refl _ _).alloc (Nat.le_refl _) _
  generalize w.alloc (.cells #[.string (str c), .string (str g), .int .i64 u] 24) = w1 at *
  refine (secrets_any p cp L w1 (HS.out.below HB1.out (Nat.le_refl _)) hl).mono ?_
  rintro e w2 ⟨hb2, hv⟩
  have HC2 := hide (HC1.out.below hb2.out (Nat.le_refl _))
  have HB2 : Hid (Below w.heap.size w w2) := HB1.out.trans (hb2.out.mono HB1.out.size)
  have HT2 := hide (HT.out.below HB2.out HT.out.big)
  have HAW : Hid (∀ W, Hid (Below w.heap.size w W) → Calls Tryd.prog 10 #[] W fun e W' => e = .returned (.bool true) ∧ Hid (Below w.heap.size w W')) := by
    intro W h
    refine (awake_any W (HT.out.below h.out HT.out.big)).mono ?_
    rintro e W' ⟨rfl, hb⟩
    exact ⟨rfl, h.out.trans (hb.mono h.out.size)⟩
  clear hb2 HC1 HB1
  obtain ⟨k0, k1, k2⟩ := HC2.out
  rcases hv with rfl | ⟨a, cap, rfl, HS2, hcap, hcm, h21⟩
  · go_wp2_with (go_at_call 10; refine (HAW.out _ HB2).mono ?_; rintro e w9 ⟨rfl, hb9⟩)
    go_ret
    exact ⟨rfl, hb9.out⟩
  by_cases q1 : 65536 < c.length
  · have d1 : decide ((65536 : Int) < (c.length : Int)) = true := decide_eq_true (by omega)
    go_wp2_with (go_at_call 10; refine (HAW.out _ HB2).mono ?_; rintro e w9 ⟨rfl, hb9⟩)
    go_ret
    exact ⟨rfl, hb9.out⟩
  have d1 : decide ((65536 : Int) < (c.length : Int)) = false := decide_eq_false (by omega)
  by_cases q2 : 65536 < g.length
  · have d2 : decide ((65536 : Int) < (g.length : Int)) = true := decide_eq_true (by omega)
    go_wp2_with (go_at_call 10; refine (HAW.out _ HB2).mono ?_; rintro e w9 ⟨rfl, hb9⟩)
    go_ret
    exact ⟨rfl, hb9.out⟩
  have d2 : decide ((65536 : Int) < (g.length : Int)) = false := decide_eq_false (by omega)
  go_wp2_with fail
  refine (make_core a cap L c g u w2 HS2.out HT2.out (by omega) (by omega) (by omega) hu0 hu1).mono ?_
  rintro e w3 ⟨E, t, rfl, hE, hb3⟩
  have HS3 := hide (HS2.out.below hb3.out (Nat.le_refl _))
  have HC3 := hide (HC2.out.below hb3.out (Nat.le_refl _))
  have HB3 : Hid (Below w.heap.size w w3) := HB2.out.trans (hb3.out.mono HB2.out.size)
  have HT3 := hide (HT.out.below HB3.out HT.out.big)
  clear hb3 HC2 HB2 HT2 HS2 k0 k1 k2
  have e0 : str [] = (⟨#[]⟩ : ByteArray) := rfl
  by_cases hE0 : E = 0
  · subst hE0
    have hm := hE.out.symm
    have HCL := hide (cl_names (mk_ok hm).2.1)
    have htl : t.length ≤ 400 := by rw [(mk_ok hm).2.2]; exact tok_len _ _ (mk_ok hm).2.1
    have HRD := hide (rd_last now hm)
    clear hm hE
    obtain ⟨k0, k1, k2⟩ := HC3.out
    go_wp2_with fail
    refine (read_any a cap L now t w3 HS3.out HT3.out (by omega) hcap hcm (by omega)).mono ?_
    rintro e w4 ⟨E4, c4, g4, u4, rfl, hE4, hb4⟩
    have HC4 := hide (HC3.out.below hb4.out (Nat.le_refl _))
    have HB4 : Hid (Below w.heap.size w w4) := HB3.out.trans (hb4.out.mono HB3.out.size)
    rw [HRD.out] at hE4
    clear hb4 HC3 HB3 HT3 HS3 k0 k1 k2 HRD
    obtain ⟨k0, k1, k2⟩ := HC4.out
    have hlt := HC4.out.lt
    have HB5 : Hid (∀ o, Hid (Below w.heap.size w (w4.alloc o))) := fun o => HB4.out.alloc HB4.out.size o
    by_cases hn : u ≤ now
    · rw [if_pos hn] at hE4
      have hh := Prod.mk.inj hE4.out
      have hh2 := hh.2
      simp only [Cl.zero, Cl.mk.injEq] at hh2
      obtain ⟨rfl, rfl, rfl⟩ := hh2
      obtain rfl := hh.1
      have d3 : decide (now < u) = false := decide_eq_false (by omega)
      clear hE4 hh
      go_wp2_with (go_at_call 10; refine (HAW.out _ (HB5.out _)).mono ?_; rintro e w9 ⟨rfl, hb9⟩)
      go_ret
      exact ⟨rfl, hb9.out⟩
    · rw [if_neg hn] at hE4
      have hh := Prod.mk.inj hE4.out
      have hh2 := hh.2
      simp only [Cl.mk.injEq] at hh2
      obtain ⟨rfl, rfl, rfl⟩ := hh2
      obtain rfl := hh.1
      have d3 : decide (now < u4) = true := decide_eq_true (by omega)
      clear hE4 hh
      go_wp2_with (go_at_call 10; refine (HAW.out _ (HB5.out _)).mono ?_; rintro e w9 ⟨rfl, hb9⟩)
      go_ret
      exact ⟨rfl, hb9.out⟩
  · have hEq : (E == 0) = false := by simp [hE0]
    have hEn : (E != 0) = true := by simp [hE0]
    obtain rfl := mk_bad hE.out.symm hE0
    clear hE
    go_wp2_with (go_at_call 10; refine (HAW.out _ HB3).mono ?_; rintro e w9 ⟨rfl, hb9⟩)
    go_ret
    exact ⟨rfl, hb9.out⟩
#print axioms authtokBack_walk
end Go.Proofs.YthliodpihbbjfaaDoor
