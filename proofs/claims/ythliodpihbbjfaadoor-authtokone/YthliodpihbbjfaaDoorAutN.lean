/-
  THE WALKS of the statements' madeOf and of AuthtokOne.
-/
import Derived.Test.YthliodpihbbjfaaDoorAutK
set_option linter.unusedVariables false
set_option maxRecDepth 1000000
namespace Go.Proofs.YthliodpihbbjfaaDoor
open Go.RowKit

theorem rd_ok {L : List Sec} {now : Int} {s : List UInt8} {x : Cl} (h : rdT L now s = (0, x)) : s ≠ [] ∧ clOk x = 0 ∧ ∃ i, i < L.length ∧ mkT (L.take (i + 1)) x = (0, s) := by
  unfold rdT at h
  split at h
  · simp at h
  · split at h
    · simp at h
    · rename_i hs
      split at h
      · simp at h
      · have hx := (Prod.mk.inj h).2
        rw [hx] at hs
        have hs2 : sgn L (say s).1 x s = true := by simpa using hs
        unfold sgn at hs2
        split at hs2
        · cases hs2
        · rename_i i hi
          rw [Bool.and_eq_true, decide_eq_true_eq, decide_eq_true_eq] at hs2
          have hm : mkT (L.take (i + 1)) x = (0, s) := Prod.ext hs2.1 hs2.2
          have hil : i < L.length := (List.findIdx?_eq_some_iff_findIdx_eq.1 hi).1
          refine ⟨?_, (mk_ok hm).2.1, i, hil, hm⟩
          rw [(mk_ok hm).2.2]
          unfold tok
          simp
theorem rd_no {L : List Sec} {now : Int} {s : List UInt8} {x : Cl} {E : Int} (h : rdT L now s = (E, x)) (hE : E ≠ 0) : x = Cl.zero := by
  unfold rdT at h
  split at h
  · exact (Prod.mk.inj h).2.symm
  · split at h
    · exact (Prod.mk.inj h).2.symm
    · split at h
      · exact (Prod.mk.inj h).2.symm
      · exact absurd (Prod.mk.inj h).1.symm hE

set_option maxHeartbeats 8000000 in
theorem madeOf_any (p : Option Addr) (cp : Nat) (L : List Sec) (c g : List UInt8) (u : Int) (s : List UInt8) (w : World) (h : SecR w p L) (hT : Tb w) (hl : L.length ≤ 21) (hcp : L.length ≤ cp) (hcm : cp ≤ maxLen) (hc : c.length ≤ 100000) (hg : g.length ≤ 100000) (hu0 : -9223372036854775808 ≤ u) (hu1 : u ≤ 9223372036854775807) (hex : ∃ i, i < L.length ∧ mkT (L.take (i + 1)) ⟨c, g, u⟩ = (0, s)) :
    Calls Tryd.prog 22 #[.slice p L.length cp, .agg #[.string (str c), .string (str g), .int .i64 u], .string (str s)] w fun e w' => e = .returned (.bool true) ∧ Hid (Below w.heap.size w w') := by
  have HS := hide h
  have HT := hide hT
  have HEX := hide hex
  clear h hT hex
  unfold maxLen at hcm
  go_enter Tryd.func22, Tryd.ntmps22
  go_wp2
  have HI1 : Hid (InvS w w.heap.size c g u (w.alloc (.cells #[.string (str c), .string (str g), .int .i64 u] 24))) := ⟨(Below.refl _ _).alloc (Nat.le_refl _) _, ClC.new w c g u⟩
  generalize w.alloc (.cells #[.string (str c), .string (str g), .int .i64 u] 24) = w1 at *
  generalize hZ : w.heap.size = Z at *
  clear hZ
  go_loopw [12] (fun v wr => ∃ i : Nat, i ≤ L.length ∧ v = .int .i64 (i : Int) ∧ Hid (∀ j, j < i → mkT (L.take (j + 1)) ⟨c, g, u⟩ ≠ (0, s)) ∧ Hid (InvS w Z c g u wr)) (fun v _ => L.length - (intOf v).toNat)
  case atStart => exact ⟨0, Nat.zero_le _, rfl, (fun j hj => by omega), HI1⟩
  case round =>
    clear HI1
    obtain ⟨i, hi, rfl, hno, hI⟩ := hrel
    by_cases hil : i < L.length
    · obtain ⟨k, hk⟩ : ∃ k, L[i]? = some k := ⟨_, List.getElem?_eq_getElem hil⟩
      obtain ⟨bb, off, x, cx, rfl, -, -, -, -⟩ := (HS.out.below hI.out.1 (Nat.le_refl _)).at hk
      clear hk
      have hi2 : (i : Int) < (L.length : Int) := by omega
      obtain ⟨n, hn⟩ : ∃ n, n = i + 1 := ⟨_, rfl⟩
      have htl : (L.take n).length = n := by rw [List.length_take]; omega
      have HMK : Hid (∀ W, Hid (InvS w Z c g u W) → Calls Tryd.prog 11 #[.slice (some ⟨bb, off, none⟩) n cp, .agg #[.string (str c), .string (str g), .int .i64 u]] W fun e W' => ∃ (E : Int) (t : List UInt8), e = .returned (.tuple #[.string (str t), .int .i64 E]) ∧ Hid ((E, t) = mkT (L.take n) ⟨c, g, u⟩) ∧ Hid (InvS w Z c g u W')) := by
        intro W h
        have hm := make_core (some ⟨bb, off, none⟩) cp (L.take n) c g u W ((HS.out.below h.out.1 (Nat.le_refl _)).take n) (HT.out.below h.out.1 HT.out.big) (by rw [htl]; omega) hc hg hu0 hu1
        rw [htl] at hm
        refine hm.mono ?_
        rintro e W' ⟨E, t, rfl, h1, h2⟩
        exact ⟨E, t, rfl, h1, h.out.next h2.out⟩
      have q1 : (i : Int) + 1 = (n : Int) := by omega
      have q2 : ¬ cp = 0 := by omega
      have q3 : n ≤ cp := by omega
      have q4 : (n : Int) ≤ (cp : Int) := by omega
      have q5 : IntKind.i64.wrap (n : Int) = (n : Int) := by rw [IntKind.wrap_i64]; omega
      have q6 : 0 ≤ (n : Int) := by omega
      have HN := hide hn
      clear htl hn
      obtain ⟨k0, k1, k2⟩ := hI.out.2
      have hI' : Hid (InvS w Z c g u wr.drew) := hI.out.next (Below.refl _ _).drew
      go_wp2
      go_region_with (go_at_call 11; refine (HMK.out _ (by assumption)).mono ?_; rintro e w3 ⟨E, t, rfl, hE, hI3⟩)
      all_goals
        clear HMK hI' hI k0 k1 k2
        rw [HN.out] at hE
        by_cases hE0 : E = 0
        · subst hE0
          by_cases hts : t = s
          · subst hts
            have hq : ((str t).toList == (str t).toList) = true := by simp
            go_wp2
            go_ret
            exact ⟨rfl, hI3.out.1⟩
          · have hq : ((str t).toList == (str s).toList) = false := by rw [toList_str, toList_str]; simp [hts]
            have HNX : Hid (∀ j, j < i + 1 → mkT (L.take (j + 1)) ⟨c, g, u⟩ ≠ (0, s)) := by
              intro j hj
              rcases Nat.lt_or_ge j i with h | h
              · exact hno.out j h
              · obtain rfl : j = i := by omega
                rw [← hE.out]
                exact fun e => hts (Prod.mk.inj e).2
            clear hE hno
            go_wp2
            go_roundw
            case rel => exact ⟨i + 1, by omega, (by rw [HN.out]), HNX, hI3⟩
            case measure => simp [intOf]; omega
        · have hEq : (E == 0) = false := by simp [hE0]
          have HNX : Hid (∀ j, j < i + 1 → mkT (L.take (j + 1)) ⟨c, g, u⟩ ≠ (0, s)) := by
            intro j hj
            rcases Nat.lt_or_ge j i with h | h
            · exact hno.out j h
            · obtain rfl : j = i := by omega
              rw [← hE.out]
              exact fun e => hE0 (Prod.mk.inj e).1
          clear hE hno
          go_wp2
          go_roundw
          case rel => exact ⟨i + 1, by omega, (by rw [HN.out]), HNX, hI3⟩
          case measure => simp [intOf]; omega
    · exfalso
      obtain ⟨j, hj, hm⟩ := HEX.out
      exact hno.out j (by omega) hm
#print axioms madeOf_any
end Go.Proofs.YthliodpihbbjfaaDoor
