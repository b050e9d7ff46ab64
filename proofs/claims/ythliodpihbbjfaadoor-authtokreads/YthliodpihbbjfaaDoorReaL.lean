/-
  THE WALK of AuthtokReads.
-/
import Derived.Test.YthliodpihbbjfaaDoorAutQ
set_option linter.unusedVariables false
set_option maxRecDepth 1000000
namespace Go.Proofs.YthliodpihbbjfaaDoor
open Go.RowKit

set_option maxHeartbeats 8000000 in
theorem authtokReads_walk (p : Option Addr) (cp : Nat) (L : List Sec) (now : Int) (s : List UInt8) (w : World) (h : SecR w p L) (hl : L.length ≤ maxLen) (hs : s.length ≤ maxLen) (hT : Tb w) :
    Calls Tryd.prog 4 #[.slice p L.length cp, .int .i64 now, .string (str s)] w fun e w' => e = .returned (.bool true) ∧ Below w.heap.size w w' := by
  unfold maxLen at hs
  have HS := hide h
  have HT := hide hT
  have hss : (str s).size = s.length := str_size s
  clear h hT
  have HAW : Hid (∀ W, Hid (Below w.heap.size w W) → Calls Tryd.prog 10 #[] W fun e W' => e = .returned (.bool true) ∧ Hid (Below w.heap.size w W')) := by
    intro W h
    refine (awake_any W (HT.out.below h.out HT.out.big)).mono ?_
    rintro e W' ⟨rfl, hb⟩
    exact ⟨rfl, h.out.trans (hb.mono h.out.size)⟩
  go_enter Tryd.func4, Tryd.ntmps4
  go_wp2_with fail
  refine (secrets_any p cp L w HS.out hl).mono ?_
  rintro e w2 ⟨HB2, hv⟩
  have HT2 := hide (HT.out.below HB2.out HT.out.big)
  rcases hv with rfl | ⟨d, cap, rfl, HS2, hcap, hcm, h21⟩
  · go_wp2_with (go_at_call 10; refine (HAW.out _ HB2).mono ?_; rintro e w9 ⟨rfl, hb9⟩)
    go_ret
    exact ⟨rfl, hb9.out⟩
  by_cases q1 : 65536 < s.length
  · have d1 : decide ((65536 : Int) < (s.length : Int)) = true := decide_eq_true (by omega)
    go_wp2_with (go_at_call 10; refine (HAW.out _ HB2).mono ?_; rintro e w9 ⟨rfl, hb9⟩)
    go_ret
    exact ⟨rfl, hb9.out⟩
  have d1 : decide ((65536 : Int) < (s.length : Int)) = false := decide_eq_false (by omega)
  go_wp2_with fail
  refine (read_any d cap L now s w2 HS2.out HT2.out (by omega) hcap hcm (by omega)).mono ?_
  rintro e w3 ⟨E, c, g, u, rfl, hE, hb3⟩
  have HX := hide (ClC.new w3 c g u)
  have HB4 : Hid (Below w.heap.size w (w3.alloc (.cells #[.string (str c), .string (str g), .int .i64 u] 24))) := (HB2.out.trans (hb3.out.mono HB2.out.size)).alloc (Nat.le_trans HB2.out.size hb3.out.size) _
  have HS4 : Hid (SecR (w3.alloc (.cells #[.string (str c), .string (str g), .int .i64 u] 24)) d L) := (HS2.out.below hb3.out (Nat.le_refl _)).below ((Below.refl w3.heap.size w3).alloc (Nat.le_refl _) _) (Nat.le_refl _)
  go_wp2_with fail
  generalize w3.alloc (.cells #[.string (str c), .string (str g), .int .i64 u] 24) = w4 at *
  generalize w3.heap.size = X at *
  clear hb3
  refine (rread10_any p cp L now s w4 (HS.out.below HB4.out (Nat.le_refl _)) (by omega) (by omega)).mono ?_
  rintro e w5 ⟨E', c', g', u', rfl, hE', hb5⟩
  have hh := Prod.mk.inj (hE.out.trans hE'.out.symm)
  have hh2 := hh.2
  simp only [Cl.mk.injEq] at hh2
  obtain ⟨rfl, rfl, rfl⟩ := hh2
  obtain rfl := hh.1
  have HX5 := hide (HX.out.below hb5.out (Nat.le_refl _))
  have HB5 : Hid (Below w.heap.size w w5) := HB4.out.trans (hb5.out.mono HB4.out.size)
  have HS5 := hide (HS4.out.below hb5.out (Nat.le_refl _))
  have HB6 : Hid (∀ o, Hid (Below w.heap.size w (w5.alloc o)) ∧ Hid (SecR (w5.alloc o) d L)) := fun o => ⟨HB5.out.alloc HB5.out.size o, HS5.out.below ((Below.refl w5.heap.size w5).alloc (Nat.le_refl _) o) (Nat.le_refl _)⟩
  clear hE hE' hh HX HB4 HS4 hb5 HS2 HT2
  obtain ⟨x0, x1, x2⟩ := HX5.out
  have hx := HX5.out.lt
  have hEE : (E == E) = true := by simp
  go_wp2_with fail
  refine (sames_any d cap p cp L _ (HB6.out _).2.out (HS.out.below (HB6.out _).1.out (Nat.le_refl _)) (by omega)).mono ?_
  rintro e w7 ⟨rfl, hb7⟩
  have HB7 : Hid (Below w.heap.size w w7) := (HB6.out _).1.out.trans (hb7.out.mono (HB6.out _).1.out.size)
  clear hb7 HB6 x0 x1 x2
  go_wp2_with (go_at_call 10; refine (HAW.out _ HB7).mono ?_; rintro e w10 ⟨rfl, hb10⟩)
  go_ret
  exact ⟨rfl, hb10.out⟩
#print axioms authtokReads_walk
end Go.Proofs.YthliodpihbbjfaaDoor
