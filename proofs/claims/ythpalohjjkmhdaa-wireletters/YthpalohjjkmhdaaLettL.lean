/-
  THE WALK OF WireLetters.
-/
import Derived.Test.YthpalohjjkmhdaaSpelL
import Derived.Test.YthpalohjjkmhdaaRefV
set_option linter.unusedVariables false
namespace Go.Proofs.Ythpalohjjkmhdaa
open Go.RowKit

set_option maxHeartbeats 1000000 in
theorem wireLetters_big (a0 : Option Addr) (cap0 : Nat) (l0 : List UInt8) (s : ByteArray) (w : World) (hm : l0.length ≤ maxLen) (h1 : s.size ≤ maxLen) (h : 16384 < l0.length ∨ 16384 < s.size) :
    Calls Try.prog 6 #[.slice a0 l0.length cap0, .string s] w fun e w' => e = .returned (.bool true) ∧ Below w.heap.size w w' := by
  unfold maxLen at hm h1
  have hAA : str (spR [0] 0 0) = { data := #[65, 65] } := by rw [sp1]; rfl
  by_cases k : 16384 < l0.length
  · go_enter Try.func6, Try.ntmps6
    go_wp2_with fail
    refine (spell_any (some ⟨w.heap.size, 0, none⟩) 1 [0] _ (bs_lit w _ 0 rfl) (by decide)).mono ?_
    rintro e w1 ⟨rfl, hb⟩
    rw [hAA]
    have hb2 : Below w.heap.size w w1 := ((Below.refl w.heap.size w).alloc (Nat.le_refl _) _).trans (hb.mono (by simp))
    clear hb
    go_wp2
    go_ret
    exact ⟨rfl, hb2⟩
  · have k2 : 16384 < s.size := by omega
    go_enter Try.func6, Try.ntmps6
    go_wp2_with fail
    refine (spell_any (some ⟨w.heap.size, 0, none⟩) 1 [0] _ (bs_lit w _ 0 rfl) (by decide)).mono ?_
    rintro e w1 ⟨rfl, hb⟩
    rw [hAA]
    have hb2 : Below w.heap.size w w1 := ((Below.refl w.heap.size w).alloc (Nat.le_refl _) _).trans (hb.mono (by simp))
    clear hb
    go_wp2
    go_ret
    exact ⟨rfl, hb2⟩

set_option maxHeartbeats 2000000 in
theorem wireLetters_small (a0 : Option Addr) (cap0 : Nat) (l0 : List UInt8) (s : ByteArray) (w : World) (p0 : Bs w a0 cap0 l0) (h0 : ¬ 16384 < l0.length) (h1 : ¬ 16384 < s.size) :
    Calls Try.prog 6 #[.slice a0 l0.length cap0, .string s] w fun e w' => e = .returned (.bool true) ∧ Below w.heap.size w w' := by
  have hself : ∀ l : List UInt8, (l == l) = true := fun l => by simp
  go_enter Try.func6, Try.ntmps6
  go_wp2_with fail
  refine (sclone_any a0 _ cap0 l0 w p0 rfl (by omega)).mono ?_
  rintro e w1 ⟨a1, cap1, g, rfl, hr1, ho1, hb1⟩
  have eg : g = l0 := hr1.out
  subst eg
  clear hr1
  go_wp2_with fail
  refine (unspell_any s w1 (by rw [str_len]; omega)).mono ?_
  rintro e w2 ⟨hb2, hx⟩
  have hW2 := hb1.trans (hb2.mono hb1.size)
  have ho2 := ho1.below hb2 (Nat.le_refl _)
  clear hb1 hb2 ho1
  rcases hx with ⟨hn, rfl⟩ | ⟨a3, cap3, q, hq, rfl, ho3⟩
  · go_wp2_with fail
    refine (runspell_any s w2 (by rw [str_len]; omega)).mono ?_
    rintro e w3 ⟨hb3, ⟨_, rfl⟩ | ⟨_, _, _, h, _⟩⟩
    · have hW3 := hW2.trans (hb3.mono hW2.size)
      have ho3 := ho2.below hb3 (Nat.le_refl _)
      clear hW2 hb3 ho2 hn
      go_wp2_with fail
      refine (spell_any a1 cap1 g w3 ho3.toBs (by omega)).mono ?_
      rintro e w4 ⟨rfl, hb4⟩
      have hW4 := hW3.trans (hb4.mono hW3.size)
      have ho4 := ho3.below hb4 (Nat.le_refl _)
      have p4 := p0.below hW4 (Nat.le_refl _)
      clear hW3 hb4 ho3
      go_wp2_with fail
      refine (rspell_any a0 cap0 g w4 p4 (by omega)).mono ?_
      rintro e w5 ⟨rfl, hb5⟩
      have hW5 := hW4.trans (hb5.mono hW4.size)
      have ho5 := ho4.below hb5 (Nat.le_refl _)
      have p5 := p0.below hW5 (Nat.le_refl _)
      clear hW4 hb5 ho4 p4
      generalize str (spR g 0 0) = t
      go_wp2_with fail
      refine (equal_any a1 _ cap1 g a0 _ cap0 g w5 ho5.toBs.row p5.row rfl rfl).mono ?_
      rintro e w5' ⟨rfl, rfl⟩
      rw [hself]
      go_wp2_with fail
      refine (equal_any none _ 0 [] none _ 0 [] w5' (fun h => absurd rfl h) (fun h => absurd rfl h) rfl rfl).mono ?_
      rintro e w6 ⟨rfl, rfl⟩
      rw [hself]
      go_wp2
      go_ret
      exact ⟨rfl, hW5⟩
    · rw [hn] at h
      cases h
  · go_wp2_with fail
    refine (runspell_any s w2 (by rw [str_len]; omega)).mono ?_
    rintro e w3 ⟨hb3, ⟨h, _⟩ | ⟨a6, cap6, q', h, rfl, ho6⟩⟩
    · rw [hq] at h
      cases h
    · obtain rfl : q = q' := by rw [hq] at h; exact Option.some.inj h
      have hW3 := hW2.trans (hb3.mono hW2.size)
      have ho3' := ho2.below hb3 (Nat.le_refl _)
      have hq3 := ho3.below hb3 (Nat.le_refl _)
      clear hW2 hb3 ho2 hq h ho3
      go_wp2_with fail
      refine (spell_any a1 cap1 g w3 ho3'.toBs (by omega)).mono ?_
      rintro e w4 ⟨rfl, hb4⟩
      have hW4 := hW3.trans (hb4.mono hW3.size)
      have ho4 := ho3'.below hb4 (Nat.le_refl _)
      have hq4 := hq3.below hb4 (Nat.le_refl _)
      have hr4 := ho6.below hb4 (Nat.le_refl _)
      have p4 := p0.below hW4 (Nat.le_refl _)
      clear hW3 hb4 ho3' hq3 ho6
      go_wp2_with fail
      refine (rspell_any a0 cap0 g w4 p4 (by omega)).mono ?_
      rintro e w5 ⟨rfl, hb5⟩
      have hW5 := hW4.trans (hb5.mono hW4.size)
      have ho5 := ho4.below hb5 (Nat.le_refl _)
      have hq5 := hq4.below hb5 (Nat.le_refl _)
      have hr5 := hr4.below hb5 (Nat.le_refl _)
      have p5 := p0.below hW5 (Nat.le_refl _)
      clear hW4 hb5 ho4 p4 hq4 hr4
      generalize str (spR g 0 0) = t
      go_wp2_with fail
      refine (equal_any a1 _ cap1 g a0 _ cap0 g w5 ho5.toBs.row p5.row rfl rfl).mono ?_
      rintro e w5' ⟨rfl, rfl⟩
      rw [hself]
      go_wp2_with fail
      refine (equal_any a3 _ cap3 q a6 _ cap6 q w5' hq5.toBs.row hr5.toBs.row rfl rfl).mono ?_
      rintro e w6 ⟨rfl, rfl⟩
      rw [hself]
      go_wp2
      go_ret
      exact ⟨rfl, hW5⟩

theorem wireLetters_walk (a0 : Option Addr) (cap0 : Nat) (l0 : List UInt8) (s : ByteArray) (w : World) (p0 : Bs w a0 cap0 l0) (w1 : s.size ≤ maxLen) :
    Calls Try.prog 6 #[.slice a0 l0.length cap0, .string s] w fun e w' => e = .returned (.bool true) ∧ Below w.heap.size w w' := by
  by_cases h : 16384 < l0.length ∨ 16384 < s.size
  · exact wireLetters_big a0 cap0 l0 s w (Nat.le_trans p0.le p0.most) w1 h
  · exact wireLetters_small a0 cap0 l0 s w p0 (fun h' => h (.inl h')) (fun h' => h (.inr h'))
#print axioms wireLetters_walk
end Go.Proofs.Ythpalohjjkmhdaa
