/-
  THE WALK OF WireNumbers.
-/
import Derived.Test.YthkeghbhckamoaaNumX
import Derived.Test.YthkeghbhckamoaaRefN
import Derived.Test.YthkeghbhckamoaaOwn2
set_option linter.unusedVariables false
namespace Go.Proofs.Ythkeghbhckamoaa
open Go.RowKit

theorem wf_i64 {n : Int} (h : (Lit.int .i64 n).wf = true) : -9223372036854775808 ≤ n ∧ n ≤ 9223372036854775807 := by
  simp [Lit.wf, IntKind.min, IntKind.max, IntKind.bits, IntKind.signed] at h
  omega

theorem bs_nil (w : World) : Bs w none 0 [] := ⟨fun h => absurd rfl h, Nat.le_refl _, by unfold maxLen; omega, fun _ => rfl⟩

set_option maxHeartbeats 1000000 in
theorem wireNumbers_big (a0 : Option Addr) (cap0 : Nat) (l0 : List UInt8) (n : Int) (s : ByteArray) (w : World) (hm : l0.length ≤ maxLen) (hs : s.size ≤ maxLen) (hbig : 262144 < l0.length ∨ 262144 < s.size) :
    Calls Try.prog 3 #[.slice a0 l0.length cap0, .int .i64 n, .string s] w fun e w' => e = .returned (.bool true) ∧ Below w.heap.size w w' := by
  unfold maxLen at hm hs
  have key : ∀ wx : World, Calls Try.prog 9 #[.slice none 0 0, .int .i64 7] wx fun e w' => ∃ a' cap', e = .returned (.slice a' 1 cap') ∧ Below wx.heap.size wx w' := by
    intro wx
    refine (number_any none 0 [] 7 wx (bs_nil wx) (by simp) (by omega) (by omega)).mono ?_
    rintro e w1 ⟨a1, cap1, r1, rfl, hr1, ho1, hb1⟩
    have hl : r1.length = 1 := by rw [hr1.out]; rfl
    rw [hl]
    exact ⟨a1, cap1, rfl, hb1⟩
  by_cases h1 : 262144 < l0.length
  · go_enter Try.func3, Try.ntmps3
    go_wp2_with fail
    refine (key w).mono ?_
    rintro e w1 ⟨a1, cap1, rfl, hb1⟩
    go_wp2
    go_ret
    exact ⟨rfl, hb1⟩
  · have h2 : 262144 < s.size := by omega
    go_enter Try.func3, Try.ntmps3
    go_wp2_with fail
    refine (key w).mono ?_
    rintro e w1 ⟨a1, cap1, rfl, hb1⟩
    go_wp2
    go_ret
    exact ⟨rfl, hb1⟩

set_option maxHeartbeats 2000000 in
theorem wireNumbers_small (a0 : Option Addr) (cap0 : Nat) (l0 : List UInt8) (n : Int) (s : ByteArray) (w : World) (w0 : Bs w a0 cap0 l0) (hn0 : -9223372036854775808 ≤ n) (hn1 : n ≤ 9223372036854775807) (h1 : ¬ 262144 < l0.length) (h2 : ¬ 262144 < s.size) :
    Calls Try.prog 3 #[.slice a0 l0.length cap0, .int .i64 n, .string s] w fun e w' => e = .returned (.bool true) ∧ Below w.heap.size w w' := by
  go_enter Try.func3, Try.ntmps3
  go_wp2_with fail
  -- given
  refine (sclone_any a0 _ cap0 l0 w w0 rfl (by omega)).mono ?_
  rintro e w1 ⟨a1, cap1, g, rfl, hr1, ho1, hb1⟩
  have hgl : g.length ≤ 262144 := by rw [hr1.out]; omega
  have hG1 := ho1
  have hB1 := w0.below hb1 (Nat.le_refl _)
  go_wp2_with fail
  -- x
  refine (number_any a1 cap1 g n w1 ho1.toBs (by omega) hn0 hn1).mono ?_
  rintro e w2 ⟨a2, cap2, x, rfl, hr2, ho2, hb2⟩
  have hlt2 := ho2.lt
  have ho1 := ho1.below hb2 (Nat.le_refl _)
  have hB2 := hB1.below hb2 (Nat.le_refl _)
  go_wp2_with fail
  -- y
  refine (text_any a1 cap1 g s w2 ho1.toBs (by omega) (by omega)).mono ?_
  rintro e w3 ⟨a3, cap3, y, rfl, hr3, ho3, hb3⟩
  have ho1 := ho1.below hb3 (Nat.le_refl _)
  have ho2 := ho2.below hb3 (Nat.le_refl _)
  have hB3 := hB2.below hb3 (Nat.le_refl _)
  go_wp2_with fail
  -- the document's number
  refine (rnumber_any a0 cap0 l0 n w3 hB3 (by omega) hn0 hn1).mono ?_
  rintro e w4 ⟨a4, cap4, x', rfl, hr4, ho4, hb4⟩
  have ho1 := ho1.below hb4 (Nat.le_refl _)
  have ho2 := ho2.below hb4 (Nat.le_refl _)
  have ho3 := ho3.below hb4 (Nat.le_refl _)
  have hB4 := hB3.below hb4 (Nat.le_refl _)
  have hxx : x' = x := by rw [hr4.out, hr2.out, hr1.out]
  subst hxx
  go_wp2_with fail
  refine (equal_any a2 _ cap2 x' a4 _ cap4 x' w4 ho2.toBs.row ho4.toBs.row rfl rfl).mono ?_
  rintro e w4' ⟨rfl, rfl⟩
  go_wp2_with fail
  refine (rtext_any a0 cap0 l0 s w4' hB4 (by omega) (by omega)).mono ?_
  rintro e w5 ⟨a5, cap5, y', rfl, hr5, ho5, hb5⟩
  have hlt3 := ho3.lt
  have ho1 := ho1.below hb5 (Nat.le_refl _)
  have ho2 := ho2.below hb5 (Nat.le_refl _)
  have ho3 := ho3.below hb5 (Nat.le_refl _)
  have hB5 := hB4.below hb5 (Nat.le_refl _)
  have hyy : y' = y := by rw [hr5.out, hr3.out, hr1.out]
  subst hyy
  go_wp2_with fail
  refine (equal_any a3 _ cap3 y' a5 _ cap5 y' w5 ho3.toBs.row ho5.toBs.row rfl rfl).mono ?_
  rintro e w5' ⟨rfl, rfl⟩
  have hfl := form_le n.toNat
  have hxl : x'.length ≤ 262200 := by rw [hr2.out]; simp; omega
  have hx1 : 1 ≤ x'.length := by rw [hr2.out]; simp; omega
  have HY : Hid (y' = l0 ++ (form s.size ++ s.data.toList)) := by show _ = _; rw [hr3.out, hr1.out]
  have hgl0 : l0 = g := hr1.out.symm
  have s1 := hb1.size
  have s2 := hb2.size
  have s3 := hb3.size
  have s4 := hb4.size
  have s5 := hb5.size
  have hW1 : Below w1.heap.size w1 w5' := hb2.trans ((hb3.mono (by omega)).trans ((hb4.mono (by omega)).trans (hb5.mono (by omega))))
  have hW : Below w.heap.size w w5' := hb1.trans (hW1.mono (by omega))
  subst hgl0
  clear hr1 hr2 hr3 hr4 hr5 hb1 hb2 hb3 hb4 hb5 ho5 ho4 hB1 hB2 hB3 hB4
  go_wp2_with (at_builtin; refine wp_app2 _ rfl _ _ rfl w1.heap.size a2 cap2 x' rfl (ho2.alloc _) (some ⟨w5'.heap.size, 0, none⟩) 1 [9] 1 rfl rfl (row_lit _ _ _ rfl) (fun h => by cases h) ?c5 ?c6 ?_)
  case c5 => simp; omega
  case c6 => simp; omega
  intro a6 cap6 x6 w6 hr6 ho6 hg6 hpl
  have hx6 : 0 < x6.length := by rw [hr6.out]; simp
  obtain ⟨g6, rfl, hg60, hg61, hc6, hf6⟩ := ho6.some hx6
  have hc60 := hc6 0 hx6
  have hf60 := hf6 0
  have hx6' : (0 : Int) < (x6.length : Int) := by omega
  have hW6 : Below w1.heap.size w1 w6 := below_grown (hW1.alloc hW1.size _) hg6 (Nat.le_refl _) (fun k hk => (hlt2 k hk).1)
  have hW7 : ∀ u, Below w1.heap.size w1 (w6.setCell ⟨g6, 0, none⟩ u) := fun u => hW6.setCell hg60 u
  have hW8 : ∀ u, Below w.heap.size w (w6.setCell ⟨g6, 0, none⟩ u) := fun u => ((hW.alloc hW.size _).grown hg6 (by simp; omega) (fun k hk => by have := (hlt2 k hk).1; omega)).setCell (p := ⟨g6, 0, none⟩) (by simp only; omega) u
  have hG7 : ∀ u, OwnB (w6.setCell ⟨g6, 0, none⟩ u) w.heap.size a1 cap1 l0 := fun u => hG1.below (hW7 u) (Nat.le_refl _)
  have hB7 : ∀ u, Bs (w6.setCell ⟨g6, 0, none⟩ u) a0 cap0 l0 := fun u => w0.below (hW8 u) (Nat.le_refl _)
  have hne2 : blk a3 = none ∨ blk a3 ≠ blk a2 := by
    cases h3 : blk a3 with
    | none => exact .inl rfl
    | some k =>
      refine .inr fun h => ?_
      have q2 := hlt2 k h.symm
      have q3 := hlt3 k h3
      omega
  have hne6 : blk a3 = none ∨ blk a3 ≠ some g6 := by
    cases h3 : blk a3 with
    | none => exact .inl rfl
    | some k =>
      refine .inr fun h => ?_
      have hk : k = g6 := by simpa using h
      subst hk
      have q3 := hlt3 k h3
      rcases hpl.out with h | h
      · have := hlt2 k (by rw [← h]; rfl)
        omega
      · have := h k rfl
        try simp at this
        omega
  have hY7 : ∀ u, OwnB (w6.setCell ⟨g6, 0, none⟩ u) w2.heap.size a3 cap3 y' := fun u => ((ho3.alloc _).kept hg6 hne2).kept (grownBy_setCell w6 ⟨g6, 0, none⟩ u) hne6
  have HT : Hid (∀ u, Bs (w6.setCell ⟨g6, 0, none⟩ u) a0 cap0 l0) := hB7
  have HT2 : Hid (∀ u, OwnB (w6.setCell ⟨g6, 0, none⟩ u) w2.heap.size a3 cap3 y') := hY7
  have HT3 : Hid (∀ u, OwnB (w6.setCell ⟨g6, 0, none⟩ u) w.heap.size a1 cap1 l0) := hG7
  have HT4 : Hid (∀ u, Below w.heap.size w (w6.setCell ⟨g6, 0, none⟩ u)) := hW8
  clear hB7 hY7 hG7 hW8 hW7 hW6 hne2 hne6 hpl hg6 ho6 hr6 hlt2 hlt3 ho1 ho2 ho3 hG1 hW hW1 hB5 hc6 hf6
  go_wp2_with fail
  refine (equal_any a1 _ cap1 l0 a0 _ cap0 l0 _ (HT3.out _).toBs.row (HT.out _).row rfl rfl).mono ?_
  rintro e w8 ⟨rfl, rfl⟩
  go_wp2_with fail
  refine (rtext_any a0 cap0 l0 s _ (HT.out _) (by omega) (by omega)).mono ?_
  rintro e w9 ⟨a9, cap9, y9, rfl, hr9, ho9, hb9⟩
  have hY9 := (HT2.out _).below hb9 (Nat.le_refl _)
  have hW9 := (HT4.out _).trans (hb9.mono (HT4.out _).size)
  have hyy : y9 = y' := by rw [hr9.out, HY.out]
  subst hyy
  go_wp2_with fail
  refine (equal_any a3 _ cap3 y9 a9 _ cap9 y9 _ hY9.toBs.row ho9.toBs.row rfl rfl).mono ?_
  rintro e w10 ⟨rfl, rfl⟩
  go_wp2
  go_ret
  exact ⟨by simp, hW9⟩

theorem wireNumbers_walk (a0 : Option Addr) (cap0 : Nat) (l0 : List UInt8) (n : Int) (s : ByteArray) (w : World) (w0 : Bs w a0 cap0 l0) (w1 : (Lit.int .i64 n).wf = true) (w2 : s.size ≤ maxLen) :
    Calls Try.prog 3 #[.slice a0 l0.length cap0, .int .i64 n, .string s] w fun e w' => e = .returned (.bool true) ∧ Below w.heap.size w w' := by
  by_cases h : 262144 < l0.length ∨ 262144 < s.size
  · exact wireNumbers_big a0 cap0 l0 n s w (Nat.le_trans w0.le w0.most) w2 h
  · exact wireNumbers_small a0 cap0 l0 n s w w0 (wf_i64 w1).1 (wf_i64 w1).2 (fun h' => h (.inl h')) (fun h' => h (.inr h'))
#print axioms wireNumbers_walk
end Go.Proofs.Ythkeghbhckamoaa
