/-
  THE WALK OF WireFrames.
-/
import Derived.Test.YthkeghbhckamoaaUnf
import Derived.Test.YthkeghbhckamoaaRefU
import Derived.Test.YthkeghbhckamoaaOwn2
set_option linter.unusedVariables false
namespace Go.Proofs.Ythkeghbhckamoaa
open Go.RowKit

def frameE (l : List UInt8) : List UInt8 × Nat := if 65536 < l.length then ([], 4) else (frameOf l, 0)

theorem frame_any (a : Option Addr) (n cap : Nat) (l : List UInt8) (w : World) (hB : Bs w a cap l) (hn : n = l.length) :
    Calls Try.prog 17 #[.slice a n cap] w fun e w' => ∃ a' cap' r, ∃ E : Nat, e = .returned (.tuple #[.slice a' r.length cap', .int .i64 (E : Int)]) ∧ Hid ((r, E) = frameE l) ∧ OwnB w' w.heap.size a' cap' r ∧ Below w.heap.size w w' := by
  by_cases h : 65536 < l.length
  · refine (frame_big a n cap w (by omega)).mono ?_
    rintro e w' ⟨rfl, rfl⟩
    exact ⟨none, 0, [], 4, rfl, by show _ = _; rw [frameE, if_pos h], OwnB.nil _ _, Below.refl _ _⟩
  · refine (frame_ok a n cap l w hB hn h).mono ?_
    rintro e w' ⟨a', cap', r, rfl, hr, ho, hb⟩
    exact ⟨a', cap', r, 0, rfl, by show _ = _; rw [frameE, if_neg h, hr.out], ho, hb⟩

theorem rframe_any (a : Option Addr) (n cap : Nat) (l : List UInt8) (w : World) (hB : Bs w a cap l) (hn : n = l.length) :
    Calls Try.prog 18 #[.slice a n cap] w fun e w' => ∃ a' cap' r, ∃ E : Nat, e = .returned (.tuple #[.slice a' r.length cap', .int .i64 (E : Int)]) ∧ Hid ((r, E) = frameE l) ∧ OwnB w' w.heap.size a' cap' r ∧ Below w.heap.size w w' := by
  by_cases h : 65536 < l.length
  · refine (rframe_big a n cap w (by omega)).mono ?_
    rintro e w' ⟨rfl, rfl⟩
    exact ⟨none, 0, [], 4, rfl, by show _ = _; rw [frameE, if_pos h], OwnB.nil _ _, Below.refl _ _⟩
  · refine (rframe_ok a n cap l w hB hn h).mono ?_
    rintro e w' ⟨a', cap', r, rfl, hr, ho, hb⟩
    exact ⟨a', cap', r, 0, rfl, by show _ = _; rw [frameE, if_neg h, hr.out], ho, hb⟩

theorem sum_nil (w : World) : Calls Try.prog 15 #[.slice none 0 0] w fun e w' => e = .returned (.int .u32 0) ∧ w' = w := by
  refine (wsum_none none 0 w).mono ?_
  rintro e w' ⟨rfl, rfl⟩
  exact ⟨ret_int (by decide +kernel), rfl⟩

set_option maxHeartbeats 1000000 in
theorem wireFrames_big (a0 : Option Addr) (cap0 : Nat) (l0 : List UInt8) (a1 : Option Addr) (cap1 : Nat) (l1 : List UInt8) (w : World) (hm0 : l0.length ≤ maxLen) (hm1 : l1.length ≤ maxLen) (hbig : 262144 < l0.length ∨ 262144 < l1.length) :
    Calls Try.prog 5 #[.slice a0 l0.length cap0, .slice a1 l1.length cap1] w fun e w' => e = .returned (.bool true) ∧ Below w.heap.size w w' := by
  unfold maxLen at hm0 hm1
  by_cases h1 : 262144 < l0.length
  · go_enter Try.func5, Try.ntmps5
    go_wp2_with fail
    refine (sum_nil w).mono ?_
    rintro e w1 ⟨rfl, rfl⟩
    go_wp2
    go_ret
    exact ⟨rfl, Below.refl _ _⟩
  · have h2 : 262144 < l1.length := by omega
    go_enter Try.func5, Try.ntmps5
    go_wp2_with fail
    refine (sum_nil w).mono ?_
    rintro e w1 ⟨rfl, rfl⟩
    go_wp2
    go_ret
    exact ⟨rfl, Below.refl _ _⟩

set_option maxHeartbeats 2000000 in
theorem wireFrames_small (a0 : Option Addr) (cap0 : Nat) (l0 : List UInt8) (a1 : Option Addr) (cap1 : Nat) (l1 : List UInt8) (w : World) (w0 : Bs w a0 cap0 l0) (w1 : Bs w a1 cap1 l1) (h1 : ¬ 262144 < l0.length) (h2 : ¬ 262144 < l1.length) :
    Calls Try.prog 5 #[.slice a0 l0.length cap0, .slice a1 l1.length cap1] w fun e w' => e = .returned (.bool true) ∧ Below w.heap.size w w' := by
  go_enter Try.func5, Try.ntmps5
  go_wp2_with fail
  -- given
  refine (sclone_any a0 _ cap0 l0 w w0 rfl (by omega)).mono ?_
  rintro e v1 ⟨b1, c1, g1, rfl, hr1, ho1, hb1⟩
  have eg1 : l0 = g1 := hr1.out.symm
  subst eg1
  go_wp2_with fail
  -- mine
  refine (sclone_any a1 _ cap1 l1 v1 (w1.below hb1 (Nat.le_refl _)) rfl (by omega)).mono ?_
  rintro e v2 ⟨b2, c2, g2, rfl, hr2, ho2, hb2⟩
  have eg2 : l1 = g2 := hr2.out.symm
  subst eg2
  have ho1 := ho1.below hb2 (Nat.le_refl _)
  have hW2 := hb1.trans (hb2.mono hb1.size)
  clear hb1 hb2 hr1 hr2
  go_wp2_with fail
  refine (frame_any b1 _ c1 l0 v2 ho1.toBs rfl).mono ?_
  rintro e v3 ⟨b3, c3, f, E3, rfl, hr3, ho3, hb3⟩
  have ho1 := ho1.below hb3 (Nat.le_refl _)
  have ho2 := ho2.below hb3 (Nat.le_refl _)
  have hW3 := hW2.trans (hb3.mono hW2.size)
  go_wp2_with fail
  refine (rframe_any a0 _ cap0 l0 v3 (w0.below hW3 (Nat.le_refl _)) rfl).mono ?_
  rintro e v4 ⟨b4, c4, f', E4, rfl, hr4, ho4, hb4⟩
  have hfe := hr4.out.trans hr3.out.symm
  simp only [Prod.mk.injEq] at hfe
  obtain ⟨rfl, rfl⟩ := hfe
  have ho1 := ho1.below hb4 (Nat.le_refl _)
  have ho2 := ho2.below hb4 (Nat.le_refl _)
  have ho3 := ho3.below hb4 (Nat.le_refl _)
  have hW4 := hW3.trans (hb4.mono hW3.size)
  clear hb3 hb4 hW2 hW3 hr3 hr4
  go_wp2_with fail
  refine (unframe_any b2 _ c2 l1 v4 ho2.toBs rfl).mono ?_
  rintro e v5 ⟨b5, c5, x, N5, E5, rfl, hr5, ho5, hb5⟩
  have hW5 := hW4.trans (hb5.mono hW4.size)
  have ho3 := ho3.below hb5 (Nat.le_refl _)
  have ho4 := ho4.below hb5 (Nat.le_refl _)
  go_wp2_with fail
  refine (runframe_any a1 _ cap1 l1 v5 (w1.below hW5 (Nat.le_refl _)) rfl).mono ?_
  rintro e v6 ⟨b6, c6, y, N6, E6, rfl, hr6, ho6, hb6⟩
  have hfe := hr6.out.trans hr5.out.symm
  simp only [Prod.mk.injEq] at hfe
  obtain ⟨rfl, rfl, rfl⟩ := hfe
  have ho3 := ho3.below hb6 (Nat.le_refl _)
  have ho4 := ho4.below hb6 (Nat.le_refl _)
  have ho5 := ho5.below hb6 (Nat.le_refl _)
  have hV := hb5.trans (hb6.mono hb5.size)
  have hyl : y.length ≤ 65536 := by
    have e1 : y = (unframe l1).1 := by rw [← hr6.out]
    rw [e1]
    unfold unframe
    repeat' split
    all_goals (simp; try omega)
  clear hb5 hb6 hr5 hr6 hW5
  go_wp2_with fail
  refine (equal_any b3 _ c3 f' b4 _ c4 f' v6 ho3.toBs.row ho4.toBs.row rfl rfl).mono ?_
  rintro e v7 ⟨rfl, rfl⟩
  have hff : (f' == f') = true := beq_self_eq_true f'
  have hyy : (y == y) = true := beq_self_eq_true y
  go_wp2_with fail
  refine (equal_any b5 _ c5 y b6 _ c6 y _ ho5.toBs.row ho6.toBs.row rfl rfl).mono ?_
  rintro e v8 ⟨rfl, rfl⟩
  clear ho3 ho4 ho6
  go_wp2_with (at_builtin; refine wp_app _ rfl _ _ rfl v4.heap.size b5 c5 y rfl (ho5.alloc _) (some ⟨v8.heap.size, 0, none⟩) 1 [9] 1 rfl rfl (row_lit _ _ _ rfl) (fun h => by cases h) ?c5 ?c6 ?_)
  case c5 => simp; omega
  case c6 => have := hV.size; simp; omega
  intro a6 cap6 x6 w6 hr6 ho6 hg6
  have hx6 : 0 < x6.length := by rw [hr6.out]; simp
  have hV6 : Below v4.heap.size v4 w6 := below_grown (hV.alloc hV.size _) hg6 (Nat.le_refl _) (fun k hk => (ho5.lt k hk).1)
  obtain ⟨g6, rfl, hg60, hg61, hc6, hf6⟩ := ho6.some hx6
  have hc60 := hc6 0 hx6
  have hf60 := hf6 0
  have hx6' : (0 : Int) < (x6.length : Int) := by omega
  have hV7 : Hid (∀ u, Below v4.heap.size v4 (w6.setCell ⟨g6, 0, none⟩ u)) := fun u => hV6.setCell hg60 u
  clear hr6 hg6 ho6 ho5 hV hV6 hc6 hf6
  go_wp2_with fail
  refine (equal_any b1 _ c1 l0 a0 _ cap0 l0 _ (ho1.below (hV7.out _) (Nat.le_refl _)).toBs.row (w0.below (hW4.trans ((hV7.out _).mono hW4.size)) (Nat.le_refl _)).row rfl rfl).mono ?_
  rintro e v9 ⟨rfl, rfl⟩
  have h00 : (l0 == l0) = true := beq_self_eq_true l0
  have h11 : (l1 == l1) = true := beq_self_eq_true l1
  go_wp2_with fail
  refine (equal_any b2 _ c2 l1 a1 _ cap1 l1 _ (ho2.below (hV7.out _) (Nat.le_refl _)).toBs.row (w1.below (hW4.trans ((hV7.out _).mono hW4.size)) (Nat.le_refl _)).row rfl rfl).mono ?_
  rintro e v10 ⟨rfl, rfl⟩
  go_wp2
  go_ret
  exact ⟨by simp, hW4.trans ((hV7.out _).mono hW4.size)⟩

theorem wireFrames_walk (a0 : Option Addr) (cap0 : Nat) (l0 : List UInt8) (a1 : Option Addr) (cap1 : Nat) (l1 : List UInt8) (w : World) (w0 : Bs w a0 cap0 l0) (w1 : Bs w a1 cap1 l1) :
    Calls Try.prog 5 #[.slice a0 l0.length cap0, .slice a1 l1.length cap1] w fun e w' => e = .returned (.bool true) ∧ Below w.heap.size w w' := by
  by_cases h : 262144 < l0.length ∨ 262144 < l1.length
  · exact wireFrames_big a0 cap0 l0 a1 cap1 l1 w (Nat.le_trans w0.le w0.most) (Nat.le_trans w1.le w1.most) h
  · exact wireFrames_small a0 cap0 l0 a1 cap1 l1 w w0 w1 (fun h' => h (.inl h')) (fun h' => h (.inr h'))
#print axioms wireFrames_walk
end Go.Proofs.Ythkeghbhckamoaa
