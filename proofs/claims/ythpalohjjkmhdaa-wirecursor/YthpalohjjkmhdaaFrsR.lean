/-
  THE WALK of the reference's Frames.
-/
import Derived.Test.YthpalohjjkmhdaaRefU
import Derived.Test.YthpalohjjkmhdaaFrsM
import Derived.Test.YthpalohjjkmhdaaOwnS
set_option linter.unusedVariables false
namespace Go.Proofs.Ythpalohjjkmhdaa
open Go.RowKit

set_option maxHeartbeats 2000000 in
theorem rframes_any (a : Option Addr) (cap : Nat) (l : List UInt8) (w : World) (hB : Bs w a cap l) (hl : l.length ≤ 50000000) :
    Calls Try.prog 11 #[.slice a l.length cap] w fun e w' => ∃ a' cap' vs, e = .returned (.tuple #[.slice a' vs.length cap', .int .i64 (((frs l).2 : Nat) : Int)]) ∧ OwnS w' w.heap.size a' cap' vs ∧ Pays w' w.heap.size vs (frs l).1 ∧ Below w.heap.size w w' := by
  have hle := hB.le
  have hmost := hB.most
  unfold maxLen at hmost
  have Hrow : Hid (l ≠ [] → ∃ b off, a = some ⟨b, off, none⟩) := fun h => by obtain ⟨b, off, e, _⟩ := hB.row h; exact ⟨b, off, e⟩
  go_enter Try.func11, Try.ntmps11
  go_wp2
  go_loopw [4, 5] (fun v i wr => ∃ (n : Nat) (a' : Option Addr) (cap' : Nat) (vs : List Sl) (ps : List (List UInt8)), n ≤ l.length ∧ i = .int .i64 (n : Int) ∧ v = .slice a' vs.length cap' ∧ vs.length ≤ n ∧ Hid (ps ++ (frs (l.drop n)).1 = (frs l).1) ∧ Hid (n + (frs (l.drop n)).2 = (frs l).2) ∧ OwnS wr w.heap.size a' cap' vs ∧ Pays wr w.heap.size vs ps ∧ Below w.heap.size w wr) (fun _ i _ => l.length - (intOf i).toNat)
  case atStart => exact ⟨0, none, 0, [], [], Nat.zero_le _, rfl, rfl, Nat.le_refl _, rfl, (by show _ = _; simp), OwnS.nil _ _, Pays.nil _ _, Below.refl _ _⟩
  case round =>
    obtain ⟨n, a', cap', vs, ps, hn, rfl, rfl, hvn, HP, HS, ho, hp, hb⟩ := hrel
    obtain ⟨at', hsl, hBt⟩ := slice_tail a cap n l hle hn (unhide Hrow)
    have hsl' := hsl wr
    have HBt := hide (hBt wr (hB.below hb (Nat.le_refl _)))
    clear hsl hBt
    go_wp2_with fail
    refine (runframe_any at' (l.length - n) (cap - n) (l.drop n) wr (unhide HBt) (by simp)).mono ?_
    rintro e w2 ⟨a2, cap2, r, N, E, rfl, hr, ho2, hb2⟩
    have hW2 := hb.trans (hb2.mono hb.size)
    have hbs := hb.size
    have ho' := ho.below hb2 (Nat.le_refl _)
    by_cases hE : E = 0
    · subst hE
      have hu := (unhide hr).symm
      have hsz := unframe_size (l.drop n) (by rw [hu])
      rw [hu] at hsz
      simp only [List.length_drop] at hsz
      have hp2 := hp.snoc hb2 hb.size ho2
      have HP2 : Hid (ps ++ [r] ++ (frs (l.drop (n + N))).1 = (frs l).1) := by
        show _ = _
        rw [← unhide HP, frs_go _ r N hu, List.drop_drop]
        simp
      have HS2 : Hid (n + N + (frs (l.drop (n + N))).2 = (frs l).2) := by
        show _ = _
        rw [← unhide HS, frs_go _ r N hu, List.drop_drop, Nat.add_assoc]
      clear hu hr HP HS hp ho hb hb2 ho2 HBt hsl'
      have hw2s := hW2.size
      go_wp2_with (at_builtin; refine wp_apps1 _ rfl _ _ rfl w.heap.size a' cap' vs rfl (ho'.alloc _) w2.heap.size 1 (a2, r.length, cap2) rfl (cell_lits _ _ _ _) ?c5 ?c6 ?_)
      case c5 => omega
      case c6 => first | omega | (simp; omega)
      intro a3 cap3 vs3 w3 hr3 ho3 hg3
      have hb3 : Below w.heap.size w w3 := below_grown (hW2.alloc hW2.size _) hg3 (Nat.le_refl _) (fun k hk => (ho'.lt k hk).1)
      have hp3 := (hp2.alloc _).kept (ho'.alloc _) hg3
      have hv3 := unhide hr3
      rw [← hv3] at hp3
      have hvl : vs3.length ≤ n + N := by rw [hv3]; simp; omega
      clear hr3 hg3 ho' hp2 hW2 hv3
      go_wp2
      go_roundw
      case rel => exact ⟨n + N, a3, cap3, vs3, ps ++ [r], by omega, by go_num, rfl, hvl, HP2, HS2, ho3, hp3, hb3⟩
      case measure => simp [intOf]; omega
    · have hu : (unframe (l.drop n)).2.2 ≠ 0 := by rw [← unhide hr]; exact hE
      have HP2 : Hid (ps = (frs l).1) := by
        show _ = _
        rw [← unhide HP, frs_end _ hu]
        simp
      have HS2 : Hid (n = (frs l).2) := by
        show _ = _
        rw [← unhide HS, frs_end _ hu]
        simp
      have hEd : ((E : Int) != 0) = true := by simp; omega
      have hp2 := hp.below hb2 (Nat.le_refl _)
      clear hu hr HP HS hp ho hb hb2 ho2 HBt hsl'
      go_wp2
      go_ret2
      exact ⟨a', cap', vs, by rw [← unhide HS2]; rfl, ho', by rw [← unhide HP2]; exact hp2, hW2⟩
#print axioms rframes_any
end Go.Proofs.Ythpalohjjkmhdaa
