/-
  THE WALK of the document's blotterref01.Unframe.
-/
import Derived.Test.YthpalohjjkmhdaaRefF
import Derived.Deep.QuietTactic
import Derived.BigQuiet
import Derived.BigRegion
set_option linter.unusedVariables false
namespace Go.Proofs.Ythpalohjjkmhdaa
open Go.RowKit

theorem three_of (l : List UInt8) (h : 3 ≤ l.length) : ∃ a b c r, l = a :: b :: c :: r := by
  match l, h with
  | a :: b :: c :: r, _ => exact ⟨a, b, c, r, rfl⟩

theorem runf_short (a : Option Addr) (n cap : Nat) (w : World) (hb : n < 3) :
    Calls Try.prog 30 #[.slice a n cap] w fun e w' => e = .returned (.tuple #[.slice none 0 0, .int .i64 0, .int .i64 2]) ∧ w' = w := by
  go_enter Try.func30, Try.ntmps30
  go_wp2
  go_ret3
  exact ⟨rfl, rfl⟩

set_option maxHeartbeats 1000000 in
theorem runf_long (b off n cap : Nat) (d0 d1 d2 : UInt8) (w : World) (h3 : 3 ≤ n) (hn : n ≤ 9223372036854775807) (e0 : w.cell? ⟨b, off, none⟩ = some (.int .u8 (d0.toNat : Int))) (e1 : w.cell? ⟨b, off + 1, none⟩ = some (.int .u8 (d1.toNat : Int))) (e2 : w.cell? ⟨b, off + 2, none⟩ = some (.int .u8 (d2.toNat : Int)))
    (hbig : 65536 < 65536 * d0.toNat + 256 * d1.toNat + d2.toNat) :
    Calls Try.prog 30 #[.slice (some ⟨b, off, none⟩) n cap] w fun e w' => e = .returned (.tuple #[.slice none 0 0, .int .i64 0, .int .i64 4]) ∧ Below w.heap.size w w' := by
  have q0 : d0.toNat < 256 := d0.toNat_lt
  have q1 : d1.toNat < 256 := d1.toNat_lt
  have q2 : d2.toNat < 256 := d2.toNat_lt
  have i0 : (0 : Int) < (n : Int) := by omega
  have i1 : (1 : Int) < (n : Int) := by omega
  have i2 : (2 : Int) < (n : Int) := by omega
  have hl3 : ¬ ((n : Int) < 3) := by omega
  generalize d0.toNat = x0 at *
  generalize d1.toNat = x1 at *
  generalize d2.toNat = x2 at *
  go_enter Try.func30, Try.ntmps30
  go_wp2
  go_quiet (fail)
  go_wp2
  go_ret3
  exact ⟨rfl, below_drewN (Below.refl _ _) _⟩

set_option maxHeartbeats 1000000 in
theorem runf_ends (b off n cap S : Nat) (d0 d1 d2 : UInt8) (w : World) (h3 : 3 ≤ n) (e0 : w.cell? ⟨b, off, none⟩ = some (.int .u8 (d0.toNat : Int))) (e1 : w.cell? ⟨b, off + 1, none⟩ = some (.int .u8 (d1.toNat : Int))) (e2 : w.cell? ⟨b, off + 2, none⟩ = some (.int .u8 (d2.toNat : Int)))
    (hS : S = 65536 * d0.toNat + 256 * d1.toNat + d2.toNat) (hbig : ¬ 65536 < S) (hsh : n < S + 7) :
    Calls Try.prog 30 #[.slice (some ⟨b, off, none⟩) n cap] w fun e w' => e = .returned (.tuple #[.slice none 0 0, .int .i64 0, .int .i64 2]) ∧ Below w.heap.size w w' := by
  have q0 : d0.toNat < 256 := d0.toNat_lt
  have q1 : d1.toNat < 256 := d1.toNat_lt
  have q2 : d2.toNat < 256 := d2.toNat_lt
  have i0 : (0 : Int) < (n : Int) := by omega
  have i1 : (1 : Int) < (n : Int) := by omega
  have i2 : (2 : Int) < (n : Int) := by omega
  have hl3 : ¬ ((n : Int) < 3) := by omega
  have hS' : 65536 * (d0.toNat : Int) + 256 * (d1.toNat : Int) + (d2.toNat : Int) = (S : Int) := by omega
  clear hS
  generalize d0.toNat = x0 at *
  generalize d1.toNat = x1 at *
  generalize d2.toNat = x2 at *
  go_enter Try.func30, Try.ntmps30
  go_wp2
  go_quiet (fail)
  go_wp2
  go_ret3
  exact ⟨rfl, below_drewN (Below.refl _ _) _⟩

set_option maxHeartbeats 1000000 in
theorem runf_sum (b off cap : Nat) (l : List UInt8) (S : Nat) (d0 d1 d2 : UInt8) (w : World) (hB : Bs w (some ⟨b, off, none⟩) cap l) (h3 : 3 ≤ l.length) (e0 : w.cell? ⟨b, off, none⟩ = some (.int .u8 (d0.toNat : Int))) (e1 : w.cell? ⟨b, off + 1, none⟩ = some (.int .u8 (d1.toNat : Int))) (e2 : w.cell? ⟨b, off + 2, none⟩ = some (.int .u8 (d2.toNat : Int)))
    (hS : S = 65536 * d0.toNat + 256 * d1.toNat + d2.toNat) (hbig : ¬ 65536 < S) (hsh : ¬ l.length < S + 7) (heq : (frameOf ((l.drop 3).take S) == l.take (S + 7)) = false) :
    Calls Try.prog 30 #[.slice (some ⟨b, off, none⟩) l.length cap] w fun e w' => e = .returned (.tuple #[.slice none 0 0, .int .i64 0, .int .i64 11]) ∧ Below w.heap.size w w' := by
  have q0 : d0.toNat < 256 := d0.toNat_lt
  have q1 : d1.toNat < 256 := d1.toNat_lt
  have q2 : d2.toNat < 256 := d2.toNat_lt
  have hle := hB.le
  have hm : l.length ≤ maxLen := Nat.le_trans hB.le hB.most
  unfold maxLen at hm
  have i0 : (0 : Int) < (l.length : Int) := by omega
  have i1 : (1 : Int) < (l.length : Int) := by omega
  have i2 : (2 : Int) < (l.length : Int) := by omega
  have hl3 : ¬ ((l.length : Int) < 3) := by omega
  have hS' : 65536 * (d0.toNat : Int) + 256 * (d1.toNat : Int) + (d2.toNat : Int) = (S : Int) := by omega
  have hE8 : ¬ cap = 3 := by omega
  have hE9 : S + 7 ≤ cap := by omega
  obtain ⟨E, hE⟩ : ∃ E, E = S + 3 := ⟨_, rfl⟩
  obtain ⟨F, hF⟩ : ∃ F, F = S + 7 := ⟨_, rfl⟩
  have hE' : 3 + (S : Int) = (E : Int) := by omega
  have hF' : (S : Int) + 7 = (F : Int) := by omega
  have hFw : IntKind.i64.wrap ((S : Int) + 7) = (F : Int) := by rw [IntKind.wrap_i64]; omega
  have hE3 : 3 ≤ E := by omega
  have hEc : E ≤ cap := by omega
  have hFc : F ≤ cap := by omega
  have hEl : E - 3 = S := by omega
  have hp := hide (show S = ((l.drop 3).take S).length by simp; omega)
  have hbp : Hid (Bs w (some ⟨b, off + 3, none⟩) (cap - 3) ((l.drop 3).take S)) := ⟨(hB.row.drop 3).take S, by simp; omega, by have := hB.most; unfold maxLen at this ⊢; omega, fun h => by cases h⟩
  have hbF := hide (hB.row.take F)
  have hFl := hide (show F = (l.take F).length by simp; omega)
  have HEQ : Hid ((frameOf ((l.drop 3).take S) == l.take F) = false) := by show _ = _; rw [hF]; exact heq
  have HF7 := hide hF
  clear hS hE hF heq
  generalize d0.toNat = x0 at *
  generalize d1.toNat = x1 at *
  generalize d2.toNat = x2 at *
  go_enter Try.func30, Try.ntmps30
  go_wp2
  go_quiet (fail)
  go_wp2_with fail
  have hd := below_drewN (Below.refl w.heap.size w) nq
  refine (rframe_ok (some ⟨b, off + 3, none⟩) S (cap - 3) ((l.drop 3).take S) (w.drewN nq) ((unhide hbp).below hd (Nat.le_refl _)) (unhide hp) (by rw [← unhide hp]; exact hbig)).mono ?_
  rintro e w4 ⟨a4, cap4, r4, rfl, hr4, ho4, hb4⟩
  have hb4 : Below w.heap.size w w4 := hd.trans hb4
  have k1 : ∀ nq, (convert 22 9 (.slice a4 r4.length cap4)).run Try.prog (w4.drewN nq) = .ok (.string (str r4)) (w4.drewN nq) := fun nq => run_str _ _ _ _ _ (ho4.toBs.row.below (below_drewN (Below.refl w4.heap.size w4) nq) (Nat.le_refl _)) rfl
  have k2 : ∀ nq, (convert 22 9 (.slice (some ⟨b, off, none⟩) F cap)).run Try.prog (w4.drewN nq) = .ok (.string (str (l.take F))) (w4.drewN nq) := fun nq => run_str _ _ _ _ _ ((((unhide hbF).below hb4 (Nat.le_refl _))).below (below_drewN (Below.refl w4.heap.size w4) nq) (Nat.le_refl _)) (unhide hFl)
  have k1' : (convert 22 9 (.slice a4 r4.length cap4)).run Try.prog w4 = .ok (.string (str r4)) w4 := run_str _ _ _ _ _ ho4.toBs.row rfl
  have k2' : (convert 22 9 (.slice (some ⟨b, off, none⟩) F cap)).run Try.prog w4 = .ok (.string (str (l.take F))) w4 := run_str _ _ _ _ _ ((unhide hbF).below hb4 (Nat.le_refl _)) (unhide hFl)
  have t1 := toList_str r4
  have t2 := toList_str (l.take F)
  have HR4 : Hid (r4 = frameOf ((l.drop 3).take S)) := hr4
  have hqq : (r4 == l.take F) = false := by rw [hr4.out]; exact HEQ.out
  clear hr4 hd
  go_wp2
  go_quiet (fail)
  go_wp2
  go_ret3
  exact ⟨rfl, below_drewN hb4 _⟩

set_option maxHeartbeats 1000000 in
theorem runf_ok (b off cap : Nat) (l : List UInt8) (S : Nat) (d0 d1 d2 : UInt8) (w : World) (hB : Bs w (some ⟨b, off, none⟩) cap l) (h3 : 3 ≤ l.length) (e0 : w.cell? ⟨b, off, none⟩ = some (.int .u8 (d0.toNat : Int))) (e1 : w.cell? ⟨b, off + 1, none⟩ = some (.int .u8 (d1.toNat : Int))) (e2 : w.cell? ⟨b, off + 2, none⟩ = some (.int .u8 (d2.toNat : Int)))
    (hS : S = 65536 * d0.toNat + 256 * d1.toNat + d2.toNat) (hbig : ¬ 65536 < S) (hsh : ¬ l.length < S + 7) (heq : (frameOf ((l.drop 3).take S) == l.take (S + 7)) = true) :
    Calls Try.prog 30 #[.slice (some ⟨b, off, none⟩) l.length cap] w fun e w' => ∃ a' cap' r, ∃ N : Nat, e = .returned (.tuple #[.slice a' r.length cap', .int .i64 (N : Int), .int .i64 0]) ∧ Hid (N = S + 7) ∧ Hid (r = (l.drop 3).take S) ∧ OwnB w' w.heap.size a' cap' r ∧ Below w.heap.size w w' := by
  have q0 : d0.toNat < 256 := d0.toNat_lt
  have q1 : d1.toNat < 256 := d1.toNat_lt
  have q2 : d2.toNat < 256 := d2.toNat_lt
  have hle := hB.le
  have hm : l.length ≤ maxLen := Nat.le_trans hB.le hB.most
  unfold maxLen at hm
  have i0 : (0 : Int) < (l.length : Int) := by omega
  have i1 : (1 : Int) < (l.length : Int) := by omega
  have i2 : (2 : Int) < (l.length : Int) := by omega
  have hl3 : ¬ ((l.length : Int) < 3) := by omega
  have hS' : 65536 * (d0.toNat : Int) + 256 * (d1.toNat : Int) + (d2.toNat : Int) = (S : Int) := by omega
  have hE8 : ¬ cap = 3 := by omega
  have hE9 : S + 7 ≤ cap := by omega
  obtain ⟨E, hE⟩ : ∃ E, E = S + 3 := ⟨_, rfl⟩
  obtain ⟨F, hF⟩ : ∃ F, F = S + 7 := ⟨_, rfl⟩
  have hE' : 3 + (S : Int) = (E : Int) := by omega
  have hF' : (S : Int) + 7 = (F : Int) := by omega
  have hFw : IntKind.i64.wrap ((S : Int) + 7) = (F : Int) := by rw [IntKind.wrap_i64]; omega
  have hE3 : 3 ≤ E := by omega
  have hEc : E ≤ cap := by omega
  have hFc : F ≤ cap := by omega
  have hEl : E - 3 = S := by omega
  have hp := hide (show S = ((l.drop 3).take S).length by simp; omega)
  have hbp : Hid (Bs w (some ⟨b, off + 3, none⟩) (cap - 3) ((l.drop 3).take S)) := ⟨(hB.row.drop 3).take S, by simp; omega, by have := hB.most; unfold maxLen at this ⊢; omega, fun h => by cases h⟩
  have hbF := hide (hB.row.take F)
  have hFl := hide (show F = (l.take F).length by simp; omega)
  have HEQ : Hid ((frameOf ((l.drop 3).take S) == l.take F) = true) := by show _ = _; rw [hF]; exact heq
  have HF7 := hide hF
  clear hS hE hF heq
  generalize d0.toNat = x0 at *
  generalize d1.toNat = x1 at *
  generalize d2.toNat = x2 at *
  go_enter Try.func30, Try.ntmps30
  go_wp2
  go_quiet (fail)
  go_wp2_with fail
  have hd := below_drewN (Below.refl w.heap.size w) nq
  refine (rframe_ok (some ⟨b, off + 3, none⟩) S (cap - 3) ((l.drop 3).take S) (w.drewN nq) ((unhide hbp).below hd (Nat.le_refl _)) (unhide hp) (by rw [← unhide hp]; exact hbig)).mono ?_
  rintro e w4 ⟨a4, cap4, r4, rfl, hr4, ho4, hb4⟩
  have hb4 : Below w.heap.size w w4 := hd.trans hb4
  have k1 : ∀ nq, (convert 22 9 (.slice a4 r4.length cap4)).run Try.prog (w4.drewN nq) = .ok (.string (str r4)) (w4.drewN nq) := fun nq => run_str _ _ _ _ _ (ho4.toBs.row.below (below_drewN (Below.refl w4.heap.size w4) nq) (Nat.le_refl _)) rfl
  have k2 : ∀ nq, (convert 22 9 (.slice (some ⟨b, off, none⟩) F cap)).run Try.prog (w4.drewN nq) = .ok (.string (str (l.take F))) (w4.drewN nq) := fun nq => run_str _ _ _ _ _ ((((unhide hbF).below hb4 (Nat.le_refl _))).below (below_drewN (Below.refl w4.heap.size w4) nq) (Nat.le_refl _)) (unhide hFl)
  have k1' : (convert 22 9 (.slice a4 r4.length cap4)).run Try.prog w4 = .ok (.string (str r4)) w4 := run_str _ _ _ _ _ ho4.toBs.row rfl
  have k2' : (convert 22 9 (.slice (some ⟨b, off, none⟩) F cap)).run Try.prog w4 = .ok (.string (str (l.take F))) w4 := run_str _ _ _ _ _ ((unhide hbF).below hb4 (Nat.le_refl _)) (unhide hFl)
  have t1 := toList_str r4
  have t2 := toList_str (l.take F)
  have HR4 : Hid (r4 = frameOf ((l.drop 3).take S)) := hr4
  have hqq : (r4 == l.take F) = true := by rw [hr4.out]; exact HEQ.out
  clear hr4 hd
  go_wp2
  go_quiet (fail)
  have hb5 := below_drewN hb4 nq
  go_wp2_with (at_builtin; refine wp_app _ rfl _ _ rfl w.heap.size (some ⟨_, 0, none⟩) 0 [] rfl (own_empty _ _ ?c1) (some ⟨b, off + 3, none⟩) (cap - 3) ((l.drop 3).take S) S rfl (unhide hp) ?c2 (fun h => by cases h) ?c3 ?c4 ?_)
  case c1 => exact hb5.size
  case c2 => exact ((unhide hbp).row.below hb5 (Nat.le_refl _)).alloc _
  case c3 => have := unhide hp; rw [← this]; simp; omega
  case c4 => have := hb5.size; simp at this ⊢; omega
  intro a6 cap6 r6 w6 hr6 ho6 hg6
  have hb6 : Below w.heap.size w w6 := below_grown (a := some ⟨w4.heap.size, 0, none⟩) (hb5.alloc hb5.size _) hg6 (Nat.le_refl _) (fun k hk => by simp [blk] at hk; have := hb4.size; omega)
  have HR6 : Hid (r6 = (l.drop 3).take S) := by show _ = _; rw [hr6.out]
  clear hr6 hg6 hb5
  go_wp2
  go_ret3
  exact ⟨a6, cap6, r6, F, rfl, HF7, HR6, ho6, hb6⟩

theorem frame_eq (l : List UInt8) (S : Nat) (hS : S = ofBe (l.take 3)) (h : ¬ l.length < S + 7) :
    frameOf ((l.drop 3).take S) = l.take (S + 7) ↔ (l.drop (S + 3)).take 4 = be 4 (crc (l.take (S + 3))) := by
  have hp : ((l.drop 3).take S).length = S := by simp; omega
  have h3 : (l.take 3).length = 3 := by simp; omega
  have e1 : be 3 S ++ (l.drop 3).take S = l.take (S + 3) := by
    have := be_ofBe (l.take 3)
    rw [h3, ← hS] at this
    rw [this, Nat.add_comm S 3, List.take_add]
  have e2 : l.take (S + 7) = l.take (S + 3) ++ (l.drop (S + 3)).take 4 := by
    rw [show S + 7 = S + 3 + 4 by omega, List.take_add]
  unfold frameOf
  rw [hp, e1, e2]
  constructor
  · intro h
    exact (List.append_cancel_left h).symm
  · intro h
    rw [h]

theorem ofBe3 (a b c : UInt8) (r : List UInt8) : ofBe ((a :: b :: c :: r).take 3) = 65536 * a.toNat + 256 * b.toNat + c.toNat := by
  simp [ofBe]
  omega

/-- blotterref01.Unframe. -/
theorem runframe_any (a : Option Addr) (n cap : Nat) (l : List UInt8) (w : World) (hB : Bs w a cap l) (hn : n = l.length) :
    Calls Try.prog 30 #[.slice a n cap] w fun e w' => ∃ a' cap' r, ∃ N E : Nat, e = .returned (.tuple #[.slice a' r.length cap', .int .i64 (N : Int), .int .i64 (E : Int)]) ∧ Hid ((r, N, E) = unframe l) ∧ OwnB w' w.heap.size a' cap' r ∧ Below w.heap.size w w' := by
  subst hn
  by_cases h1 : l.length < 3
  · refine (runf_short a _ cap w h1).mono ?_
    rintro e w' ⟨rfl, rfl⟩
    exact ⟨none, 0, [], 0, 2, rfl, by show _ = _; rw [unframe, if_pos h1], OwnB.nil _ _, Below.refl _ _⟩
  · obtain ⟨b, off, rfl, hc⟩ := hB.row (by intro e; subst e; simp at h1)
    obtain ⟨d0, d1, d2, rest, hl⟩ := three_of l (by omega)
    have e0 := hc 0 (by omega)
    have e1 := hc 1 (by omega)
    have e2 := hc 2 (by omega)
    have g0 : l.getD 0 0 = d0 := by rw [hl]; rfl
    have g1 : l.getD 1 0 = d1 := by rw [hl]; rfl
    have g2 : l.getD 2 0 = d2 := by rw [hl]; rfl
    rw [g0] at e0
    rw [g1] at e1
    rw [g2] at e2
    obtain ⟨S, hS⟩ : ∃ S, S = ofBe (l.take 3) := ⟨_, rfl⟩
    have hS2 : S = 65536 * d0.toNat + 256 * d1.toNat + d2.toNat := by rw [hS, hl]; exact ofBe3 _ _ _ _
    have hm : l.length ≤ maxLen := Nat.le_trans hB.le hB.most
    by_cases h2 : 65536 < S
    · refine (runf_long b off l.length cap d0 d1 d2 w (by omega) (by unfold maxLen at hm; omega) e0 e1 e2 (by omega)).mono ?_
      rintro e w' ⟨rfl, hb⟩
      exact ⟨none, 0, [], 0, 4, rfl, by show _ = _; rw [unframe, if_neg h1, ← hS, if_pos h2], OwnB.nil _ _, hb⟩
    · by_cases h3 : l.length < S + 7
      · refine (runf_ends b off l.length cap S d0 d1 d2 w (by omega) e0 e1 e2 hS2 h2 h3).mono ?_
        rintro e w' ⟨rfl, hb⟩
        exact ⟨none, 0, [], 0, 2, rfl, by show _ = _; rw [unframe, if_neg h1, ← hS, if_neg h2, if_pos h3], OwnB.nil _ _, hb⟩
      · have hfe := frame_eq l S hS h3
        cases hq : (frameOf ((l.drop 3).take S) == l.take (S + 7)) with
        | false =>
          refine (runf_sum b off cap l S d0 d1 d2 w hB (by omega) e0 e1 e2 hS2 h2 h3 hq).mono ?_
          rintro e w' ⟨rfl, hb⟩
          refine ⟨none, 0, [], 0, 11, rfl, ?_, OwnB.nil _ _, hb⟩
          show _ = _
          rw [unframe, if_neg h1, ← hS, if_neg h2, if_neg h3, if_neg]
          intro he
          have := hfe.2 he
          rw [this] at hq
          simp at hq
        | true =>
          refine (runf_ok b off cap l S d0 d1 d2 w hB (by omega) e0 e1 e2 hS2 h2 h3 hq).mono ?_
          rintro e w' ⟨a', cap', r, F, rfl, hF, hr, ho, hb⟩
          refine ⟨a', cap', r, F, 0, rfl, ?_, ho, hb⟩
          show _ = _
          rw [unframe, if_neg h1, ← hS, if_neg h2, if_neg h3, if_pos (hfe.1 (by simpa using hq)), hr.out, hF.out]

#print axioms runframe_any
end Go.Proofs.Ythpalohjjkmhdaa
