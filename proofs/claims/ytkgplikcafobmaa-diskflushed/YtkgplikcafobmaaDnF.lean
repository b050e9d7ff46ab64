/-
  THE WALKS OF DiskFlushed, DiskAll.
-/
import Derived.Test.YtkgplikcafobmaaDnS
set_option linter.unusedVariables false
namespace Go.Proofs.Ytkgplikcafobmaa
open Go.RowKit Go.Maps

theorem flushed_seen {M : Md} (h : Inv M) (kl : List Bool) (z : Int) : (M.flush.crash kl z).seen = M.seen := by
  rw [crash_seen, crash_last]
  show (tornLast (keptL [] kl) z).foldl doF M.flush.last = _
  rw [flush_last, h.sn]
  rfl

set_option maxRecDepth 20000 in
set_option maxHeartbeats 2000000 in
theorem diskFlushed_walk (room : Int) (p : Option Addr) (c : Nat) (l : List Dm) (kp : Option Addr) (kc : Nat) (kl : List Bool) (tear : Int) (w : World) (hR : DoR w p l) (hk : BRow w kp kl) (hkm : kl.length ≤ maxLen) :
    Calls Try.prog 4 #[.int .i64 room, .slice p l.length c, .slice kp kl.length kc, .int .i64 tear] w fun e w' => e = .returned (.bool true) ∧ Below w.heap.size w w' := by
  obtain ⟨M, hM⟩ : ∃ M, M = (Md.new (room % 1048576)).runs l := ⟨_, rfl⟩
  have hI : Inv M := by rw [hM]; exact (Inv.new _).runs l
  have HM := hide hM
  clear hM
  go_enter Try.func4, Try.ntmps4
  go_wp2_with fail
  refine (made_k w (fun _ => .o) 0 room p c l w hR (LW.start w)).mono ?_
  rintro e w1 ⟨D, g1, rfl, d1, L1, -⟩
  rw [← unhide HM] at d1
  cases hsb : shortB l with
  | false =>
    have L1' := hide L1
    clear hsb d1 L1 hI
    go_wp2_with fail
    refine (awake_true _).mono ?_
    rintro e v ⟨rfl, hb⟩
    have hb2 := hide ((unhide L1').below.trans (hb.mono (unhide L1').below.size))
    go_wp2
    go_ret
    exact ⟨rfl, unhide hb2⟩
  | true =>
    have hlen := (shortB_len hsb).1
    have d1 := d1 hsb
    clear hsb
    go_wp2_with fail
    refine (clone_k w g1 0 1 D M _ w1 (by omega) d1 L1 (by omega)).mono ?_
    rintro e w2 ⟨C, g2, rfl, d2, c2, L2, -, -⟩
    clear d1 L1
    go_wp2_with fail
    refine (flush_k g2 0 D M _ w2 d2 (by omega)).mono ?_
    rintro e w3 ⟨rfl, g3, d3, S3⟩
    have c3 := c2.st S3 (by omega)
    have L3 := L2.st S3
    clear d2 c2 L2 S3
    go_wp2_with fail
    refine (pending_k g3 0 D M.flush _ w3 d3).mono ?_
    rintro e w3' ⟨rfl, rfl⟩
    rw [show M.flush.pend.length = 0 from rfl]
    go_wp2_with fail
    refine (same_k g3 1 0 C D M M.flush _ _ _ c3 d3 (by omega) (by omega) hI (flush_seen M).symm).mono ?_
    rintro e w4 ⟨rfl, b4⟩
    have d4 := d3.below b4
    have c4 := c3.below b4
    have L4 := L3.bel b4
    clear d3 c3 L3 b4
    go_wp2_with fail
    refine (crash_k g3 0 D M.flush _ kp kl kc kl.length tear w4 d4 (by omega) (hide rfl) (hk.below L4.below (Nat.le_refl _)) hkm).mono ?_
    rintro e w5 ⟨rfl, g5, d5, S5⟩
    have c5 := c4.st S5 (by omega)
    have L5 := L4.st S5
    clear d4 c4 L4 S5
    go_wp2_with fail
    refine (same_k g5 1 0 C D M (M.flush.crash kl tear) _ _ _ c5 d5 (by omega) (by omega) hI (flushed_seen hI kl tear).symm).mono ?_
    rintro e w6 ⟨rfl, b6⟩
    have d6 := d5.below b6
    have L6 := L5.bel b6
    clear d5 c5 L5 b6
    go_wp2_with fail
    refine (pending_k g5 0 D (M.flush.crash kl tear) _ w6 d6).mono ?_
    rintro e w6' ⟨rfl, rfl⟩
    rw [show (M.flush.crash kl tear).pend.length = 0 from rfl]
    go_wp2_with fail
    refine (awake_true _).mono ?_
    rintro e v ⟨rfl, hb⟩
    have hb2 := hide (L6.below.trans (hb.mono L6.below.size))
    clear hb L6 d6
    go_wp2
    go_ret
    exact ⟨rfl, unhide hb2⟩
#print axioms diskFlushed_walk
end Go.Proofs.Ytkgplikcafobmaa
