/-
  THE WALK OF DiskAll.
-/
import Derived.Test.YtkhpjlgbiicdcaaDnX
set_option linter.unusedVariables false
namespace Go.Proofs.Ytkhpjlgbiicdcaa
open Go.RowKit Go.Maps

theorem kept_all {α : Type} : ∀ (l : List α), keptL l (List.replicate l.length true) = l
  | [] => rfl
  | a :: r => by
    show (if (List.replicate (r.length + 1) true).headD false then [a] else []) ++ keptL r (List.replicate (r.length + 1) true).tail = a :: r
    rw [List.replicate_succ]
    show [a] ++ keptL r (List.replicate r.length true) = _
    rw [kept_all r]
    rfl
theorem torn_none (a : Ac) (z : Int) (hz : z ≤ 0) : a.torn z = a := by
  unfold Ac.torn
  split
  · have : z.toNat = 0 := by omega
    rw [this]
    cases a
    simp
  · rfl
theorem tornLast_none (l : List Ac) (z : Int) (hz : z ≤ 0) : tornLast l z = l := by
  rcases List.eq_nil_or_concat l with rfl | ⟨r, t, rfl⟩
  · rfl
  · rw [List.concat_eq_append, tornLast_snoc, torn_none t z hz]
/-- What DiskAll asks. -/
theorem all_seen {M : Md} (hI : Inv M) (z : Int) (hz : z ≤ 0) : M.seen = (M.crash (List.replicate M.pend.length true) z).seen := by
  rw [crash_seen, crash_last, kept_all, tornLast_none _ _ hz, hI.sn]
theorem DK.pn {w : World} {g : Nat → Tg} {i D : Nat} {M : Md} {N : Nat} (h : DK w g i D M N) : M.pend.length ≤ N := by
  obtain ⟨J, _, h2, _⟩ := h
  have := h2.ln
  omega

set_option maxRecDepth 20000 in
set_option maxHeartbeats 400000 in
theorem diskAll_walk (room : Int) (p : Option Addr) (c : Nat) (l : List Dm) (tear : Int) (w : World) (hR : DoR w p l) :
    Calls Try.prog 5 #[.int .i64 room, .slice p l.length c, .int .i64 tear] w fun e w' => e = .returned (.bool true) ∧ Below w.heap.size w w' := by
  obtain ⟨M, hM⟩ : ∃ M, M = (Md.new (room % 1048576)).runs l := ⟨_, rfl⟩
  have hI : Inv M := by rw [hM]; exact (Inv.new _).runs l
  have HM := hide hM
  obtain ⟨z, hz⟩ : ∃ z, z = if (0 : Int) < tear then 0 else tear := ⟨_, rfl⟩
  have hz0 : z ≤ 0 := by rw [hz]; split <;> omega
  have e3 : (if (0 : Int) < tear then 0 else tear) = z := hz.symm
  have e4 : min tear 0 = z := by rw [hz]; split <;> omega
  clear hM hz
  go_enter Try.func5, Try.ntmps5
  go_wp2_with fail
  refine (made_k w (fun _ => .o) 0 room p c l w hR (LW.start w)).mono ?_
  rintro e w1 ⟨D, g1, rfl, d1, L1, -⟩
  rw [← unhide HM] at d1
  cases hsb : shortB l with
  | false =>
    have L1' := hide L1
    clear hsb d1 L1 hI
    go_wp2_with fail
    refine (awake_true _).mono ?_
    rintro e v ⟨rfl, hb⟩
    have hb2 := hide ((unhide L1').below.trans (hb.mono (unhide L1').below.size))
    go_wp2
    go_ret
    exact ⟨rfl, unhide hb2⟩
  | true =>
    have hlen := (shortB_len hsb).1
    have d1 := d1 hsb
    clear hsb HM
    go_wp2_with fail
    refine (clone_k w g1 0 1 D M _ w1 (by omega) d1 L1 (by omega)).mono ?_
    rintro e w2 ⟨C, g2, rfl, d2, c2, L2, -, -⟩
    have hpn := d2.pn
    have hbx : Below w2.heap.size w2 (w2.alloc (.cells #[.bool true] 4)) := (Below.refl _ _).alloc (Nat.le_refl _) _
    have hV : (w2.alloc (.cells #[.bool true] 4)).cell? ⟨w2.heap.size, 0, none⟩ = some (.bool true) := by rw [cell_of_row _ w2.heap.size 0 _ _ _ (heap_alloc_new w2 _)]; rfl
    have d3 := d2.below hbx
    have c3 := c2.below hbx
    have L3 := L2.bel hbx
    clear d1 L1 d2 c2 L2
    go_wp2_with fail
    refine (pending_k g2 0 D M _ _ d3).mono ?_
    rintro e wx ⟨rfl, rfl⟩
    go_wp2_with fail
    refine (repeat_any w2.heap.size M.pend.length _ (by omega) hV).mono ?_
    rintro e w4 ⟨a, ca, rfl, hB, b4⟩
    have d4 := d3.below b4
    have c4 := c3.below b4
    have L4 := L3.bel b4
    clear d3 c3 L3 hbx hV
    go_wp2_with fail
    refine (crash_k g2 0 D M _ a (List.replicate M.pend.length true) ca M.pend.length z w4 d4 (by omega) (by show _ = _; simp) hB (by unfold maxLen; omega)).mono ?_
    rintro e w5 ⟨rfl, g5, d5, S5⟩
    have c5 := c4.st S5 (by omega)
    have L5 := L4.st S5
    have hse := all_seen hI z hz0
    have hpe : (M.crash (List.replicate M.pend.length true) z).pend = [] := rfl
    generalize M.crash (List.replicate M.pend.length true) z = M' at *
    clear d4 c4 L4 S5 hB b4
    go_wp2_with fail
    refine (same_k g5 1 0 C D M M' _ _ w5 c5 d5 (by omega) (by omega) hI hse).mono ?_
    rintro e w6 ⟨rfl, b6⟩
    have d6 := d5.below b6
    have L6 := hide (L5.bel b6)
    clear d5 c5 L5 b6
    go_wp2_with fail
    refine (pending_k g5 0 D M' _ w6 d6).mono ?_
    rintro e wx ⟨rfl, rfl⟩
    rw [hpe]
    go_wp2_with fail
    refine (awake_true _).mono ?_
    rintro e v ⟨rfl, hb⟩
    have hb2 := hide ((unhide L6).below.trans (hb.mono (unhide L6).below.size))
    clear hb
    go_wp2
    go_ret
    exact ⟨rfl, unhide hb2⟩
#print axioms diskAll_walk
end Go.Proofs.Ytkhpjlgbiicdcaa
