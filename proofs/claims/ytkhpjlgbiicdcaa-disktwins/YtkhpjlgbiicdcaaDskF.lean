/-
  disk: settle, hasRoom, there; New; Pending, Used, Room; Read.
-/
import Derived.Test.YtkhpjlgbiicdcaaDskE
set_option linter.unusedVariables false
namespace Go.Proofs.Ytkhpjlgbiicdcaa
open Go.RowKit Go.Maps

theorem DS.del {w w' : World} {g : Nat → Tg} {i : Nat} {J : DJ} {M : Md} (h : DS w g i J M) (n : Nm) (pk : PK w' J.K (upd M.peaks n 0) J.kc) (hg : w.grownBy w' (some J.K)) (h0 : M.peaks n = 0) : DS w' g i J M ∧ St w w' g g (fun t => t = .d i ∨ t = .k i) := by
  have S : St w w' g g (fun t => t = .k i) := St.ofG hg (fun k hk => by rw [← Option.some.inj hk]; exact h.gK)
  refine ⟨⟨?_, h.gD, h.gL, h.gS, h.gK, h.gP, h.fl.st S ?_ ?_, h.fs.st S ?_ ?_, ?_, ?_⟩, S.mono (fun t e => .inr e)⟩
  · exact S.heap h.dsk (by rw [h.gD]; intro e; cases e)
  · rw [h.gL]; intro e; cases e
  · intro m e; cases e
  · rw [h.gS]; intro e; cases e
  · intro m e; cases e
  · have : upd M.peaks n 0 = M.peaks := by
      funext m
      unfold upd
      split
      · rename_i e; rw [e, h0]
      · rfl
    rw [this] at pk
    exact pk
  · obtain ⟨l, h1, h2, h3⟩ := h.pd
    refine ⟨l, h1, h2.st S (fun k hk => by rw [h.gP k hk]; intro e; cases e), fun t ht => ⟨(h3 t ht).1.st S (fun k hk => by rw [((h3 t ht).2 k hk).2]; intro e; cases e), fun k hk => ?_⟩⟩
    have := (h3 t ht).2 k hk
    exact ⟨Nat.lt_of_lt_of_le this.1 S.size, this.2⟩

set_option maxRecDepth 20000 in
set_option maxHeartbeats 2000000 in
theorem settle_any (g : Nat → Tg) (i : Nat) (J : DJ) (M : Md) (n : Nm) (w : World) (h : DS w g i J M) (hn : n.length ≤ 1000) (hk : J.kc ≤ 1000000) (hl : (fget M.seen n).length ≤ 1000000000) :
    Calls Try.prog 37 #[.pointer (some ⟨J.D, 0, none⟩), .string (str n)] w fun e w' => e = .returned (.tuple #[]) ∧ Hid (DS w' g i { J with kc := J.kc + 1 } (M.settle n)) ∧ Hid (St w w' g g (fun t => t = .d i ∨ t = .k i)) := by
  have hnm : n.length ≤ maxLen := by unfold maxLen; omega
  have c2 := h.c2
  obtain ⟨x, c, ox, _, look⟩ := h.fs.at n hnm
  have hl1 := (look w rfl).2
  cases hs : (M.seen n).isSome with
  | true =>
    rw [hs] at hl1
    clear look hs
    go_enter Try.func37, Try.ntmps37
    go_wp2_with fail
    refine (count_any g i J M n _ w h hn (wf_i64 (by omega) (by omega)) hk).mono ?_
    rintro e w1 ⟨rfl, HD, HS⟩
    go_wp2
    go_end0
    exact ⟨rfl, HD, HS⟩
  | false =>
    rw [hs] at hl1
    have H0 : Hid ((M.settle n).peaks n = 0) := by
      show (M.count n _).peaks n = 0
      have : M.seen n = none := by cases hm : M.seen n with | none => rfl | some v => rw [hm] at hs; cases hs
      simp [Md.count, upd_same, fget, this]
    clear look hs
    go_enter Try.func37, Try.ntmps37
    go_wp2_with fail
    refine (count_any g i J M n _ w h hn (wf_i64 (by omega) (by omega)) hk).mono ?_
    rintro e w1 ⟨rfl, HD, HS⟩
    have k4 := (unhide HD).c4
    simp only at k4
    obtain ⟨w2, hrun, pk2, g2⟩ := (unhide HD).pk.del n hnm 0
    simp only at hrun pk2 g2
    have HF := hide ((unhide HD).del n pk2 g2 (unhide H0))
    clear pk2 g2
    go_wp2_with (at_delete; refine wp_del_run _ rfl _ _ _ _ rfl _ _ rfl rfl _ hrun ?_)
    go_end0
    exact ⟨rfl, (unhide HF).1, (unhide HS).trans (unhide HF).2⟩

def Md.room? (M : Md) (n : Nm) (k : Nat) : Bool :=
  if (M.seen n).isNone && decide (4096 ≤ M.seenN) then false
  else decide (wrap64 (wrap64 (M.used - M.peaks n) + (if M.peaks n < ((fget M.seen n).length + k : Nat) then (((fget M.seen n).length + k : Nat) : Int) else M.peaks n)) ≤ M.room)

set_option maxRecDepth 20000 in
set_option maxHeartbeats 2000000 in
theorem room_any (g : Nat → Tg) (i : Nat) (J : DJ) (M : Md) (n : Nm) (k : Nat) (z : Int) (w : World) (h : DS w g i J M) (Hz : Hid (z = (k : Int))) (hn : n.length ≤ 1000) (hl : (fget M.seen n).length ≤ 1000000000) (hk : k ≤ 1000000000) (hc : M.seenN ≤ 1000000000) :
    Calls Try.prog 44 #[.pointer (some ⟨J.D, 0, none⟩), .string (str n), .int .i64 z] w fun e w' => e = .returned (.bool (M.room? n k)) ∧ Below w.heap.size w w' := by
  have hnm : n.length ≤ maxLen := by unfold maxLen; omega
  have c0 := h.c0
  have c2 := h.c2
  have c4 := h.c4
  have c5 := h.c5
  obtain ⟨x, c, ox, _, look⟩ := h.fs.at n hnm
  obtain ⟨_, pook⟩ := h.pk.at n hnm
  have hl1 := (look w rfl).2
  have hp1 := pook w rfl
  obtain ⟨D, hD1, hD2, _⟩ := h.fs
  have hz0 : 0 ≤ z := by rw [unhide Hz]; omega
  have hz1 : z ≤ 1000000000 := by rw [unhide Hz]; omega
  cases hs : (M.seen n).isSome with
  | true =>
    rw [hs] at hl1
    have HV : Hid (M.room? n k = decide (wrap64 (wrap64 (M.used - M.peaks n) + (if M.peaks n < ((fget M.seen n).length : Int) + z then ((fget M.seen n).length : Int) + z else M.peaks n)) ≤ M.room)) := by
      show _ = _
      unfold Md.room?
      rw [if_neg (by simp [Option.isSome_iff_ne_none.1 hs]), unhide Hz]
      simp only [Int.natCast_add]
    clear look hs pook
    by_cases hlt : M.peaks n < ((fget M.seen n).length : Int) + z
    · rw [if_pos hlt] at HV
      go_enter Try.func44, Try.ntmps44
      go_wp2_with fail
      go_quiet (fail)
      go_wp2
      go_ret
      exact ⟨by rw [unhide HV]; rfl, below_drewN (Below.refl _ _) nq⟩
    · rw [if_neg hlt] at HV
      have hlt2 : ((fget M.seen n).length : Int) + z ≤ M.peaks n := by omega
      clear hlt
      go_enter Try.func44, Try.ntmps44
      go_wp2_with fail
      go_quiet (fail)
      go_wp2
      go_ret
      exact ⟨by rw [unhide HV]; rfl, below_drewN (Below.refl _ _) nq⟩
  | false =>
    rw [hs] at hl1
    have hnone : M.seen n = none := by cases hm : M.seen n with | none => rfl | some v => rw [hm] at hs; cases hs
    have HF : Hid (fget M.seen n = []) := by show _ = _; simp [fget, hnone]
    have hlen := hD1.len Try.underlying54 3
    rw [hD2] at hlen
    clear hD1 hD2
    by_cases hmax : 4096 ≤ M.seenN
    · have HV : Hid (M.room? n k = false) := by
        show _ = _
        unfold Md.room?
        rw [if_pos (by simp [hnone, hmax])]
      have hes2 : (4096 : Int) ≤ (M.seenN : Int) := by omega
      clear look hs pook hmax hnone
      go_enter Try.func44, Try.ntmps44
      go_wp2
      go_ret
      exact ⟨by rw [unhide HV]; rfl, Below.refl _ _⟩
    · have HV : Hid (M.room? n k = decide (wrap64 (wrap64 (M.used - M.peaks n) + (if M.peaks n < ((fget M.seen n).length : Int) + z then ((fget M.seen n).length : Int) + z else M.peaks n)) ≤ M.room)) := by
        show _ = _
        unfold Md.room?
        rw [if_neg (by simp; omega), unhide Hz]
        simp only [Int.natCast_add]
      have hes2 : (M.seenN : Int) < 4096 := by omega
      clear look hs pook hmax hnone
      by_cases hlt : M.peaks n < ((fget M.seen n).length : Int) + z
      · rw [if_pos hlt] at HV
        go_enter Try.func44, Try.ntmps44
        go_wp2_with fail
        go_quiet (fail)
        go_wp2
        go_ret
        exact ⟨by rw [unhide HV]; rfl, below_drewN (Below.refl _ _) nq⟩
      · rw [if_neg hlt] at HV
        have hlt2 : ((fget M.seen n).length : Int) + z ≤ M.peaks n := by omega
        clear hlt
        go_enter Try.func44, Try.ntmps44
        go_wp2_with fail
        go_quiet (fail)
        go_wp2
        go_ret
        exact ⟨by rw [unhide HV]; rfl, below_drewN (Below.refl _ _) nq⟩
#print axioms room_any
end Go.Proofs.Ytkhpjlgbiicdcaa
