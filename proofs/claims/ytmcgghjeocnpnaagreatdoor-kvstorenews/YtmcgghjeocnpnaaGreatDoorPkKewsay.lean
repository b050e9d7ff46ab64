/-
  seglog: Trim.
-/
import Derived.Test.YtmcgghjeocnpnaaGreatDoorPkKewsax
section
set_option linter.unusedVariables false
set_option maxRecDepth 1000000
namespace Go.Proofs.YtmcgghjeocnpnaaGreatDoor
open Go.RowKit Go.Maps

/-- How many segments Trim takes away. -/
def trK : List Sg → Int → Nat
  | _ :: t :: r, z => if (t.first : Int) ≤ z then trK (t :: r) z + 1 else 0
  | _, _ => 0
def drM (M : Md) (S : List Sg) (k : Nat) : Md := (S.take k).foldl (fun M s => M.drop (nmS s.first)) M
theorem drM_succ (M : Md) (S : List Sg) (k : Nat) (s : Sg) (h : S[k]? = some s) : drM M S (k + 1) = (drM M S k).drop (nmS s.first) := by
  unfold drM
  rw [List.take_add_one, h, List.foldl_append]
  rfl
theorem perform_seen (M : Md) (a : Ac) : (M.perform a).seen = doF M.seen a := rfl
theorem drop_seen (M : Md) (n m : Nm) (h : m ≠ n) : (M.drop n).seen m = M.seen m := by
  unfold Md.drop
  split
  · rw [perform_seen]
    show doF M.seen ⟨2, n, 0, []⟩ m = _
    unfold doF
    rw [if_neg (by show ¬ (2 : Nat) = 0; omega), if_neg (by show ¬ (2 : Nat) = 1; omega), upd_other _ _ _ _ h]
  · rfl
theorem drM_seen (M : Md) (S : List Sg) (m : Nm) : ∀ k, (∀ i s, i < k → S[i]? = some s → m ≠ nmS s.first) → (drM M S k).seen m = M.seen m
  | 0, _ => rfl
  | k + 1, h => by
    cases hk : S[k]? with
    | none =>
      have : drM M S (k + 1) = drM M S k := by unfold drM; rw [List.take_add_one, hk]; simp
      rw [this]
      exact drM_seen M S m k (fun i s hi hs => h i s (by omega) hs)
    | some s =>
      rw [drM_succ M S k s hk, drop_seen _ _ _ (h k s (by omega) hk)]
      exact drM_seen M S m k (fun i s hi hs => h i s (by omega) hs)
/-- All segments' files are there. -/
def There (M : Md) (S : List Sg) : Prop := ∀ s ∈ S, (M.seen (nmS s.first)).isSome = true ∧ s.first ≤ 9223372036854775807
theorem There.zero {M : Md} {S : List Sg} (h : There M S) {s : Sg} (hs : s ∈ S) : M.thereE (nmS s.first) = 0 := by
  obtain ⟨h1, h2⟩ := h s hs
  unfold Md.thereE
  rw [if_pos (nmS_name _ h2), if_pos h1]
theorem There.dropped {M : Md} {S : List Sg} (h : There M S) (wf : Wf S) (k : Nat) {s : Sg} (hs : S[k]? = some s) : (drM M S k).thereE (nmS s.first) = 0 := by
  obtain ⟨h1, h2⟩ := h s (List.mem_of_getElem? hs)
  unfold Md.thereE
  rw [if_pos (nmS_name _ h2), drM_seen M S _ k (fun i u hi hu e => ?_), if_pos h1]
  exact wf.apart hs i u hi hu (nmS_inj (h u (List.mem_of_getElem? hu)).2 h2 e.symm)
/-- What Trim leaves. -/
def trM (M : Md) (S : List Sg) (z : Int) : Md := if trK S z = 0 then M else (drM M S (trK S z)).flush
set_option maxHeartbeats 4000000 in
theorem trim5 (w0 : World) (g : Nat → Tg) (B D : Nat) (P : Option Addr) (pc : Nat) (l : List Gt) (S : List Sg) (M : Md) (N : Nat) (z : Int) (w : World) (hE : EnvS w0) (hL : LW w0 w g) (h : LgS w g B D P pc l S) (hd : DK w g 0 D M N) (hlen : S.length ≤ 1000000) (hN : N + S.length ≤ 1300) (wf : Wf S) (hth : There M S) :
    Calls Tryz.prog 34 #[.pointer (some ⟨B, 0, none⟩), .int .i64 z] w fun e w' => e = .returned (.int .i64 0) ∧ Hid (RL w w' g B D (trM M S z) (N + trK S z + 1) (S.drop (trK S z))) := by
  have c0 := h.c0
  have c1 := h.c1
  rw [h.n] at c1
  have HU := hide (unmade5 c0)
  have HH := hide h
  have HD := hide hd
  have HEE := hide hE
  have HLW := hide hL
  have HWF := hide wf
  have HTH := hide hth
  obtain ⟨T, hT⟩ : ∃ T, T = trK S z := ⟨_, rfl⟩
  have HTM : Hid (trM M S z = if T = 0 then M else (drM M S T).flush) := by rw [hT]; rfl
  rw [← hT]
  have HT0 : Hid (T = 0 + trK (S.drop 0) z) := by show _ = _; rw [hT]; simp
  clear h hd hE hL wf hth hT c0
  go_enter Tryz.func34, Tryz.ntmps34
  go_wp2_with fail
  refine (unhide HU).mono ?_
  rintro e v0 ⟨rfl, hv0⟩
  have hv1 := hv0.symm
  subst hv1
  clear hv0 HU
  go_wp2_with fail
  go_loopw [6] (fun v wr => ∃ (k : Nat) (g' : Nat → Tg) (P : Option Addr) (pc : Nat) (l : List Gt), k ≤ S.length ∧ Hid (T = k + trK (S.drop k) z) ∧ Hid (LgS wr g' B D P pc l (S.drop k)) ∧ Hid (DK wr g' 0 D (drM M S k) (N + k)) ∧ Hid (St w wr g g' X01)) (fun _ wr => match wr.cell? ⟨B, 1, none⟩ with | some (.slice _ n _) => n | _ => 0)
  case atStart => exact ⟨0, g, P, pc, l, Nat.zero_le _, HT0, HH, HD, St.refl _ _ _⟩
  case round =>
    clear HT0 HH HD c1
    obtain ⟨k, g', P', pc', l', hk, HT, HH, HD, HS⟩ := hrel
    have c1 := (unhide HH).c1
    rw [(unhide HH).n] at c1
    have c0 := (unhide HH).c0
    obtain ⟨m, hm⟩ : ∃ m, m = (S.drop k).length := ⟨_, rfl⟩
    rw [← hm] at c1
    have hmk : m + k = S.length := by rw [hm]; simp; omega
    have HMK := hide hmk
    have HM := hide hm
    by_cases h1 : 1 < m
    · have h1' : (1 : Int) < (m : Int) := by omega
      obtain ⟨t, s, G, _, hs, hP, _, d0, _, _, _⟩ := (unhide HH).at (i := 1) (by rw [← hm]; exact h1)
      subst hP
      have d0' : wr.cell? ⟨G, 3, none⟩ = some (.int .i64 (s.first : Int)) := by simpa using d0
      obtain ⟨s0, hs0⟩ : ∃ s0, (S.drop k)[0]? = some s0 := ⟨_, List.getElem?_eq_getElem (by omega)⟩
      have hSk : S[k]? = some s0 := by rw [List.getElem?_drop] at hs0; simpa using hs0
      have htk : trK (S.drop k) z = if (s.first : Int) ≤ z then trK (S.drop (k + 1)) z + 1 else 0 := by
        have e : S.drop k = s0 :: s :: S.drop (k + 2) := by
          have hkl : k < S.length := by omega
          have hkl2 : k + 1 < S.length := by omega
          rw [List.drop_eq_getElem_cons hkl, List.drop_eq_getElem_cons hkl2]
          congr 1
          · have := List.getElem?_eq_getElem hkl; rw [hSk] at this; exact (Option.some.inj this).symm
          · congr 1
            rw [List.getElem?_drop] at hs
            have := List.getElem?_eq_getElem hkl2
            rw [hs] at this
            exact (Option.some.inj this).symm
        have e2 : S.drop (k + 1) = s :: S.drop (k + 2) := by
          have := congrArg (List.drop 1) e
          rw [List.drop_drop] at this
          simpa using this
        rw [e, e2]
        rfl
      clear d0 hm
      by_cases hz : (s.first : Int) ≤ z
      · have HT2 : Hid (T = (k + 1) + trK (S.drop (k + 1)) z) := by show _ = _; rw [unhide HT, htk, if_pos hz]; omega
        have hft : s0.first ≤ 9223372036854775807 := (unhide HTH s0 (List.mem_of_getElem? hSk)).2
        have HDF := hide (dropF5 w0 g' B D (some ⟨G, 0, none⟩) pc' l' (S.drop k) s0 (drM M S k) (N + k) wr (unhide HEE) ((unhide HLW).st2 (unhide HS) x01o) (unhide HH) (unhide HD) (by simp; omega) (by omega) hs0 hft ((unhide HTH).dropped (unhide HWF) k hSk))
        have HDS : Hid (drM M S (k + 1) = (drM M S k).drop (nmS s0.first) ∧ (S.drop k).drop 1 = S.drop (k + 1)) := ⟨drM_succ M S k s0 hSk, by rw [List.drop_drop]⟩
        clear htk hs hs0 hSk
        go_wp2_with fail
        refine (unhide HDF).mono ?_
        rintro e v2 ⟨rfl, HRL⟩
        rw [← (unhide HDS).1, (unhide HDS).2] at HRL
        obtain ⟨g2, P2, pc2, l2, y1, y2, y3⟩ := unhide HRL
        have HY := hide (And.intro y1 (And.intro y2 y3))
        clear HDF y1 y2 y3 HRL
        go_wp2_with fail
        go_roundw
        case rel => exact ⟨k + 1, g2, P2, pc2, l2, by omega, HT2, (unhide HY).1, (unhide HY).2.1, (unhide HS).trans (unhide HY).2.2⟩
        case measure =>
          have hc2 := (unhide HY).1.c1
          rw [(unhide HY).1.n] at hc2
          rw [hc2, c1]
          simp only [List.length_drop]
          have := unhide HMK
          omega
      · have HT2 : Hid (T = k) := by show _ = _; rw [unhide HT, htk, if_neg hz]; omega
        clear htk hs hs0 hSk
        by_cases hk0 : k = 0
        · have e0 : ((m : Int) == (S.length : Int)) = true := by rw [beq_iff_eq]; omega
          have HF : Hid (RL w wr g B D (trM M S z) (N + T + 1) (S.drop T)) := by
            show RL _ _ _ _ _ _ _ _
            rw [unhide HTM, unhide HT2]
            subst hk0
            rw [if_pos rfl]
            exact RL.monoN (N := N) ⟨g', _, pc', l', unhide HH, unhide HD, unhide HS⟩ (by omega)
          clear hk0 HM HMK hmk
          go_wp2_with fail
          go_ret
          exact ⟨rfl, HF⟩
        · have e0 : ((m : Int) == (S.length : Int)) = false := by rw [beq_eq_false_iff_ne]; omega
          have HFL := hide (flush_k g' 0 D (drM M S k) (N + k) wr (unhide HD) (by omega))
          have HTT : Hid (trM M S z = (drM M S k).flush ∧ T = k) := by
            refine ⟨?_, unhide HT2⟩
            rw [unhide HTM, unhide HT2, if_neg hk0]
          clear hk0 HM HMK hmk
          go_wp2_with fail
          refine (unhide HFL).mono ?_
          rintro e v3 ⟨rfl, hrk⟩
          have HF : Hid (RL w v3 g B D (trM M S z) (N + T + 1) (S.drop T)) := by
            show RL _ _ _ _ _ _ _ _
            rw [(unhide HTT).1, (unhide HTT).2]
            exact (RL.from (unhide HS) (RL.disk (unhide HH) hrk)).monoN (by omega)
          clear HFL hrk
          go_wp2_with fail
          go_ret
          exact ⟨rfl, HF⟩
    · have h1' : ¬ (1 : Int) < (m : Int) := by omega
      have HT2 : Hid (T = k) := by
        show _ = _
        rw [unhide HT]
        have : trK (S.drop k) z = 0 := by
          have hl : (S.drop k).length ≤ 1 := by rw [← hm]; omega
          match hS : S.drop k, hl with
          | [], _ => rfl
          | [a], _ => rfl
        rw [this]; rfl
      clear hm
      by_cases hk0 : k = 0
      · have e0 : ((m : Int) == (S.length : Int)) = true := by rw [beq_iff_eq]; omega
        have HF : Hid (RL w wr g B D (trM M S z) (N + T + 1) (S.drop T)) := by
          show RL _ _ _ _ _ _ _ _
          rw [unhide HTM, unhide HT2]
          subst hk0
          rw [if_pos rfl]
          exact RL.monoN (N := N) ⟨g', _, pc', l', unhide HH, unhide HD, unhide HS⟩ (by omega)
        clear hk0 HM HMK hmk
        go_wp2_with fail
        go_ret
        exact ⟨rfl, HF⟩
      · have e0 : ((m : Int) == (S.length : Int)) = false := by rw [beq_eq_false_iff_ne]; omega
        have HFL := hide (flush_k g' 0 D (drM M S k) (N + k) wr (unhide HD) (by omega))
        have HTT : Hid (trM M S z = (drM M S k).flush ∧ T = k) := by
          refine ⟨?_, unhide HT2⟩
          rw [unhide HTM, unhide HT2, if_neg hk0]
        clear hk0 HM HMK hmk
        go_wp2_with fail
        refine (unhide HFL).mono ?_
        rintro e v3 ⟨rfl, hrk⟩
        have HF : Hid (RL w v3 g B D (trM M S z) (N + T + 1) (S.drop T)) := by
          show RL _ _ _ _ _ _ _ _
          rw [(unhide HTT).1, (unhide HTT).2]
          exact (RL.from (unhide HS) (RL.disk (unhide HH) hrk)).monoN (by omega)
        clear HFL hrk
        go_wp2_with fail
        go_ret
        exact ⟨rfl, HF⟩
#print axioms trim5
end Go.Proofs.YtmcgghjeocnpnaaGreatDoor
end
