/-
  seglog's statements, as mathematics: what calls without crashes leave.; seglog's statements, as mathematics: append, trim.
-/
import Derived.Test.YtmcgghjeocnpnaaGreatDoorPkKewsbd
section
set_option linter.unusedVariables false
set_option maxRecDepth 1000000
namespace Go.Proofs.YtmcgghjeocnpnaaGreatDoor
open Go.RowKit Go.Maps

theorem fs_at {S : List Sg} (wf : Wf S) : ∀ k s, S[k]? = some s → s.first = fsS S + ((S.take k).flatMap (·.recs)).length
  | 0, s, h => by
    have : fsS S = s.first := by
      unfold fsS
      cases S with
      | nil => simp at h
      | cons a r => simp at h; subst h; rfl
    simp [this]
  | k + 1, s, h => by
    obtain ⟨u, hu⟩ : ∃ u, S[k]? = some u := ⟨_, List.getElem?_eq_getElem (by have := (List.getElem?_eq_some_iff.1 h).1; omega)⟩
    have e := (wf.ch k u s hu h).1
    have ih := fs_at wf k u hu
    have e2 : ((S.take (k + 1)).flatMap (·.recs)).length = ((S.take k).flatMap (·.recs)).length + u.recs.length := by rw [List.take_add_one, hu]; simp
    rw [e, e2]
    unfold Sg.next
    omega
theorem last_of {S : List Sg} (hne : S ≠ []) : ∃ n s, S.length = n + 1 ∧ S[n]? = some s ∧ S.getLast? = some s ∧ S = S.take n ++ [s] := by
  obtain ⟨n, hn⟩ : ∃ n, S.length = n + 1 := ⟨S.length - 1, by have := List.length_pos_iff.2 hne; omega⟩
  obtain ⟨s, hs⟩ : ∃ s, S[n]? = some s := ⟨_, List.getElem?_eq_getElem (by omega)⟩
  refine ⟨n, s, hn, hs, by rw [getLast_at S n hn, hs], ?_⟩
  have : S.take (n + 1) = S.take n ++ [s] := by rw [List.take_add_one, hs]; rfl
  rw [← this, List.take_of_length_le (by omega)]
theorem nx_eq {S : List Sg} (wf : Wf S) (hne : S ≠ []) : nxS S = fsS S + (S.flatMap (·.recs)).length := by
  obtain ⟨n, s, hn, hs, hl, hS⟩ := last_of hne
  have e := fs_at wf n s hs
  have e2 : (S.flatMap (·.recs)).length = ((S.take n).flatMap (·.recs)).length + s.recs.length := by
    have := congrArg (fun l : List Sg => (l.flatMap (·.recs)).length) hS
    simp only [List.flatMap_append, List.length_append] at this
    rw [this]
    simp
  unfold nxS
  rw [hl]
  show s.next = _
  unfold Sg.next
  omega
theorem fs_pos {S : List Sg} (wf : Wf S) : 1 ≤ fsS S := by
  unfold fsS
  cases S with
  | nil => simp
  | cons a r => exact wf.f1 a (by simp)
@[irreducible] def szB (k : Nat) : Nat := k * 70000
theorem szB_succ (k : Nat) : szB (k + 1) = szB k + 70000 := by unfold szB; exact Nat.succ_mul k 70000
theorem szB_le {k : Nat} (h : k ≤ 200) : szB k ≤ 14000000 := by unfold szB; exact Nat.mul_le_mul_right 70000 h
/-- What calls without crashes leave: the records that were appended, from the log's first one on. -/
structure Pl (M : Md) (S : List Sg) (all : List (List UInt8)) (k : Nat) : Prop where
  wf : Wf S
  th : There M S
  nx : nxS S = all.length + 1
  rc : S.flatMap (·.recs) = all.drop (fsS S - 1)
  al : all.length ≤ k
  rl : ∀ r ∈ all, r.length ≤ 200000
  sz : bySz S ≤ szB k
  sl : S.length ≤ k
theorem Pl.fle {M : Md} {S : List Sg} {all : List (List UInt8)} {k : Nat} (h : Pl M S all k) : fsS S ≤ all.length + 1 := by
  by_cases hS : S = []
  · subst hS; simp [fsS]
  · have := nx_eq h.wf hS
    have := h.nx
    omega
theorem Pl.fl {M : Md} {S : List Sg} {all : List (List UInt8)} {k : Nat} (h : Pl M S all k) {s : Sg} (hs : s ∈ S) : s.first ≤ all.length + 1 := by
  obtain ⟨i, hi⟩ := List.getElem?_of_mem hs
  have e := fs_at h.wf i s hi
  have e2 := nx_eq h.wf (by intro e; subst e; cases hs)
  have e3 : ((S.take i).flatMap (·.recs)).length ≤ (S.flatMap (·.recs)).length := flat_take S i
  have := h.nx
  omega
theorem Pl.ok {M : Md} {S : List Sg} {all : List (List UInt8)} {k : Nat} (h : Pl M S all k) (hk : k ≤ 200) : SOk S := by
  have hal := h.al
  have hrc : (S.flatMap (·.recs)).length ≤ all.length := by rw [h.rc]; simp
  refine ⟨by have := h.sl; omega, fun s hs => ?_, by have h1 := h.sz; have h2 := szB_le hk; omega, by omega, fun s hs r hr => ?_⟩
  · have h1 := h.fl hs
    have h2 := recs_le hs
    unfold Sg.next
    omega
  · have : r ∈ S.flatMap (·.recs) := List.mem_flatMap.2 ⟨s, hs, hr⟩
    rw [h.rc] at this
    have := h.rl r (List.mem_of_mem_drop this)
    omega
theorem Pl.start (M : Md) : Pl M [] [] 0 := by
  have h1 : Wf [] := ⟨fun i a b ha hb => by simp at hb, fun a ha => (by cases ha), fun a ha => (by cases ha)⟩
  have h2 : There M [] := fun s hs => (by cases hs)
  have h3 : bySz [] ≤ szB 0 := by simp [bySz]
  refine { wf := h1, th := h2, nx := ?_, rc := ?_, al := ?_, rl := ?_, sz := h3, sl := ?_ }
  · simp [nxS]
  · simp
  · simp
  · intro r hr; cases hr
  · simp
theorem Pl.seen {M M' : Md} {S : List Sg} {all : List (List UInt8)} {k : Nat} (h : Pl M S all k) (e : M'.seen = M.seen) : Pl M' S all (k + 1) := by
  have h1 := h.al
  have h2 := h.sz
  have h3 := h.sl
  have h5 := szB_succ k
  have h4 : There M' S := fun s hs => by rw [e]; exact h.th s hs
  exact { wf := h.wf, th := h4, nx := h.nx, rc := h.rc, al := by omega, rl := h.rl, sz := by omega, sl := by omega }
theorem syM_seen (M : Md) (S : List Sg) : (syM M S).seen = M.seen := by
  unfold syM
  split
  · exact sync_seen _ _
  · rfl
theorem apD_seen (M : Md) (S : List Sg) : (apD M S).seen = M.seen := by
  unfold apD
  split
  · split
    · rfl
    · exact syM_seen _ _
  · rfl
theorem There.syE {M : Md} {S : List Sg} (h : There M S) : syE M S = 0 := by
  unfold Go.Proofs.YtmcgghjeocnpnaaGreatDoor.syE
  split
  · rename_i s hs
    exact h.zero (List.mem_of_getLast? hs)
  · rfl
#print axioms Pl.ok
end Go.Proofs.YtmcgghjeocnpnaaGreatDoor
end
section
set_option linter.unusedVariables false
set_option maxRecDepth 1000000
namespace Go.Proofs.YtmcgghjeocnpnaaGreatDoor
open Go.RowKit Go.Maps

theorem wf_repl {S0 : List Sg} {s t : Sg} (h : Wf (S0 ++ [s])) (hf : t.first = s.first) (hz : t.size = flN t.first t.recs) : Wf (S0 ++ [t]) := by
  refine ⟨fun i a b ha hb => ?_, fun a ha => ?_, fun a ha => ?_⟩
  · have hi : i + 1 < (S0 ++ [t]).length := (List.getElem?_eq_some_iff.1 hb).1
    simp at hi
    rw [List.getElem?_append_left hi] at ha
    by_cases h1 : i + 1 < S0.length
    · rw [List.getElem?_append_left h1] at hb
      exact h.ch i a b (by rw [List.getElem?_append_left hi]; exact ha) (by rw [List.getElem?_append_left h1]; exact hb)
    · have e : i + 1 = S0.length := by omega
      rw [e, List.getElem?_append_right (Nat.le_refl _), Nat.sub_self] at hb
      simp at hb
      subst hb
      have := h.ch i a s (by rw [List.getElem?_append_left hi]; exact ha) (by rw [e, List.getElem?_append_right (Nat.le_refl _), Nat.sub_self]; rfl)
      exact ⟨hf.trans this.1, this.2⟩
  · rcases List.mem_append.1 ha with h1 | h1
    · exact h.f1 a (List.mem_append_left _ h1)
    · rw [List.mem_singleton.1 h1, hf]; exact h.f1 s (by simp)
  · rcases List.mem_append.1 ha with h1 | h1
    · exact h.sz a (List.mem_append_left _ h1)
    · rw [List.mem_singleton.1 h1]; exact hz
theorem wf_snoc {S : List Sg} {t : Sg} (h : Wf S) (hl : ∀ s, S.getLast? = some s → t.first = s.next ∧ s.recs ≠ []) (h1 : 1 ≤ t.first) (hz : t.size = flN t.first t.recs) : Wf (S ++ [t]) := by
  refine ⟨fun i a b ha hb => ?_, fun a ha => ?_, fun a ha => ?_⟩
  · have hi : i + 1 < (S ++ [t]).length := (List.getElem?_eq_some_iff.1 hb).1
    simp at hi
    rw [List.getElem?_append_left hi] at ha
    by_cases h2 : i + 1 < S.length
    · rw [List.getElem?_append_left h2] at hb
      exact h.ch i a b ha hb
    · have e : i + 1 = S.length := by omega
      rw [e, List.getElem?_append_right (Nat.le_refl _), Nat.sub_self] at hb
      simp at hb
      subst hb
      exact hl a (by rw [getLast_at S i e.symm]; exact ha)
  · rcases List.mem_append.1 ha with h2 | h2
    · exact h.f1 a h2
    · rw [List.mem_singleton.1 h2]; exact h1
  · rcases List.mem_append.1 ha with h2 | h2
    · exact h.sz a h2
    · rw [List.mem_singleton.1 h2]; exact hz
theorem nx_snoc (S : List Sg) (t : Sg) : nxS (S ++ [t]) = t.next := by unfold nxS; simp
theorem fs_repl (S0 : List Sg) (s t : Sg) (h : t.first = s.first) : fsS (S0 ++ [t]) = fsS (S0 ++ [s]) := by
  cases S0 with
  | nil => exact h
  | cons a r => rfl
theorem fs_snoc (S : List Sg) (t : Sg) (h : t.first = nxS S) : fsS (S ++ [t]) = fsS S := by
  cases S with
  | nil => exact h
  | cons a r => rfl
theorem bySz_snoc (S : List Sg) (t : Sg) : bySz (S ++ [t]) = bySz S + t.size := by unfold bySz; simp
theorem write_some {M : Md} {n m : Nm} {b : List UInt8} (h : M.writeE n b.length = 0) (hm : m = n ∨ (M.seen m).isSome = true) : ((M.write n b).seen m).isSome = true := by
  unfold Md.write
  rw [if_pos h, perform_seen]
  by_cases e : m = n
  · subst e
    unfold doF
    rw [if_pos rfl, upd_same]
    rfl
  · rw [doF_other e]
    rcases hm with h1 | h1
    · exact absurd h1 e
    · exact h1
theorem apE_zero {M : Md} {S : List Sg} {r : List UInt8} (h : apE M S r = 0) : (frmN (nxS S) r).length ≤ 65543 ∧ (apD M S).writeE (nmS (apN S)) (frmN (nxS S) r).length = 0 := by
  unfold apE at h
  split at h
  · cases h
  · split at h
    · cases h
    · rename_i h1
      refine ⟨?_, h⟩
      unfold frmN
      rw [frameOf_length]
      omega
theorem Pl.app {M : Md} {S : List Sg} {all : List (List UInt8)} {k : Nat} {r : List UInt8} (h : Pl M S all k) (hk : k ≤ 200) (hr : r.length ≤ 200000) (hE : apE M S r = 0) :
    Pl ((apD M S).write (nmS (apN S)) (frmN (nxS S) r)) (apS S r) (all ++ [r]) (k + 1) := by
  obtain ⟨hF, hw⟩ := apE_zero hE
  have hnx := h.nx
  have hal := h.al
  have hsz := h.sz
  have hzs := szB_succ k
  have hsl := h.sl
  have hfle := h.fle
  have hfp := fs_pos h.wf
  have hM : ∀ m, m = nmS (apN S) ∨ (M.seen m).isSome = true → (((apD M S).write (nmS (apN S)) (frmN (nxS S) r)).seen m).isSome = true := fun m hm => write_some hw (by rw [apD_seen]; exact hm)
  have hdrop : all.drop (fsS S - 1) ++ [r] = (all ++ [r]).drop (fsS S - 1) := by rw [List.drop_append_of_le_length (by omega)]
  have hrl : ∀ x ∈ all ++ [r], x.length ≤ 200000 := fun x hx => by
    rcases List.mem_append.1 hx with h1 | h1
    · exact h.rl x h1
    · rw [List.mem_singleton.1 h1]; exact hr
  have caseB : apS S r = S ++ [(⟨nxS S, [], 0⟩ : Sg).put r (frmN (nxS S) r).length] → apN S = nxS S → (∀ s, S.getLast? = some s → s.recs ≠ []) → Pl ((apD M S).write (nmS (apN S)) (frmN (nxS S) r)) (apS S r) (all ++ [r]) (k + 1) := by
    intro eS eN hne
    rw [eS]
    refine ⟨wf_snoc h.wf (fun s hs => ⟨?_, hne s hs⟩) ?_ ?_, fun x hx => ?_, ?_, ?_, ?_, hrl, ?_, ?_⟩
    · show nxS S = _
      unfold nxS
      rw [hs]
    · show 1 ≤ nxS S
      omega
    · show 0 + (frmN (nxS S) r).length = flN (nxS S) [r]
      simp [flN]
    · rcases List.mem_append.1 hx with h1 | h1
      · obtain ⟨q1, q2⟩ := h.th x h1
        exact ⟨hM _ (.inr q1), q2⟩
      · rw [List.mem_singleton.1 h1]
        exact ⟨hM _ (.inl (by rw [eN]; rfl)), by show nxS S ≤ _; omega⟩
    · rw [nx_snoc]
      show nxS S + 1 = _
      simp
      omega
    · rw [fs_snoc _ _ rfl, List.flatMap_append, h.rc, ← hdrop]
      rfl
    · simp; omega
    · rw [bySz_snoc]
      show bySz S + (0 + (frmN (nxS S) r).length) ≤ _
      omega
    · simp; omega
  by_cases hS : S = []
  · subst hS
    exact caseB rfl rfl (fun s hs => by simp at hs)
  · obtain ⟨n, s, hn, hs, hl, hSe⟩ := last_of hS
    by_cases hf : s.size < 4096
    · have eS : apS S r = S.take n ++ [s.put r (frmN (nxS S) r).length] := by
        unfold apS
        rw [hl]
        simp only [if_pos hf]
        rw [show S.length - 1 = n by omega]
      have hsm : s ∈ S := List.mem_of_getElem? hs
      have hnS : nxS S = s.first + s.recs.length := by unfold nxS; rw [hl]; rfl
      have hsf : s.size = flN s.first s.recs := h.wf.sz s hsm
      rw [eS]
      refine ⟨wf_repl (s := s) (by rw [← hSe]; exact h.wf) rfl ?_, fun x hx => ?_, ?_, ?_, ?_, hrl, ?_, ?_⟩
      · show s.size + (frmN (nxS S) r).length = flN s.first (s.recs ++ [r])
        rw [flN_snoc, hsf, hnS]
      · rcases List.mem_append.1 hx with h1 | h1
        · obtain ⟨q1, q2⟩ := h.th x (List.mem_of_mem_take h1)
          exact ⟨hM _ (.inr q1), q2⟩
        · rw [List.mem_singleton.1 h1]
          obtain ⟨q1, q2⟩ := h.th s hsm
          exact ⟨hM _ (.inr q1), q2⟩
      · rw [nx_snoc]
        show s.first + (s.recs ++ [r]).length = _
        simp
        omega
      · have ef : fsS (S.take n ++ [s.put r (frmN (nxS S) r).length]) = fsS S := by
          rw [fs_repl (S.take n) s (s.put r (frmN (nxS S) r).length) rfl, ← hSe]
        rw [ef, ← hdrop, ← h.rc]
        have e : S.flatMap (·.recs) = (S.take n).flatMap (·.recs) ++ s.recs := by
          have := congrArg (fun l : List Sg => l.flatMap (·.recs)) hSe
          simp only [List.flatMap_append] at this
          rw [this]
          simp
        rw [e, List.flatMap_append]
        simp [Sg.put]
      · simp; omega
      · have e : bySz S = bySz (S.take n) + s.size := by
          have := congrArg bySz hSe
          rw [bySz_snoc] at this
          exact this
        rw [bySz_snoc]
        show bySz (S.take n) + (s.size + (frmN (nxS S) r).length) ≤ _
        omega
      · simp; omega
    · refine caseB ?_ ?_ (fun x hx => ?_)
      · unfold apS; rw [hl]; simp only [if_neg hf]
      · unfold apN; rw [hl]; simp only [if_neg hf]
      · rw [hl] at hx
        obtain rfl := Option.some.inj hx
        intro e
        have := h.wf.sz s (List.mem_of_getElem? hs)
        rw [e] at this
        simp [flN] at this
        omega
theorem trK_lt : ∀ (S : List Sg) (z : Int), S ≠ [] → trK S z < S.length
  | [], z, h => absurd rfl h
  | [a], z, _ => by simp [trK]
  | a :: t :: r, z, _ => by
    have := trK_lt (t :: r) z (by simp)
    unfold trK
    split
    · simp at this ⊢; omega
    · simp
theorem Pl.trim {M : Md} {S : List Sg} {all : List (List UInt8)} {k : Nat} (h : Pl M S all k) (z : Int) : Pl (trM M S z) (S.drop (trK S z)) all (k + 1) := by
  by_cases hS : S = []
  · subst hS
    have e : trM M [] z = M := by unfold trM; exact if_pos rfl
    rw [e]
    exact h.seen rfl
  · have hlt := trK_lt S z hS
    have hseen : (trM M S z).seen = (drM M S (trK S z)).seen := by
      unfold trM
      split
      · rename_i e; rw [e]; rfl
      · exact flush_seen _
    generalize trK S z = j at *
    have hal := h.al
    have hsz := h.sz
    have hzs := szB_succ k
    have hsl := h.sl
    obtain ⟨s, hs⟩ : ∃ s, S[j]? = some s := ⟨_, List.getElem?_eq_getElem hlt⟩
    have hfs : fsS (S.drop j) = s.first := by
      unfold fsS
      rw [List.head?_drop, hs]
    have hat := fs_at h.wf j s hs
    refine ⟨⟨fun i a b ha hb => ?_, fun a ha => h.wf.f1 a (List.mem_of_mem_drop ha), fun a ha => h.wf.sz a (List.mem_of_mem_drop ha)⟩, fun x hx => ?_, ?_, ?_, by omega, h.rl, ?_, ?_⟩
    · rw [List.getElem?_drop] at ha hb
      exact h.wf.ch (j + i) a b ha (by rw [← hb]; congr 1)
    · obtain ⟨i, hi⟩ := List.getElem?_of_mem hx
      rw [List.getElem?_drop] at hi
      obtain ⟨q1, q2⟩ := h.th x (List.mem_of_mem_drop hx)
      refine ⟨?_, q2⟩
      rw [hseen, drM_seen M S _ j (fun i' u hi' hu e => ?_)]
      · exact q1
      · exact h.wf.apart hi i' u (by omega) hu (nmS_inj (h.th u (List.mem_of_getElem? hu)).2 q2 e.symm)
    · rw [← h.nx]
      unfold nxS
      rw [List.getLast?_drop, if_neg (by omega)]
    · rw [hfs, hat]
      have e : S.flatMap (·.recs) = (S.take j).flatMap (·.recs) ++ (S.drop j).flatMap (·.recs) := by rw [← List.flatMap_append, List.take_append_drop]
      have e2 : (S.drop j).flatMap (·.recs) = (S.flatMap (·.recs)).drop ((S.take j).flatMap (·.recs)).length := by rw [e, List.drop_left]
      rw [e2, h.rc, List.drop_drop]
      congr 1
      have := fs_pos h.wf
      omega
    · have e : bySz S = bySz (S.take j) + bySz (S.drop j) := by
        unfold bySz
        rw [← List.sum_append, ← List.map_append, List.take_append_drop]
      omega
    · simp; omega
#print axioms Pl.app
#print axioms Pl.trim
end Go.Proofs.YtmcgghjeocnpnaaGreatDoor
end
