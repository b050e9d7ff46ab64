/-
  seglog's statements, as mathematics: append, trim.; seglog behind a crash, as mathematics: a segment's bytes, what is read of them, what a crash leaves of them.; seglog behind a crash, as mathematics: what a disk has of a log, and what of it lasts.; seglog behind a crash, as mathematics: what a crash leaves, what Open reads of it.; seglog behind a crash, as mathematics: what of a log lasts while calls go on; behind a crash.
-/
import Derived.Test.YtneclcihjbkhlaaGreatDoorPkSainba
section
set_option linter.unusedVariables false
set_option maxRecDepth 1000000
namespace Go.Proofs.YtneclcihjbkhlaaGreatDoor
open Go.RowKit Go.Maps

theorem wf_repl {S0 : List Sg} {s t : Sg} (h : Wf (S0 ++ [s])) (hf : t.first = s.first) (hz : t.size = flN t.first t.recs) : Wf (S0 ++ [t]) := by
  refine ⟨fun i a b ha hb => ?_, fun a ha => ?_, fun a ha => ?_⟩
  · have hi : i + 1 < (S0 ++ [t]).length := (List.getElem?_eq_some_iff.1 hb).1
    simp at hi
    rw [List.getElem?_append_left hi] at ha
    by_cases h1 : i + 1 < S0.length
    · rw [List.getElem?_append_left h1] at hb
      exact h.ch i a b (by rw [List.getElem?_append_left hi]; exact ha) (by rw [List.getElem?_append_left h1]; exact hb)
    · have e : i + 1 = S0.length := by omega
      rw [e, List.getElem?_append_right (Nat.le_refl _), Nat.sub_self] at hb
      simp at hb
      subst hb
      have := h.ch i a s (by rw [List.getElem?_append_left hi]; exact ha) (by rw [e, List.getElem?_append_right (Nat.le_refl _), Nat.sub_self]; rfl)
      exact ⟨hf.trans this.1, this.2⟩
  · rcases List.mem_append.1 ha with h1 | h1
    · exact h.f1 a (List.mem_append_left _ h1)
    · rw [List.mem_singleton.1 h1, hf]; exact h.f1 s (by simp)
  · rcases List.mem_append.1 ha with h1 | h1
    · exact h.sz a (List.mem_append_left _ h1)
    · rw [List.mem_singleton.1 h1]; exact hz
theorem wf_snoc {S : List Sg} {t : Sg} (h : Wf S) (hl : ∀ s, S.getLast? = some s → t.first = s.next ∧ s.recs ≠ []) (h1 : 1 ≤ t.first) (hz : t.size = flN t.first t.recs) : Wf (S ++ [t]) := by
  refine ⟨fun i a b ha hb => ?_, fun a ha => ?_, fun a ha => ?_⟩
  · have hi : i + 1 < (S ++ [t]).length := (List.getElem?_eq_some_iff.1 hb).1
    simp at hi
    rw [List.getElem?_append_left hi] at ha
    by_cases h2 : i + 1 < S.length
    · rw [List.getElem?_append_left h2] at hb
      exact h.ch i a b ha hb
    · have e : i + 1 = S.length := by omega
      rw [e, List.getElem?_append_right (Nat.le_refl _), Nat.sub_self] at hb
      simp at hb
      subst hb
      exact hl a (by rw [getLast_at S i e.symm]; exact ha)
  · rcases List.mem_append.1 ha with h2 | h2
    · exact h.f1 a h2
    · rw [List.mem_singleton.1 h2]; exact h1
  · rcases List.mem_append.1 ha with h2 | h2
    · exact h.sz a h2
    · rw [List.mem_singleton.1 h2]; exact hz
theorem nx_snoc (S : List Sg) (t : Sg) : nxS (S ++ [t]) = t.next := by unfold nxS; simp
theorem fs_repl (S0 : List Sg) (s t : Sg) (h : t.first = s.first) : fsS (S0 ++ [t]) = fsS (S0 ++ [s]) := by
  cases S0 with
  | nil => exact h
  | cons a r => rfl
theorem fs_snoc (S : List Sg) (t : Sg) (h : t.first = nxS S) : fsS (S ++ [t]) = fsS S := by
  cases S with
  | nil => exact h
  | cons a r => rfl
theorem bySz_snoc (S : List Sg) (t : Sg) : bySz (S ++ [t]) = bySz S + t.size := by unfold bySz; simp
theorem write_some {M : Md} {n m : Nm} {b : List UInt8} (h : M.writeE n b.length = 0) (hm : m = n ∨ (M.seen m).isSome = true) : ((M.write n b).seen m).isSome = true := by
  unfold Md.write
  rw [if_pos h, perform_seen]
  by_cases e : m = n
  · subst e
    unfold doF
    rw [if_pos rfl, upd_same]
    rfl
  · rw [doF_other e]
    rcases hm with h1 | h1
    · exact absurd h1 e
    · exact h1
theorem apE_zero {M : Md} {S : List Sg} {r : List UInt8} (h : apE M S r = 0) : (frmN (nxS S) r).length ≤ 65543 ∧ (apD M S).writeE (nmS (apN S)) (frmN (nxS S) r).length = 0 := by
  unfold apE at h
  split at h
  · cases h
  · split at h
    · cases h
    · rename_i h1
      refine ⟨?_, h⟩
      unfold frmN
      rw [frameOf_length]
      omega
theorem Pl.app {M : Md} {S : List Sg} {all : List (List UInt8)} {k : Nat} {r : List UInt8} (h : Pl M S all k) (hk : k ≤ 100) (hr : r.length ≤ 200000) (hE : apE M S r = 0) :
    Pl ((apD M S).write (nmS (apN S)) (frmN (nxS S) r)) (apS S r) (all ++ [r]) (k + 1) := by
  obtain ⟨hF, hw⟩ := apE_zero hE
  have hnx := h.nx
  have hal := h.al
  have hsz := h.sz
  have hzs := szB_succ k
  have hsl := h.sl
  have hfle := h.fle
  have hfp := fs_pos h.wf
  have hM : ∀ m, m = nmS (apN S) ∨ (M.seen m).isSome = true → (((apD M S).write (nmS (apN S)) (frmN (nxS S) r)).seen m).isSome = true := fun m hm => write_some hw (by rw [apD_seen]; exact hm)
  have hdrop : all.drop (fsS S - 1) ++ [r] = (all ++ [r]).drop (fsS S - 1) := by rw [List.drop_append_of_le_length (by omega)]
  have hrl : ∀ x ∈ all ++ [r], x.length ≤ 200000 := fun x hx => by
    rcases List.mem_append.1 hx with h1 | h1
    · exact h.rl x h1
    · rw [List.mem_singleton.1 h1]; exact hr
  have caseB : apS S r = S ++ [(⟨nxS S, [], 0⟩ : Sg).put r (frmN (nxS S) r).length] → apN S = nxS S → (∀ s, S.getLast? = some s → s.recs ≠ []) → Pl ((apD M S).write (nmS (apN S)) (frmN (nxS S) r)) (apS S r) (all ++ [r]) (k + 1) := by
    intro eS eN hne
    rw [eS]
    refine ⟨wf_snoc h.wf (fun s hs => ⟨?_, hne s hs⟩) ?_ ?_, fun x hx => ?_, ?_, ?_, ?_, hrl, ?_, ?_⟩
    · show nxS S = _
      unfold nxS
      rw [hs]
    · show 1 ≤ nxS S
      omega
    · show 0 + (frmN (nxS S) r).length = flN (nxS S) [r]
      simp [flN]
    · rcases List.mem_append.1 hx with h1 | h1
      · obtain ⟨q1, q2⟩ := h.th x h1
        exact ⟨hM _ (.inr q1), q2⟩
      · rw [List.mem_singleton.1 h1]
        exact ⟨hM _ (.inl (by rw [eN]; rfl)), by show nxS S ≤ _; omega⟩
    · rw [nx_snoc]
      show nxS S + 1 = _
      simp
      omega
    · rw [fs_snoc _ _ rfl, List.flatMap_append, h.rc, ← hdrop]
      rfl
    · simp; omega
    · rw [bySz_snoc]
      show bySz S + (0 + (frmN (nxS S) r).length) ≤ _
      omega
    · simp; omega
  by_cases hS : S = []
  · subst hS
    exact caseB rfl rfl (fun s hs => by simp at hs)
  · obtain ⟨n, s, hn, hs, hl, hSe⟩ := last_of hS
    by_cases hf : s.size < 4096
    · have eS : apS S r = S.take n ++ [s.put r (frmN (nxS S) r).length] := by
        unfold apS
        rw [hl]
        simp only [if_pos hf]
        rw [show S.length - 1 = n by omega]
      have hsm : s ∈ S := List.mem_of_getElem? hs
      have hnS : nxS S = s.first + s.recs.length := by unfold nxS; rw [hl]; rfl
      have hsf : s.size = flN s.first s.recs := h.wf.sz s hsm
      rw [eS]
      refine ⟨wf_repl (s := s) (by rw [← hSe]; exact h.wf) rfl ?_, fun x hx => ?_, ?_, ?_, ?_, hrl, ?_, ?_⟩
      · show s.size + (frmN (nxS S) r).length = flN s.first (s.recs ++ [r])
        rw [flN_snoc, hsf, hnS]
      · rcases List.mem_append.1 hx with h1 | h1
        · obtain ⟨q1, q2⟩ := h.th x (List.mem_of_mem_take h1)
          exact ⟨hM _ (.inr q1), q2⟩
        · rw [List.mem_singleton.1 h1]
          obtain ⟨q1, q2⟩ := h.th s hsm
          exact ⟨hM _ (.inr q1), q2⟩
      · rw [nx_snoc]
        show s.first + (s.recs ++ [r]).length = _
        simp
        omega
      · have ef : fsS (S.take n ++ [s.put r (frmN (nxS S) r).length]) = fsS S := by
          rw [fs_repl (S.take n) s (s.put r (frmN (nxS S) r).length) rfl, ← hSe]
        rw [ef, ← hdrop, ← h.rc]
        have e : S.flatMap (·.recs) = (S.take n).flatMap (·.recs) ++ s.recs := by
          have := congrArg (fun l : List Sg => l.flatMap (·.recs)) hSe
          simp only [List.flatMap_append] at this
          rw [this]
          simp
        rw [e, List.flatMap_append]
        simp [Sg.put]
      · simp; omega
      · have e : bySz S = bySz (S.take n) + s.size := by
          have := congrArg bySz hSe
          rw [bySz_snoc] at this
          exact this
        rw [bySz_snoc]
        show bySz (S.take n) + (s.size + (frmN (nxS S) r).length) ≤ _
        omega
      · simp; omega
    · refine caseB ?_ ?_ (fun x hx => ?_)
      · unfold apS; rw [hl]; simp only [if_neg hf]
      · unfold apN; rw [hl]; simp only [if_neg hf]
      · rw [hl] at hx
        obtain rfl := Option.some.inj hx
        intro e
        have := h.wf.sz s (List.mem_of_getElem? hs)
        rw [e] at this
        simp [flN] at this
        omega
theorem trK_lt : ∀ (S : List Sg) (z : Int), S ≠ [] → trK S z < S.length
  | [], z, h => absurd rfl h
  | [a], z, _ => by simp [trK]
  | a :: t :: r, z, _ => by
    have := trK_lt (t :: r) z (by simp)
    unfold trK
    split
    · simp at this ⊢; omega
    · simp
theorem Pl.trim {M : Md} {S : List Sg} {all : List (List UInt8)} {k : Nat} (h : Pl M S all k) (z : Int) : Pl (trM M S z) (S.drop (trK S z)) all (k + 1) := by
  by_cases hS : S = []
  · subst hS
    have e : trM M [] z = M := by unfold trM; exact if_pos rfl
    rw [e]
    exact h.seen rfl
  · have hlt := trK_lt S z hS
    have hseen : (trM M S z).seen = (drM M S (trK S z)).seen := by
      unfold trM
      split
      · rename_i e; rw [e]; rfl
      · exact flush_seen _
    generalize trK S z = j at *
    have hal := h.al
    have hsz := h.sz
    have hzs := szB_succ k
    have hsl := h.sl
    obtain ⟨s, hs⟩ : ∃ s, S[j]? = some s := ⟨_, List.getElem?_eq_getElem hlt⟩
    have hfs : fsS (S.drop j) = s.first := by
      unfold fsS
      rw [List.head?_drop, hs]
    have hat := fs_at h.wf j s hs
    refine ⟨⟨fun i a b ha hb => ?_, fun a ha => h.wf.f1 a (List.mem_of_mem_drop ha), fun a ha => h.wf.sz a (List.mem_of_mem_drop ha)⟩, fun x hx => ?_, ?_, ?_, by omega, h.rl, ?_, ?_⟩
    · rw [List.getElem?_drop] at ha hb
      exact h.wf.ch (j + i) a b ha (by rw [← hb]; congr 1)
    · obtain ⟨i, hi⟩ := List.getElem?_of_mem hx
      rw [List.getElem?_drop] at hi
      obtain ⟨q1, q2⟩ := h.th x (List.mem_of_mem_drop hx)
      refine ⟨?_, q2⟩
      rw [hseen, drM_seen M S _ j (fun i' u hi' hu e => ?_)]
      · exact q1
      · exact h.wf.apart hi i' u (by omega) hu (nmS_inj (h.th u (List.mem_of_getElem? hu)).2 q2 e.symm)
    · rw [← h.nx]
      unfold nxS
      rw [List.getLast?_drop, if_neg (by omega)]
    · rw [hfs, hat]
      have e : S.flatMap (·.recs) = (S.take j).flatMap (·.recs) ++ (S.drop j).flatMap (·.recs) := by rw [← List.flatMap_append, List.take_append_drop]
      have e2 : (S.drop j).flatMap (·.recs) = (S.flatMap (·.recs)).drop ((S.take j).flatMap (·.recs)).length := by rw [e, List.drop_left]
      rw [e2, h.rc, List.drop_drop]
      congr 1
      have := fs_pos h.wf
      omega
    · have e : bySz S = bySz (S.take j) + bySz (S.drop j) := by
        unfold bySz
        rw [← List.sum_append, ← List.map_append, List.take_append_drop]
      omega
    · simp; omega
#print axioms Pl.app
#print axioms Pl.trim
end Go.Proofs.YtneclcihjbkhlaaGreatDoor
end
section
set_option linter.unusedVariables false
set_option maxRecDepth 1000000
namespace Go.Proofs.YtneclcihjbkhlaaGreatDoor
open Go.RowKit Go.Maps

/-- A segment's bytes. -/
def flB : Nat → List (List UInt8) → List UInt8
  | _, [] => []
  | n, r :: rs => frmN n r ++ flB (n + 1) rs
theorem flB_len : ∀ (rs : List (List UInt8)) (n : Nat), (flB n rs).length = flN n rs
  | [], n => rfl
  | r :: rs, n => by
    show (frmN n r ++ flB (n + 1) rs).length = (frmN n r).length + flN (n + 1) rs
    rw [List.length_append, flB_len rs (n + 1)]
theorem flB_app : ∀ (a b : List (List UInt8)) (n : Nat), flB n (a ++ b) = flB n a ++ flB (n + a.length) b
  | [], b, n => by simp [flB]
  | r :: a, b, n => by
    show frmN n r ++ flB (n + 1) (a ++ b) = frmN n r ++ flB (n + 1) a ++ flB (n + (a.length + 1)) b
    rw [flB_app a b (n + 1), List.append_assoc, show n + 1 + a.length = n + (a.length + 1) by omega]
theorem flB_one (n : Nat) (r : List UInt8) : flB n [r] = frmN n r := by simp [flB]
/-- The records' frames are not too long. -/
def Fit : Nat → List (List UInt8) → Prop
  | _, [] => True
  | n, r :: rs => (form n ++ r).length ≤ 65536 ∧ Fit (n + 1) rs
theorem fit_app : ∀ (a b : List (List UInt8)) (n : Nat), Fit n (a ++ b) ↔ Fit n a ∧ Fit (n + a.length) b
  | [], b, n => by simp [Fit]
  | r :: a, b, n => by
    show (form n ++ r).length ≤ 65536 ∧ Fit (n + 1) (a ++ b) ↔ ((form n ++ r).length ≤ 65536 ∧ Fit (n + 1) a) ∧ Fit (n + (a.length + 1)) b
    rw [fit_app a b (n + 1), show n + 1 + a.length = n + (a.length + 1) by omega, and_assoc]
theorem Fit.take {n : Nat} {rs : List (List UInt8)} (h : Fit n rs) (k : Nat) : Fit n (rs.take k) := by
  have h2 := h
  rw [← List.take_append_drop k rs, fit_app] at h2
  exact h2.1
theorem Fit.drop {n : Nat} {rs : List (List UInt8)} (h : Fit n rs) (k : Nat) (hk : k ≤ rs.length) : Fit (n + k) (rs.drop k) := by
  have h2 := h
  rw [← List.take_append_drop k rs, fit_app] at h2
  have h3 := h2.2
  rw [List.length_take, Nat.min_eq_left hk] at h3
  exact h3
theorem flN_ge : ∀ (rs : List (List UInt8)) (n : Nat), rs.length ≤ flN n rs
  | [], n => Nat.le_refl _
  | r :: rs, n => by
    have := flN_ge rs (n + 1)
    show rs.length + 1 ≤ (frmN n r).length + flN (n + 1) rs
    have : (frmN n r).length = (form n ++ r).length + 7 := by unfold frmN; exact frameOf_length _
    omega
/-- Reading stops here. -/
def Stop (b : List UInt8) : Prop := (unframe b).2.2 ≠ 0 ∨ (rd (unframe b).1).2.2 ≠ 0
theorem stop_nil : Stop [] := .inl (by simp [unframe])
theorem stop_cut {p x : List UInt8} (hp : p.length ≤ 65536) (hx : x <+: frameOf p) (hne : x ≠ frameOf p) : Stop x := by
  have hl := hx.length_le
  have e := List.prefix_iff_eq_take.1 hx
  have hlt : x.length < p.length + 7 := by
    rw [frameOf_length] at hl
    apply Classical.byContradiction
    intro h
    apply hne
    rw [e]
    exact List.take_of_length_le (by rw [frameOf_length]; omega)
  left
  rw [e, unframe_cut p hp x.length hlt]
  simp
theorem stop_zero (k : Nat) (hk : 7 ≤ k) (y : List UInt8) : Stop (List.replicate k 0 ++ y) := by
  have h3 : (List.replicate k (0 : UInt8) ++ y).take 3 = [0, 0, 0] := by
    obtain ⟨j, rfl⟩ : ∃ j, k = j + 3 := ⟨k - 3, by omega⟩
    simp [List.replicate_succ]
  have h0 : ofBe [0, 0, 0] = 0 := by decide
  unfold Stop unframe
  rw [h3, h0]
  split
  · exact .inl (by simp)
  · rw [if_neg (by omega)]
    split
    · exact .inl (by simp)
    · split
      · right; simp [rd]
      · exact .inl (by simp)
theorem rdR_stop (b : List UInt8) (f : Nat) (s : Sg) (h : Stop (b.drop s.size)) : rdR b (f + 1) s = s := by
  unfold rdR
  split
  · rfl
  · split
    · rfl
    · split
      · rfl
      · rename_i h1 h2 h3
        rcases h with h | h
        · exact absurd h (by simpa using h2)
        · exact absurd (.inl h) h3
theorem rdR_all : ∀ (rs2 : List (List UInt8)) (n : Nat) (rs1 : List (List UInt8)) (rest : List UInt8) (f : Nat), Fit (n + rs1.length) rs2 → Stop rest → n + rs1.length + rs2.length ≤ 9223372036854775807 → rs2.length < f →
    rdR (flB n (rs1 ++ rs2) ++ rest) f ⟨n, rs1, flN n rs1⟩ = ⟨n, rs1 ++ rs2, flN n (rs1 ++ rs2)⟩
  | [], n, rs1, rest, f, _, hs, _, hf => by
    obtain ⟨f, rfl⟩ : ∃ j, f = j + 1 := ⟨f - 1, by simp at hf; omega⟩
    rw [List.append_nil]
    refine rdR_stop _ f _ ?_
    show Stop ((flB n rs1 ++ rest).drop (flN n rs1))
    rw [← flB_len, List.drop_left]
    exact hs
  | r :: rs2, n, rs1, rest, f, hfit, hs, hn, hf => by
    obtain ⟨f, rfl⟩ : ∃ j, f = j + 1 := ⟨f - 1, by simp at hf; omega⟩
    simp only [List.length_cons] at hn hf
    have e1 : rs1 ++ r :: rs2 = (rs1 ++ [r]) ++ rs2 := by simp
    have hb : (flB n (rs1 ++ r :: rs2) ++ rest).drop (flN n rs1) = frmN (n + rs1.length) r ++ (flB (n + rs1.length + 1) rs2 ++ rest) := by
      rw [flB_app, ← flB_len, List.append_assoc, List.drop_left]
      show (frmN (n + rs1.length) r ++ flB (n + rs1.length + 1) rs2) ++ rest = _
      rw [List.append_assoc]
    have hu : unframe ((flB n (rs1 ++ r :: rs2) ++ rest).drop (flN n rs1)) = (form (n + rs1.length) ++ r, (form (n + rs1.length) ++ r).length + 7, 0) := by
      rw [hb]; unfold frmN; exact unframe_lead _ _ hfit.1
    have hr : rd (form (n + rs1.length) ++ r) = (n + rs1.length, (form (n + rs1.length)).length, 0) := rd_form _ (by omega) r
    have hst := rdR_step (flB n (rs1 ++ r :: rs2) ++ rest) f ⟨n, rs1, flN n rs1⟩ (by show n + rs1.length ≠ _; omega) (by show (unframe ((flB n (rs1 ++ r :: rs2) ++ rest).drop (flN n rs1))).2.2 = 0; rw [hu]) (by show (rd (unframe ((flB n (rs1 ++ r :: rs2) ++ rest).drop (flN n rs1))).1).2.2 = 0; rw [hu, hr]) (by show (rd (unframe ((flB n (rs1 ++ r :: rs2) ++ rest).drop (flN n rs1))).1).1 = n + rs1.length; rw [hu, hr])
    rw [hst]
    have hput : (⟨n, rs1, flN n rs1⟩ : Sg).put ((unframe ((flB n (rs1 ++ r :: rs2) ++ rest).drop (flN n rs1))).1.drop (rd (unframe ((flB n (rs1 ++ r :: rs2) ++ rest).drop (flN n rs1))).1).2.1) (unframe ((flB n (rs1 ++ r :: rs2) ++ rest).drop (flN n rs1))).2.1 = ⟨n, rs1 ++ [r], flN n (rs1 ++ [r])⟩ := by
      rw [hu, hr]
      unfold Sg.put
      simp only
      rw [List.drop_left, flN_snoc]
      congr 1
      unfold frmN
      rw [frameOf_length]
    show rdR _ f ((⟨n, rs1, flN n rs1⟩ : Sg).put ((unframe ((flB n (rs1 ++ r :: rs2) ++ rest).drop (flN n rs1))).1.drop (rd (unframe ((flB n (rs1 ++ r :: rs2) ++ rest).drop (flN n rs1))).1).2.1) (unframe ((flB n (rs1 ++ r :: rs2) ++ rest).drop (flN n rs1))).2.1) = _
    rw [hput, e1]
    exact rdR_all rs2 n (rs1 ++ [r]) rest f (by rw [List.length_append]; exact hfit.2) hs (by simp; omega) (by omega)
theorem rdS_all (n : Nat) (rs : List (List UInt8)) (rest : List UInt8) (hf : Fit n rs) (hs : Stop rest) (hn : n + rs.length ≤ 9223372036854775807) : rdS n (flB n rs ++ rest) = ⟨n, rs, flN n rs⟩ := by
  unfold rdS
  have := rdR_all rs n [] rest ((flB n rs ++ rest).length + 1) (by simpa using hf) hs (by simpa using hn) (by rw [List.length_append, flB_len]; have := flN_ge rs n; omega)
  simpa [flN] using this
/-! ### what a crash leaves of writes one behind the other -/
def acts (nm : Nm) : Nat → Nat → List (List UInt8) → List Ac
  | _, _, [] => []
  | p, n, r :: rs => ⟨0, nm, p, frmN n r⟩ :: acts nm (p + (frmN n r).length) (n + 1) rs
theorem acts_snoc (nm : Nm) : ∀ (rs : List (List UInt8)) (p n : Nat) (r : List UInt8), acts nm p n (rs ++ [r]) = acts nm p n rs ++ [⟨0, nm, p + flN n rs, frmN (n + rs.length) r⟩]
  | [], p, n, r => by simp [acts, flN]
  | x :: rs, p, n, r => by
    show (⟨0, nm, p, frmN n x⟩ : Ac) :: acts nm (p + (frmN n x).length) (n + 1) (rs ++ [r]) = ⟨0, nm, p, frmN n x⟩ :: (acts nm (p + (frmN n x).length) (n + 1) rs ++ [⟨0, nm, p + ((frmN n x).length + flN (n + 1) rs), frmN (n + (rs.length + 1)) r⟩])
    rw [acts_snoc nm rs (p + (frmN n x).length) (n + 1) r, show p + (frmN n x).length + flN (n + 1) rs = p + ((frmN n x).length + flN (n + 1) rs) by omega, show n + 1 + rs.length = n + (rs.length + 1) by omega]
def Asc (nm : Nm) (E : Nat) : Nat → List Ac → Prop
  | _, [] => True
  | p, a :: r => a.k = 0 ∧ a.n = nm ∧ (p ≤ a.p ∧ a.p + a.b.length ≤ E) ∧ Asc nm E (a.p + a.b.length) r
theorem Asc.low {nm : Nm} {E p q : Nat} {K : List Ac} (h : Asc nm E p K) (hq : q ≤ p) : Asc nm E q K := by
  cases K with
  | nil => trivial
  | cons a r => exact ⟨h.1, h.2.1, ⟨Nat.le_trans hq h.2.2.1.1, h.2.2.1.2⟩, h.2.2.2⟩
theorem Asc.kept {nm : Nm} {E : Nat} : ∀ {K : List Ac} {p : Nat}, Asc nm E p K → ∀ kl : List Bool, Asc nm E p (keptL K kl)
  | [], p, _, kl => trivial
  | a :: r, p, h, kl => by
    have ih := Asc.kept h.2.2.2 kl.tail
    show Asc nm E p ((if kl.headD false then [a] else []) ++ keptL r kl.tail)
    split
    · exact ⟨h.1, h.2.1, h.2.2.1, ih⟩
    · exact ih.low (by have := h.2.2.1; omega)
theorem torn_cons (a b : Ac) (r : List Ac) (z : Int) : tornLast (a :: b :: r) z = a :: tornLast (b :: r) z := by simp [tornLast, List.getLast?_cons_cons]
theorem torn_of (a : Ac) (z : Int) : (a.torn z).k = a.k ∧ (a.torn z).n = a.n ∧ (a.torn z).p = a.p ∧ (a.torn z).b <+: a.b := by
  unfold Ac.torn
  split
  · exact ⟨rfl, rfl, rfl, List.take_prefix _ _⟩
  · exact ⟨rfl, rfl, rfl, List.prefix_refl _⟩
theorem Asc.torn {nm : Nm} {E : Nat} : ∀ {K : List Ac} {p : Nat}, Asc nm E p K → ∀ z : Int, Asc nm E p (tornLast K z)
  | [], p, _, z => trivial
  | [a], p, h, z => by
    obtain ⟨t1, t2, t3, t4⟩ := torn_of a z
    have hle := t4.length_le
    have h3 := h.2.2.1
    show Asc nm E p [a.torn z]
    exact ⟨t1.trans h.1, t2.trans h.2.1, by rw [t3]; omega, trivial⟩
  | a :: b :: r, p, h, z => by
    rw [torn_cons]
    exact ⟨h.1, h.2.1, h.2.2.1, Asc.torn h.2.2.2 z⟩
theorem asc_acts (nm : Nm) : ∀ (rs : List (List UInt8)) (p n E : Nat), p + flN n rs ≤ E → Asc nm E p (acts nm p n rs)
  | [], p, n, E, _ => trivial
  | r :: rs, p, n, E, h => by
    have h' : p + ((frmN n r).length + flN (n + 1) rs) ≤ E := h
    exact ⟨rfl, rfl, ⟨Nat.le_refl _, by show p + (frmN n r).length ≤ E; omega⟩, asc_acts nm rs _ _ E (by show p + (frmN n r).length + flN (n + 1) rs ≤ E; omega)⟩
def ovs (now : List UInt8) (K : List Ac) : List UInt8 := K.foldl (fun l a => over l a.p a.b) now
theorem fold_some {nm : Nm} {E : Nat} : ∀ {K : List Ac} {p : Nat} {f : Files} {l : List UInt8}, Asc nm E p K → f nm = some l → K.foldl doF f nm = some (ovs l K)
  | [], p, f, l, _, h => h
  | a :: r, p, f, l, hK, h => by
    have e : doF f a nm = some (over l a.p a.b) := by
      unfold doF
      rw [if_pos hK.1, hK.2.1, upd_same]
      unfold fget
      rw [h]
      rfl
    show r.foldl doF (doF f a) nm = some (ovs (over l a.p a.b) r)
    exact fold_some hK.2.2.2 e
theorem fold_new {nm : Nm} {E : Nat} {K : List Ac} {p : Nat} {f : Files} (hK : Asc nm E p K) (hne : K ≠ []) : K.foldl doF f nm = some (ovs (fget f nm) K) := by
  cases K with
  | nil => exact absurd rfl hne
  | cons a r =>
    have e : doF f a nm = some (over (fget f nm) a.p a.b) := by
      unfold doF
      rw [if_pos hK.1, hK.2.1, upd_same]
    show r.foldl doF (doF f a) nm = some (ovs (over (fget f nm) a.p a.b) r)
    exact fold_some hK.2.2.2 e
theorem over_far {l b : List UInt8} {p : Nat} (h : l.length ≤ p) : over l p b = l ++ (List.replicate (p - l.length) 0 ++ b) := by
  unfold over
  rw [List.take_of_length_le h, List.append_assoc]
theorem ovs_ext {nm : Nm} {E : Nat} : ∀ {K : List Ac} {p : Nat} {now : List UInt8}, Asc nm E p K → now.length ≤ p → p ≤ E → ∃ y, ovs now K = now ++ y ∧ (now ++ y).length ≤ E
  | [], p, now, _, h, hE => ⟨[], by simp [ovs], by simp; omega⟩
  | a :: r, p, now, hK, h, hE => by
    have h3 := hK.2.2.1
    have h2 : now.length ≤ a.p := Nat.le_trans h h3.1
    have e := over_far (b := a.b) h2
    obtain ⟨y, hy, hy2⟩ := ovs_ext (now := over now a.p a.b) hK.2.2.2 (by rw [e]; simp; omega) h3.2
    refine ⟨List.replicate (a.p - now.length) 0 ++ a.b ++ y, ?_, ?_⟩
    · show ovs (over now a.p a.b) r = _
      rw [hy, e]
      simp
    · rw [e] at hy2
      simp at hy2 ⊢
      omega
theorem crash_bytes (nm : Nm) (z : Int) : ∀ (rs : List (List UInt8)) (n : Nat) (now : List UInt8) (kl : List Bool), Fit n rs →
    ∃ m rest, m ≤ rs.length ∧ Stop rest ∧ ovs now (tornLast (keptL (acts nm now.length n rs) kl) z) = now ++ flB n (rs.take m) ++ rest ∧ (now ++ flB n (rs.take m) ++ rest).length ≤ now.length + flN n rs
  | [], n, now, kl, _ => ⟨0, [], Nat.le_refl _, stop_nil, by simp [acts, keptL, tornLast, ovs, flB], by simp [flB]⟩
  | r :: rs, n, now, kl, hf => by
    have hA := asc_acts nm rs (now.length + (frmN n r).length) (n + 1) (now.length + flN n (r :: rs)) (by show now.length + (frmN n r).length + flN (n + 1) rs ≤ now.length + ((frmN n r).length + flN (n + 1) rs); omega)
    have hfN : flN n (r :: rs) = (frmN n r).length + flN (n + 1) rs := rfl
    have hfl : 7 ≤ (frmN n r).length := by unfold frmN; rw [frameOf_length]; omega
    have e0 : keptL (acts nm now.length n (r :: rs)) kl = (if kl.headD false then [(⟨0, nm, now.length, frmN n r⟩ : Ac)] else []) ++ keptL (acts nm (now.length + (frmN n r).length) (n + 1) rs) kl.tail := rfl
    rw [e0]
    have hK' := hA.kept kl.tail
    have ih := crash_bytes nm z rs (n + 1) (now ++ frmN n r) kl.tail hf.2
    rw [List.length_append] at ih
    generalize keptL (acts nm (now.length + (frmN n r).length) (n + 1) rs) kl.tail = K' at hK' ih ⊢
    cases kl.headD false with
    | true =>
      simp only [if_true, List.singleton_append]
      cases K' with
      | nil =>
        obtain ⟨t1, t2, t3, t4⟩ := torn_of ⟨0, nm, now.length, frmN n r⟩ z
        generalize hx : ((⟨0, nm, now.length, frmN n r⟩ : Ac).torn z) = a' at t1 t2 t3 t4
        have e1 : tornLast [(⟨0, nm, now.length, frmN n r⟩ : Ac)] z = [a'] := by rw [← hx]; rfl
        have e2 : ovs now [a'] = now ++ a'.b := by
          show over now a'.p a'.b = _
          rw [t3, over_far (Nat.le_refl _)]
          simp
        rw [e1, e2]
        by_cases hw : a'.b = frmN n r
        · exact ⟨1, [], by simp, stop_nil, by rw [hw]; simp [flB], by simp [flB]; omega⟩
        · have t5 : a'.b.length ≤ (frmN n r).length := t4.length_le
          exact ⟨0, a'.b, by simp, stop_cut hf.1 t4 hw, by simp [flB], by simp [flB]; omega⟩
      | cons b K'' =>
        rw [torn_cons]
        obtain ⟨m, rest, hm, hs, he, hle⟩ := ih
        refine ⟨m + 1, rest, by simp; omega, hs, ?_, ?_⟩
        rotate_left
        · rw [List.take_succ_cons]
          show (now ++ (frmN n r ++ flB (n + 1) (rs.take m)) ++ rest).length ≤ _
          simp only [List.length_append] at hle ⊢
          omega
        show ovs (over now now.length (frmN n r)) (tornLast (b :: K'') z) = _
        rw [over_far (Nat.le_refl _), Nat.sub_self]
        show ovs (now ++ frmN n r) (tornLast (b :: K'') z) = _
        rw [he, List.take_succ_cons]
        show _ = now ++ (frmN n r ++ flB (n + 1) (rs.take m)) ++ rest
        simp
    | false =>
      simp only [Bool.false_eq_true, if_false, List.nil_append]
      have hT := hK'.torn z
      cases hK : tornLast K' z with
      | nil => exact ⟨0, [], by simp, stop_nil, by simp [ovs, flB], by simp [flB]⟩
      | cons c R =>
        rw [hK] at hT
        have h3 := hT.2.2.1
        have h2 : now.length ≤ c.p := by omega
        obtain ⟨y, hy, hyl⟩ := ovs_ext (now := over now c.p c.b) hT.2.2.2 (by rw [over_far h2]; simp; omega) h3.2
        refine ⟨0, List.replicate (c.p - now.length) 0 ++ (c.b ++ y), by simp, stop_zero _ (by omega) _, ?_, ?_⟩
        · show ovs (over now c.p c.b) R = _
          rw [hy, over_far h2]
          simp [flB]
        · rw [over_far h2] at hyl
          simp [flB] at hyl ⊢
          omega
#print axioms crash_bytes
#print axioms rdS_all
end Go.Proofs.YtneclcihjbkhlaaGreatDoor
end
section
set_option linter.unusedVariables false
set_option maxRecDepth 1000000
namespace Go.Proofs.YtneclcihjbkhlaaGreatDoor
open Go.RowKit Go.Maps

/-- Files that are just a log's segments; behind the last one's frames stands 'rest'. -/
structure HasT (f : Files) (S : List Sg) (rest : List UInt8) : Prop where
  at' : ∀ i s, S[i]? = some s → f (nmS s.first) = some (flB s.first s.recs ++ if i + 1 = S.length then rest else [])
  no : ∀ n, f n ≠ none → ∃ s ∈ S, n = nmS s.first
def Has (f : Files) (S : List Sg) : Prop := HasT f S []
theorem Has.mem {f : Files} {S : List Sg} (h : Has f S) {s : Sg} (hs : s ∈ S) : f (nmS s.first) = some (flB s.first s.recs) := by
  obtain ⟨i, hi⟩ := List.getElem?_of_mem hs
  rw [h.at' i s hi]
  simp
theorem Has.of {f : Files} {S : List Sg} (h1 : ∀ s ∈ S, f (nmS s.first) = some (flB s.first s.recs)) (h2 : ∀ n, f n ≠ none → ∃ s ∈ S, n = nmS s.first) : Has f S :=
  ⟨fun i s hi => by rw [h1 s (List.mem_of_getElem? hi)]; simp, h2⟩
theorem Has.nil (f : Files) (h : ∀ n, f n = none) : Has f [] := ⟨fun i s hi => by simp at hi, fun n hn => absurd (h n) hn⟩
theorem Has.empty {f : Files} (h : Has f []) (n : Nm) : f n = none := by
  cases e : f n with
  | none => rfl
  | some b => obtain ⟨s, hs, _⟩ := h.no n (by rw [e]; simp); cases hs
/-- No two segments begin alike, and all numbers may be. -/
structure Nice (S : List Sg) : Prop where
  ap : ∀ (i j : Nat) (s t : Sg), i < j → S[i]? = some s → S[j]? = some t → s.first ≠ t.first
  le : ∀ s ∈ S, s.first ≤ 9223372036854775807
theorem Nice.other {S0 : List Sg} {s : Sg} (h : Nice (S0 ++ [s])) {u : Sg} (hu : u ∈ S0) : nmS u.first ≠ nmS s.first := by
  obtain ⟨i, hi⟩ := List.getElem?_of_mem hu
  have hlt := (List.getElem?_eq_some_iff.1 hi).1
  intro e
  exact h.ap i S0.length u s hlt (by rw [List.getElem?_append_left hlt]; exact hi) (by rw [List.getElem?_append_right (Nat.le_refl _)]; simp) (nmS_inj (h.le u (by simp [hu])) (h.le s (by simp)) e)
theorem Wf.nice {S : List Sg} (wf : Wf S) (h : ∀ s ∈ S, s.first ≤ 9223372036854775807) : Nice S := by
  refine ⟨fun i j s t hij hs ht e => ?_, h⟩
  have := wf.rise (j - i - 1) i s t hs (by rw [show i + (j - i - 1) + 1 = j by omega]; exact ht)
  omega
theorem Has.put {f : Files} {S0 : List Sg} {s t : Sg} (h : Has f (S0 ++ [s])) (hn : Nice (S0 ++ [s])) (ht : t.first = s.first) : Has (upd f (nmS s.first) (some (flB t.first t.recs))) (S0 ++ [t]) := by
  refine Has.of (fun u hu => ?_) (fun n hne => ?_)
  · rcases List.mem_append.1 hu with h1 | h1
    · rw [upd_other _ _ _ _ (hn.other h1)]
      exact h.mem (by simp [h1])
    · rw [List.mem_singleton.1 h1, ht, upd_same]
  · by_cases e : n = nmS s.first
    · exact ⟨t, by simp, by rw [e, ht]⟩
    · rw [upd_other _ _ _ _ e] at hne
      obtain ⟨u, hu, hnu⟩ := h.no n hne
      rcases List.mem_append.1 hu with h1 | h1
      · exact ⟨u, by simp [h1], hnu⟩
      · rw [List.mem_singleton.1 h1] at hnu; exact absurd hnu e
theorem Has.add {f : Files} {S : List Sg} {t : Sg} (h : Has f S) (hn : Nice (S ++ [t])) : Has (upd f (nmS t.first) (some (flB t.first t.recs))) (S ++ [t]) := by
  refine Has.of (fun u hu => ?_) (fun n hne => ?_)
  · rcases List.mem_append.1 hu with h1 | h1
    · rw [upd_other _ _ _ _ (hn.other h1)]
      exact h.mem h1
    · rw [List.mem_singleton.1 h1, upd_same]
  · by_cases e : n = nmS t.first
    · exact ⟨t, by simp, e⟩
    · rw [upd_other _ _ _ _ e] at hne
      obtain ⟨u, hu, hnu⟩ := h.no n hne
      exact ⟨u, by simp [hu], hnu⟩
theorem Has.front {f : Files} {S : List Sg} {a : Sg} (h : Has f (a :: S)) (hn : Nice (a :: S)) : Has (upd f (nmS a.first) none) S := by
  have hne : ∀ u ∈ S, nmS u.first ≠ nmS a.first := fun u hu e => by
    obtain ⟨i, hi⟩ := List.getElem?_of_mem hu
    exact hn.ap 0 (i + 1) a u (by omega) rfl hi (nmS_inj (hn.le a (by simp)) (hn.le u (by simp [hu])) e.symm)
  refine Has.of (fun u hu => ?_) (fun n hne2 => ?_)
  · rw [upd_other _ _ _ _ (hne u hu)]
    exact h.mem (by simp [hu])
  · by_cases e : n = nmS a.first
    · rw [e, upd_same] at hne2; exact absurd rfl hne2
    · rw [upd_other _ _ _ _ e] at hne2
      obtain ⟨u, hu, hnu⟩ := h.no n hne2
      rcases List.mem_cons.1 hu with h1 | h1
      · rw [h1] at hnu; exact absurd hnu e
      · exact ⟨u, h1, hnu⟩
/-- The first records of a segment. -/
def Sg.cut (s : Sg) (m : Nat) : Sg := ⟨s.first, s.recs.take m, flN s.first (s.recs.take m)⟩
theorem Sg.cut_all (s : Sg) (h : s.size = flN s.first s.recs) : s.cut s.recs.length = s := by
  unfold Sg.cut
  rw [List.take_length, ← h]
theorem flN_app (a b : List (List UInt8)) (n : Nat) : flN n (a ++ b) = flN n a + flN (n + a.length) b := by
  rw [← flB_len, ← flB_len, ← flB_len, flB_app, List.length_append]
/-- What a disk has of a log; of the last segment so many records last. -/
structure Du (M : Md) (S : List Sg) (q : Nat) : Prop where
  inv : Inv M
  ft : ∀ s ∈ S, Fit s.first s.recs
  sn : Has M.seen S
  sm : ∀ s ∈ S, flN s.first s.recs ≤ 70000
  em : S = [] → M.pend = []
  lg : ∀ S0 s, S = S0 ++ [s] → q ≤ s.recs.length ∧ M.pend = acts (nmS s.first) (flN s.first (s.recs.take q)) (s.first + q) (s.recs.drop q) ∧ (Has M.last (S0 ++ [s.cut q]) ∨ (q = 0 ∧ Has M.last S0 ∧ s.first = nxS S0))
/-- The number behind the last record that lasts. -/
def duN (S : List Sg) (q : Nat) : Nat := match S.getLast? with | some s => s.first + q | none => 1
theorem duN_snoc (S0 : List Sg) (s : Sg) (q : Nat) : duN (S0 ++ [s]) q = s.first + q := by unfold duN; simp
theorem snoc_inj {α : Type} {a b : List α} {x y : α} (h : a ++ [x] = b ++ [y]) : a = b ∧ x = y := by
  have h1 := congrArg List.length h
  simp at h1
  have h2 := List.append_inj h h1
  exact ⟨h2.1, by simpa using h2.2⟩
theorem snoc_ne {α : Type} {a : List α} {x : α} (h : a ++ [x] = []) : False := by simp at h
theorem Du.new (z : Int) : Du (Md.new z) [] 0 := ⟨Inv.new z, fun s hs => (by cases hs), Has.nil _ (fun n => rfl), fun s hs => (by cases hs), fun _ => rfl, fun S0 s h => (snoc_ne h.symm).elim⟩
/-- All of it lasts. -/
theorem Du.all {M : Md} {S : List Sg} (hi : Inv M) (hft : ∀ s ∈ S, Fit s.first s.recs) (hs : Has M.seen S) (hp : M.pend = []) (hz : ∀ s ∈ S, s.size = flN s.first s.recs) (hm : ∀ s ∈ S, flN s.first s.recs ≤ 70000) : Du M S (match S.getLast? with | some s => s.recs.length | none => 0) := by
  have hl : M.last = M.seen := by rw [hi.sn, hp]; rfl
  refine ⟨hi, hft, hs, hm, fun _ => hp, fun S0 s h => ?_⟩
  subst h
  have e : (match (S0 ++ [s]).getLast? with | some s => s.recs.length | none => 0) = s.recs.length := by simp
  rw [e]
  refine ⟨Nat.le_refl _, by rw [hp, List.drop_length]; rfl, .inl ?_⟩
  rw [hl, s.cut_all (hz s (by simp))]
  exact hs
theorem duN_all (S : List Sg) : duN S (match S.getLast? with | some s => s.recs.length | none => 0) = nxS S := by
  unfold duN nxS Sg.next
  cases S.getLast? <;> rfl
theorem acts_n (nm : Nm) : ∀ (rs : List (List UInt8)) (p n : Nat), ∀ a ∈ acts nm p n rs, a.n = nm
  | [], p, n, a, h => by cases h
  | r :: rs, p, n, a, h => by
    rcases List.mem_cons.1 h with h1 | h1
    · rw [h1]
    · exact acts_n nm rs _ _ a h1
theorem sync_pend (M : Md) (n : Nm) (h : M.thereE n = 0) : (M.sync n).pend = M.pend.filter (fun a => !(isN n a)) := by
  unfold Md.sync
  rw [if_pos h]
  rfl
theorem Du.pend_n {M : Md} {S0 : List Sg} {s : Sg} {q : Nat} (h : Du M (S0 ++ [s]) q) : ∀ a ∈ M.pend, a.n = nmS s.first := by
  rw [(h.lg S0 s rfl).2.1]
  exact acts_n _ _ _ _
theorem Du.sync {M : Md} {S : List Sg} {q : Nat} (h : Du M S q) (hth : There M S) (hz : ∀ s ∈ S, s.size = flN s.first s.recs) : Du (syM M S) S (match S.getLast? with | some s => s.recs.length | none => 0) ∧ (syM M S).pend = [] := by
  by_cases hS : S = []
  · subst hS
    have hp : (syM M []).pend = [] := h.em rfl
    exact ⟨⟨h.inv, h.ft, h.sn, h.sm, fun _ => hp, fun S0 s e => (snoc_ne e.symm).elim⟩, hp⟩
  · obtain ⟨n, s, hn, hs, hl, hSe⟩ := last_of hS
    have hsy : syM M S = M.sync (nmS s.first) := by unfold syM; rw [hl]
    have ht := hth.zero (List.mem_of_getElem? hs)
    rw [hSe] at h
    have hp : (syM M S).pend = [] := by
      rw [hsy, sync_pend _ _ ht, List.filter_eq_nil_iff]
      intro a ha
      simp [isN, h.pend_n a ha]
    refine ⟨Du.all ?_ ?_ ?_ hp hz (by rw [hSe]; exact h.sm), hp⟩
    · rw [hsy]; exact h.inv.sync _
    · rw [hSe]; exact h.ft
    · rw [hsy, sync_seen, hSe]; exact h.sn
theorem over_end (l b : List UInt8) : over l l.length b = l ++ b := by
  rw [over_far (Nat.le_refl _), Nat.sub_self]
  rfl
theorem write_perf {M : Md} {n : Nm} {b : List UInt8} (h : M.writeE n b.length = 0) : M.write n b = M.perform ⟨0, n, (fget M.seen n).length, b⟩ := by unfold Md.write; rw [if_pos h]
theorem doF_write (f : Files) (n : Nm) (b : List UInt8) : doF f ⟨0, n, (fget f n).length, b⟩ = upd f n (some (fget f n ++ b)) := by
  unfold doF
  rw [if_pos rfl]
  show upd f n (some (over (fget f n) (fget f n).length b)) = _
  rw [over_end]
/-- Append to the last segment. -/
theorem Du.same {M : Md} {S0 : List Sg} {s : Sg} {q : Nat} {r : List UInt8} {k : Nat} (h : Du M (S0 ++ [s]) q) (hn : Nice (S0 ++ [s])) (hf : (form s.next ++ r).length ≤ 65536) (h4 : flN s.first s.recs < 4096) (hw : M.writeE (nmS s.first) (frmN s.next r).length = 0) :
    Du (M.write (nmS s.first) (frmN s.next r)) (S0 ++ [s.put r k]) q := by
  have hb : fget M.seen (nmS s.first) = flB s.first s.recs := by unfold fget; rw [h.sn.mem (by simp)]; rfl
  obtain ⟨hq, hp, hl⟩ := h.lg S0 s rfl
  rw [write_perf hw]
  have hsn : (M.perform ⟨0, nmS s.first, (fget M.seen (nmS s.first)).length, frmN s.next r⟩).seen = upd M.seen (nmS s.first) (some (flB s.first (s.recs ++ [r]))) := by
    rw [perform_seen, doF_write, hb, flB_app, flB_one]
    rfl
  refine ⟨h.inv.perform (write_name hw), fun u hu => ?_, ?_, fun u hu => ?_, fun e => (snoc_ne e).elim, fun S1 t e => ?_⟩
  rotate_left 2
  · rcases List.mem_append.1 hu with h1 | h1
    · exact h.sm u (by simp [h1])
    · rw [List.mem_singleton.1 h1]
      show flN s.first (s.recs ++ [r]) ≤ _
      rw [flN_snoc]
      have : (frmN (s.first + s.recs.length) r).length = (form s.next ++ r).length + 7 := by unfold frmN; exact frameOf_length _
      omega
  rotate_left 1
  · rcases List.mem_append.1 hu with h1 | h1
    · exact h.ft u (by simp [h1])
    · rw [List.mem_singleton.1 h1]
      show Fit s.first (s.recs ++ [r])
      rw [fit_app]
      exact ⟨h.ft s (by simp), hf, trivial⟩
  · rw [hsn]
    exact h.sn.put (t := s.put r k) hn rfl
  · obtain ⟨rfl, rfl⟩ := snoc_inj e
    have e1 : (s.put r k).recs = s.recs ++ [r] := rfl
    have e2 : (s.put r k).first = s.first := rfl
    have e3 : (s.put r k).cut q = s.cut q := by
      unfold Sg.cut
      rw [e1, e2, List.take_append_of_le_length hq]
    rw [e1, e2, e3, List.take_append_of_le_length hq, List.drop_append_of_le_length hq]
    refine ⟨by rw [List.length_append]; omega, ?_, hl⟩
    show M.pend ++ [_] = _
    rw [acts_snoc, ← hp, hb]
    congr 3
    · rw [flB_len]
      have : flN s.first s.recs = flN s.first (s.recs.take q ++ s.recs.drop q) := by rw [List.take_append_drop]
      rw [this, flN_app, List.length_take, Nat.min_eq_left hq]
    · rw [List.length_drop, show s.first + q + (s.recs.length - q) = s.first + s.recs.length by omega]
      rfl
/-- Append to a new segment. -/
theorem Du.next {M : Md} {S : List Sg} {q : Nat} {r : List UInt8} {k : Nat} (h : Du M S q) (hp : M.pend = []) (hn : Nice (S ++ [⟨nxS S, [r], k⟩])) (hf : (form (nxS S) ++ r).length ≤ 65536) (hw : M.writeE (nmS (nxS S)) (frmN (nxS S) r).length = 0) :
    Du (M.write (nmS (nxS S)) (frmN (nxS S) r)) (S ++ [⟨nxS S, [r], k⟩]) 0 := by
  have hno : M.seen (nmS (nxS S)) = none := by
    cases e : M.seen (nmS (nxS S)) with
    | none => rfl
    | some b =>
      obtain ⟨u, hu, hnu⟩ := h.sn.no _ (show M.seen (nmS (nxS S)) ≠ none by rw [e]; simp)
      exact absurd hnu.symm (hn.other hu)
  have hb : fget M.seen (nmS (nxS S)) = [] := by unfold fget; rw [hno]; rfl
  have hl : M.last = M.seen := by rw [h.inv.sn, hp]; rfl
  rw [write_perf hw]
  have hsn : (M.perform ⟨0, nmS (nxS S), (fget M.seen (nmS (nxS S))).length, frmN (nxS S) r⟩).seen = upd M.seen (nmS (nxS S)) (some (flB (nxS S) [r])) := by
    rw [perform_seen, doF_write, hb, flB_one]
    rfl
  refine ⟨h.inv.perform (write_name hw), fun u hu => ?_, ?_, fun u hu => ?_, fun e => (snoc_ne e).elim, fun S1 t e => ?_⟩
  rotate_left 2
  · rcases List.mem_append.1 hu with h1 | h1
    · exact h.sm u h1
    · rw [List.mem_singleton.1 h1]
      show (frmN (nxS S) r).length + 0 ≤ _
      have : (frmN (nxS S) r).length = (form (nxS S) ++ r).length + 7 := by unfold frmN; exact frameOf_length _
      omega
  rotate_left 1
  · rcases List.mem_append.1 hu with h1 | h1
    · exact h.ft u h1
    · rw [List.mem_singleton.1 h1]
      exact ⟨hf, trivial⟩
  · rw [hsn]
    exact h.sn.add hn
  · obtain ⟨rfl, rfl⟩ := snoc_inj e
    refine ⟨Nat.zero_le _, ?_, .inr ⟨rfl, ?_, rfl⟩⟩
    · show M.pend ++ [_] = _
      rw [hp, hb]
      rfl
    · show Has M.last S
      rw [hl]
      exact h.sn
theorem drM_zero (M : Md) (S : List Sg) : drM M S 0 = M := rfl
theorem drM_inv {M : Md} (h : Inv M) (S : List Sg) : ∀ k, Inv (drM M S k)
  | 0 => h
  | k + 1 => by
    cases hk : S[k]? with
    | none =>
      have : drM M S (k + 1) = drM M S k := by unfold drM; rw [List.take_add_one, hk]; simp
      rw [this]
      exact drM_inv h S k
    | some s => rw [drM_succ M S k s hk]; exact (drM_inv h S k).drop _
theorem Nice.drop {S : List Sg} (h : Nice S) (k : Nat) : Nice (S.drop k) :=
  ⟨fun i j s t hij hs ht => h.ap (k + i) (k + j) s t (by omega) (by rw [← List.getElem?_drop]; exact hs) (by rw [← List.getElem?_drop]; exact ht), fun s hs => h.le s (List.mem_of_mem_drop hs)⟩
theorem drM_has {M : Md} {S : List Sg} (h : Has M.seen S) (hn : Nice S) : ∀ k, k ≤ S.length → Has (drM M S k).seen (S.drop k)
  | 0, _ => h
  | k + 1, hk => by
    have ih := drM_has h hn k (by omega)
    obtain ⟨s, hs⟩ : ∃ s, S[k]? = some s := ⟨_, List.getElem?_eq_getElem (by omega)⟩
    have e : S.drop k = s :: S.drop (k + 1) := by
      rw [List.drop_eq_getElem_cons (by omega)]
      congr 1
      have := List.getElem?_eq_getElem (show k < S.length by omega)
      rw [hs] at this
      exact (Option.some.inj this).symm
    have hn2 := hn.drop k
    rw [e] at ih hn2
    have hd : (drM M S k).thereE (nmS s.first) = 0 := by
      unfold Md.thereE
      rw [if_pos (nmS_name _ (hn2.le s (by simp))), ih.mem (by simp)]
      rfl
    rw [drM_succ M S k s hs]
    have e2 : ((drM M S k).drop (nmS s.first)).seen = upd (drM M S k).seen (nmS s.first) none := by
      unfold Md.drop
      rw [if_pos hd, perform_seen]
      unfold doF
      rw [if_neg (by show ¬ (2 : Nat) = 0; omega), if_neg (by show ¬ (2 : Nat) = 1; omega)]
    rw [e2]
    exact ih.front hn2
theorem flush_pend (M : Md) : M.flush.pend = [] := rfl
theorem Du.trim {M : Md} {S : List Sg} {q : Nat} (h : Du M S q) (hn : Nice S) (hz : ∀ s ∈ S, s.size = flN s.first s.recs) (z : Int) : ∃ q', Du (trM M S z) (S.drop (trK S z)) q' ∧ duN S q ≤ duN (S.drop (trK S z)) q' := by
  by_cases h0 : trK S z = 0
  · have e : trM M S z = M := by unfold trM; exact if_pos h0
    rw [e, h0, List.drop_zero]
    exact ⟨q, h, Nat.le_refl _⟩
  · have hS : S ≠ [] := by intro e; subst e; exact h0 rfl
    have hlt := trK_lt S z hS
    have e : trM M S z = (drM M S (trK S z)).flush := by unfold trM; exact if_neg h0
    rw [e]
    refine ⟨_, Du.all (drM_inv h.inv S _).flush (fun s hs => h.ft s (List.mem_of_mem_drop hs)) ?_ rfl (fun s hs => hz s (List.mem_of_mem_drop hs)) (fun s hs => h.sm s (List.mem_of_mem_drop hs)), ?_⟩
    · rw [flush_seen]
      exact drM_has h.sn hn _ (by omega)
    · rw [duN_all]
      obtain ⟨n, s, hnn, hs, hl, hSe⟩ := last_of hS
      have e1 : nxS (S.drop (trK S z)) = s.next := by
        unfold nxS
        rw [List.getLast?_drop, if_neg (by omega), hl]
      have hq : q ≤ s.recs.length := by rw [hSe] at h; exact (h.lg _ _ rfl).1
      rw [e1]
      unfold duN Sg.next
      rw [hl]
      show s.first + q ≤ _
      omega
#print axioms Du.trim
#print axioms Du.next
#print axioms Du.same
end Go.Proofs.YtneclcihjbkhlaaGreatDoor
end
section
set_option linter.unusedVariables false
set_option maxRecDepth 1000000
namespace Go.Proofs.YtneclcihjbkhlaaGreatDoor
open Go.RowKit Go.Maps

/-! ### names in their order -/
def Digs (l : List UInt8) : Prop := ∀ c ∈ l, 48 ≤ c.toNat ∧ c.toNat ≤ 57
theorem dval_low : ∀ (a b : List UInt8) (x y : Nat), a.length = b.length → Digs a → Digs b → x < y → dval x a < dval y b
  | [], [], x, y, _, _, _, h => h
  | c :: a, d :: b, x, y, hl, ha, hb, h => by
    have h1 := ha c (by simp)
    have h2 := hb d (by simp)
    exact dval_low a b (x * 10 + (c.toNat - 48)) (y * 10 + (d.toNat - 48)) (by simpa using hl) (fun e he => ha e (by simp [he])) (fun e he => hb e (by simp [he])) (by omega)
  | [], d :: b, x, y, hl, _, _, _ => by simp at hl
  | c :: a, [], x, y, hl, _, _, _ => by simp at hl
theorem dval_lex : ∀ (a b : List UInt8) (x : Nat), a.length = b.length → Digs a → Digs b → a < b → dval x a < dval x b
  | [], [], x, _, _, _, h => absurd h (List.lt_irrefl _)
  | c :: a, d :: b, x, hl, ha, hb, h => by
    have h1 := ha c (by simp)
    have h2 := hb d (by simp)
    rw [List.cons_lt_cons_iff] at h
    rcases h with h | ⟨rfl, h⟩
    · have h3 : c.toNat < d.toNat := UInt8.lt_iff_toNat_lt.1 h
      exact dval_low a b (x * 10 + (c.toNat - 48)) (x * 10 + (d.toNat - 48)) (by simpa using hl) (fun e he => ha e (by simp [he])) (fun e he => hb e (by simp [he])) (by omega)
    · exact dval_lex a b (x * 10 + (c.toNat - 48)) (by simpa using hl) (fun e he => ha e (by simp [he])) (fun e he => hb e (by simp [he])) h
  | [], d :: b, x, hl, _, _, _ => by simp at hl
  | c :: a, [], x, hl, _, _, _ => by simp at hl
theorem lex_app : ∀ (p a b : List UInt8), p ++ a < p ++ b → a < b
  | [], a, b, h => h
  | c :: p, a, b, h => by
    rw [List.cons_append, List.cons_append, List.cons_lt_cons_iff] at h
    rcases h with h | ⟨_, h⟩
    · exact absurd h (by simp)
    · exact lex_app p a b h
theorem nmS_mono {n m : Nat} (hm : m ≤ 9223372036854775807) (h : n ≤ m) : nmS n ≤ nmS m := by
  have pn := pad_facts n (by omega)
  have pm := pad_facts m hm
  apply Classical.byContradiction
  intro hh
  have h1 : nmS m < nmS n := by
    apply Classical.byContradiction
    intro h2
    exact hh (List.not_lt.1 h2)
  have h2 := dval_lex (padS m) (padS n) 0 (by rw [pm.2.2, pn.2.2]) pm.1 pn.1 (lex_app segP _ _ h1)
  rw [pm.2.1, pn.2.1] at h2
  omega
theorem Wf.pair {S : List Sg} (wf : Wf S) : S.Pairwise (fun s t => s.first < t.first) := by
  rw [List.pairwise_iff_getElem]
  intro i j hi hj hij
  exact wf.rise (j - i - 1) i _ _ (List.getElem?_eq_getElem hi) (by rw [show i + (j - i - 1) + 1 = j by omega]; exact List.getElem?_eq_getElem hj)
theorem nms_has {f : Files} {S : List Sg} {rest : List UInt8} (h : HasT f S rest) (wf : Wf S) (le : ∀ s ∈ S, s.first ≤ 9223372036854775807) : Nms f (S.map fun s => nmS s.first) := by
  refine ⟨?_, ?_, fun n => ?_⟩
  · rw [List.nodup_iff_pairwise_ne, List.pairwise_map]
    refine wf.pair.imp_of_mem (fun {s t} hs ht hst e => ?_)
    have := nmS_inj (le s hs) (le t ht) e
    omega
  · rw [List.pairwise_map]
    exact wf.pair.imp_of_mem (fun {s t} hs ht hst => nmS_mono (le t ht) (by omega))
  · rw [List.mem_map]
    refine ⟨fun ⟨s, hs, e⟩ => ?_, fun hn => ?_⟩
    · obtain ⟨i, hi⟩ := List.getElem?_of_mem hs
      rw [← e, h.at' i s hi]
      simp
    · obtain ⟨s, hs, e⟩ := h.no n hn
      exact ⟨s, hs, e.symm⟩
theorem nums_has : ∀ {S : List Sg}, (∀ s ∈ S, 1 ≤ s.first) → (∀ s ∈ S, s.first ≤ 9223372036854775807) → (S.map fun s => nmS s.first).filterMap numM = S.map (·.first)
  | [], _, _ => rfl
  | s :: S, h1, h2 => by
    rw [List.map_cons, List.filterMap_cons, numM_nm s.first (h1 s (by simp)) (h2 s (by simp))]
    show s.first :: _ = _
    rw [nums_has (fun t ht => h1 t (by simp [ht])) (fun t ht => h2 t (by simp [ht]))]
    rfl
/-! ### what Open reads -/
theorem HasT.there {M : Md} {S : List Sg} {rest : List UInt8} (h : HasT M.seen S rest) (le : ∀ s ∈ S, s.first ≤ 9223372036854775807) {i : Nat} {s : Sg} (hs : S[i]? = some s) : M.thereE (nmS s.first) = 0 ∧ M.readB (nmS s.first) = flB s.first s.recs ++ (if i + 1 = S.length then rest else []) := by
  have e := h.at' i s hs
  have h0 : M.thereE (nmS s.first) = 0 := by
    unfold Md.thereE
    rw [if_pos (nmS_name _ (le s (List.mem_of_getElem? hs))), e]
    rfl
  refine ⟨h0, ?_⟩
  unfold Md.readB fget
  rw [if_pos h0, e]
  rfl
theorem ga_read {M : Md} {S : List Sg} {rest : List UInt8} (h : HasT M.seen S rest) (wf : Wf S) (ft : ∀ s ∈ S, Fit s.first s.recs) (hst : Stop rest) (nx : ∀ s ∈ S, s.next ≤ 9223372036854775807) : ∀ k, k ≤ S.length → ∃ b, ga M ((S.map (·.first)).take k) = (M, S.take k, b) ∧ (k < S.length → b = true)
  | 0, _ => ⟨true, rfl, fun _ => rfl⟩
  | k + 1, hk => by
    obtain ⟨b, hb, ht⟩ := ga_read h wf ft hst nx k (by omega)
    have htr := ht (by omega)
    subst htr
    obtain ⟨s, hs⟩ : ∃ s, S[k]? = some s := ⟨_, List.getElem?_eq_getElem (by omega)⟩
    have hsm := List.mem_of_getElem? hs
    have hle : ∀ s ∈ S, s.first ≤ 9223372036854775807 := fun s hs => by have := nx s hs; unfold Sg.next at this; omega
    obtain ⟨h0, hr⟩ := h.there hle hs
    have hD : gaD (M, S.take k, true) s.first = (M, S.take k) := by
      unfold gaD
      by_cases hk0 : k = 0
      · subst hk0
        by_cases hc : s.first ≠ nxS (S.take 0) ∨ true = false
        · exact if_pos hc
        · exact if_neg hc
      · have hkk : k - 1 + 1 = k := by omega
        obtain ⟨t, htt⟩ : ∃ t, S[k - 1]? = some t := ⟨_, List.getElem?_eq_getElem (by omega)⟩
        have hnx : nxS (S.take k) = s.first := by
          have e1 : (S.take k).getLast? = some t := by
            rw [getLast_at (S.take k) (k - 1) (by simp; omega), List.getElem?_take, if_pos (by omega), htt]
          unfold nxS
          rw [e1]
          exact (wf.ch (k - 1) t s htt (by rw [hkk]; exact hs)).1.symm
        rw [if_neg]
        intro hc
        rcases hc with hc | hc
        · exact hc hnx.symm
        · cases hc
    have hrd : rdS s.first (flB s.first s.recs ++ (if k + 1 = S.length then rest else [])) = s := by
      have hsz := wf.sz s hsm
      have hst2 : Stop (if k + 1 = S.length then rest else []) := by
        split
        · exact hst
        · exact stop_nil
      rw [rdS_all s.first s.recs _ (ft s hsm) hst2 (nx s hsm), ← hsz]
    have hg := ga_succ M (S.map (·.first)) k s.first (by rw [List.getElem?_map, hs]; rfl)
    rw [hb] at hg
    unfold gaT at hg
    rw [hD] at hg
    simp only [hr, hrd] at hg
    refine ⟨decide (s.size = (flB s.first s.recs ++ (if k + 1 = S.length then rest else [])).length), ?_, ?_⟩
    · rw [hg, List.take_add_one, hs]
      rfl
    · intro hlt
      rw [if_neg (by omega), List.append_nil, flB_len, wf.sz s hsm]
      simp
/-- What Open finds on a disk that has just a log's segments. -/
theorem open_math {M : Md} {S : List Sg} {rest : List UInt8} (h : HasT M.seen S rest) (wf : Wf S) (ft : ∀ s ∈ S, Fit s.first s.recs) (hst : Stop rest) (ok : SOk S) (h3 : S.length ≤ 300) (hbl : ∀ s ∈ S, (M.readB (nmS s.first)).length ≤ 6000000) : ∀ L, Nms M.seen L → L.filterMap numM = S.map (·.first) ∧ (L.filterMap numM).length ≤ 300 ∧ (∀ i n, (L.filterMap numM)[i]? = some n → GaOk (ga M ((L.filterMap numM).take i)) n) ∧ SOk (ga M (L.filterMap numM)).2.1 ∧ gaE (ga M (L.filterMap numM)) = 0 ∧ ∃ b, ga M (L.filterMap numM) = (M, S, b) := by
  intro L hL
  have hle : ∀ s ∈ S, s.first ≤ 9223372036854775807 := fun s hs => by have := ok.nx s hs; unfold Sg.next at this; omega
  have hLe : L = S.map fun s => nmS s.first := hL.uniq (nms_has h wf hle)
  have hN : L.filterMap numM = S.map (·.first) := by rw [hLe]; exact nums_has wf.f1 hle
  obtain ⟨b, hb, _⟩ := ga_read h wf ft hst ok.nx S.length (Nat.le_refl _)
  have hb2 : ga M (S.map (·.first)) = (M, S, b) := by
    have e1 : (S.map (·.first)).take S.length = S.map (·.first) := List.take_of_length_le (by simp)
    rw [e1, List.take_length] at hb
    exact hb
  rw [hN]
  refine ⟨rfl, by simpa using h3, fun i n hn => ?_, by rw [hb2]; exact ok, ?_, b, hb2⟩
  · have hi : i < S.length := by have := (List.getElem?_eq_some_iff.1 hn).1; simpa using this
    obtain ⟨s, hs⟩ : ∃ s, S[i]? = some s := ⟨_, List.getElem?_eq_getElem hi⟩
    have hns : n = s.first := by rw [List.getElem?_map, hs] at hn; exact (Option.some.inj hn).symm
    subst hns
    have hsm := List.mem_of_getElem? hs
    obtain ⟨b', hb', ht'⟩ := ga_read h wf ft hst ok.nx i (by omega)
    have htr := ht' hi
    subst htr
    rw [hb']
    have hD : (gaD (M, S.take i, true) s.first).1 = M := by
      unfold gaD
      split
      · rename_i hc
        by_cases hi0 : i = 0
        · subst hi0; rfl
        · exfalso
          have hkk : i - 1 + 1 = i := by omega
          obtain ⟨t, htt⟩ : ∃ t, S[i - 1]? = some t := ⟨_, List.getElem?_eq_getElem (by omega)⟩
          have hnx : nxS (S.take i) = s.first := by
            have e1 : (S.take i).getLast? = some t := by
              rw [getLast_at (S.take i) (i - 1) (by simp; omega), List.getElem?_take, if_pos (by omega), htt]
            unfold nxS
            rw [e1]
            exact (wf.ch (i - 1) t s htt (by rw [hkk]; exact hs)).1.symm
          rcases hc with hc | hc
          · exact hc hnx.symm
          · cases hc
      · rfl
    refine ⟨⟨?_, fun u hu => ok.nx u (List.mem_of_mem_take hu), ?_, ?_, fun u hu => ok.rl u (List.mem_of_mem_take hu)⟩, fun u hu => ?_, fun a c u v hac hu hv => ?_, hle s hsm, ?_, ?_⟩
    · have := ok.len
      show (S.take i).length ≤ _
      simp
      omega
    · exact Nat.le_trans (bySz_le S i) ok.sz
    · exact Nat.le_trans (flat_take S i) ok.rc
    · have hu2 : u ∈ S := List.mem_of_mem_take hu
      obtain ⟨j, hj⟩ := List.getElem?_of_mem hu2
      refine ⟨?_, hle u hu2⟩
      show (M.seen (nmS u.first)).isSome = true
      rw [h.at' j u hj]
      rfl
    · have hu' : (S.take i)[a]? = some u := hu
      have hv' : (S.take i)[c]? = some v := hv
      rw [List.getElem?_take] at hu' hv'
      split at hu'
      · split at hv'
        · exact (wf.nice hle).ap a c u v hac hu' hv'
        · cases hv'
      · cases hu'
    · rw [hD]; exact (h.there hle hs).1
    · rw [hD]; exact hbl s hsm
  · rw [hb2]
    unfold gaE
    show (match S.getLast? with | some s => M.cutE (nmS s.first) (s.size : Int) | none => 0) = 0
    cases hl : S.getLast? with
    | none => rfl
    | some s =>
      have hsm := List.mem_of_getLast? hl
      obtain ⟨i, hi⟩ := List.getElem?_of_mem hsm
      obtain ⟨h0, hr⟩ := h.there hle hi
      show M.cutE _ _ = 0
      unfold Md.cutE
      rw [if_pos h0]
      have hr2 : fget M.seen (nmS s.first) = flB s.first s.recs ++ (if i + 1 = S.length then rest else []) := by
        unfold Md.readB at hr
        rw [if_pos h0] at hr
        exact hr
      rw [hr2, if_neg]
      rw [wf.sz s hsm, ← flB_len]
      simp only [List.length_append]
      omega
/-- What Open leaves. -/
theorem open_du {M : Md} {S : List Sg} {rest : List UInt8} {b : Bool} (h : HasT M.seen S rest) (hi : Inv M) (wf : Wf S) (ft : ∀ s ∈ S, Fit s.first s.recs) (hle : ∀ s ∈ S, s.first ≤ 9223372036854775807) (hm : ∀ s ∈ S, flN s.first s.recs ≤ 70000) : Du (gaC (M, S, b)).flush S (match S.getLast? with | some s => s.recs.length | none => 0) := by
  have key : Inv (gaC (M, S, b)) ∧ Has (gaC (M, S, b)).seen S := by
    by_cases hS : S = []
    · subst hS
      have e : gaC (M, [], b) = M := rfl
      rw [e]
      exact ⟨hi, Has.of (fun s hs => (by cases hs)) h.no⟩
    · obtain ⟨n, s, hn, hs, hl, hSe⟩ := last_of hS
      have hsm := List.mem_of_getElem? hs
      have e : gaC (M, S, b) = M.cut (nmS s.first) (s.size : Int) := by
        show (match S.getLast? with | some s => M.cut (nmS s.first) (s.size : Int) | none => M) = _
        rw [hl]
      rw [e]
      refine ⟨hi.cut _ _, ?_⟩
      obtain ⟨h0, hr⟩ := h.there hle hs
      rw [if_pos hn.symm] at hr
      have hg : fget M.seen (nmS s.first) = flB s.first s.recs ++ rest := by
        unfold Md.readB at hr
        rw [if_pos h0] at hr
        exact hr
      have hz : s.size = (flB s.first s.recs).length := by rw [wf.sz s hsm, flB_len]
      have hce : M.cutE (nmS s.first) (s.size : Int) = 0 := by
        unfold Md.cutE
        rw [if_pos h0, hg, if_neg]
        simp only [List.length_append]
        omega
      have hsn : (M.cut (nmS s.first) (s.size : Int)).seen (nmS s.first) = some (flB s.first s.recs) := by
        unfold Md.cut
        rw [if_pos hce, perform_seen]
        unfold doF
        rw [if_neg (by show ¬ (1 : Nat) = 0; omega), if_pos rfl]
        show (if (s.size : Int).toNat < (fget M.seen (nmS s.first)).length then upd M.seen (nmS s.first) (some ((fget M.seen (nmS s.first)).take (s.size : Int).toNat)) else M.seen) (nmS s.first) = _
        rw [Int.toNat_natCast, hg]
        split
        · rw [upd_same, hz, List.take_left]
        · rename_i hnlt
          have hr0 : rest = [] := by
            simp only [List.length_append] at hnlt
            exact List.eq_nil_of_length_eq_zero (by omega)
          have := h.at' n s hs
          rw [if_pos hn.symm, hr0, List.append_nil] at this
          exact this
      have hso : ∀ m, m ≠ nmS s.first → (M.cut (nmS s.first) (s.size : Int)).seen m = M.seen m := fun m hm => by
        unfold Md.cut
        rw [if_pos hce, perform_seen]
        exact doF_other hm
      refine Has.of (fun u hu => ?_) (fun m hm => ?_)
      · by_cases hus : nmS u.first = nmS s.first
        · obtain ⟨j, hj⟩ := List.getElem?_of_mem hu
          have hjn : j = n := by
            have hfe := nmS_inj (hle u hu) (hle s hsm) hus
            have hjl := (List.getElem?_eq_some_iff.1 hj).1
            rcases Nat.lt_trichotomy j n with q | q | q
            · exact absurd hfe ((wf.nice hle).ap j n u s q hj hs)
            · exact q
            · omega
          subst hjn
          rw [hj] at hs
          obtain rfl := Option.some.inj hs
          exact hsn
        · rw [hso _ hus]
          obtain ⟨j, hj⟩ := List.getElem?_of_mem hu
          have := h.at' j u hj
          have hjn : j ≠ n := by
            intro e2
            subst e2
            rw [hj] at hs
            exact hus (by rw [Option.some.inj hs])
          rw [if_neg (by omega), List.append_nil] at this
          exact this
      · by_cases e2 : m = nmS s.first
        · exact ⟨s, hsm, e2⟩
        · rw [hso _ e2] at hm
          exact h.no m hm
  exact Du.all key.1.flush ft (by rw [flush_seen]; exact key.2) rfl wf.sz hm
/-! ### the crash -/
/-- What a log is behind a crash. -/
def Cutd (S : List Sg) (q : Nat) (S' : List Sg) : Prop := (S = [] ∧ S' = []) ∨ ∃ S0 s, S = S0 ++ [s] ∧ ((S' = S0 ∧ q = 0 ∧ s.first = nxS S0) ∨ ∃ m, q ≤ m ∧ m ≤ s.recs.length ∧ S' = S0 ++ [s.cut m])
theorem HasT.cutd {f : Files} {S0 : List Sg} {s : Sg} {m : Nat} {rest : List UInt8} (hn : Nice (S0 ++ [s])) (h0 : ∀ u ∈ S0, f (nmS u.first) = some (flB u.first u.recs)) (h1 : f (nmS s.first) = some (flB s.first (s.recs.take m) ++ rest)) (h2 : ∀ n, f n ≠ none → ∃ u ∈ S0 ++ [s], n = nmS u.first) : HasT f (S0 ++ [s.cut m]) rest := by
  refine ⟨fun i u hu => ?_, fun n hne => ?_⟩
  · by_cases hi : i < S0.length
    · rw [List.getElem?_append_left hi] at hu
      rw [h0 u (List.mem_of_getElem? hu), if_neg (by simp; omega), List.append_nil]
    · have hi2 := (List.getElem?_eq_some_iff.1 hu).1
      simp at hi2
      obtain rfl : i = S0.length := by omega
      rw [List.getElem?_append_right (Nat.le_refl _), Nat.sub_self] at hu
      simp at hu
      subst hu
      rw [if_pos (by simp)]
      exact h1
  · obtain ⟨u, hu, e⟩ := h2 n hne
    rcases List.mem_append.1 hu with q | q
    · exact ⟨u, by simp [q], e⟩
    · rw [List.mem_singleton.1 q] at e
      exact ⟨s.cut m, by simp, e⟩
theorem Du.crash {M : Md} {S : List Sg} {q : Nat} (h : Du M S q) (hn : Nice S) (kl : List Bool) (z : Int) : ∃ S' rest, Cutd S q S' ∧ HasT (M.crash kl z).seen S' rest ∧ Stop rest ∧ Inv (M.crash kl z) ∧ ∀ s ∈ S, ∀ b, (M.crash kl z).seen (nmS s.first) = some b → b.length ≤ 70000 := by
  have hinv := h.inv.crash kl z
  have hlast := crash_last M kl z
  have hseen := crash_seen M kl z
  by_cases hS : S = []
  · subst hS
    have hp := h.em rfl
    have e : (M.crash kl z).seen = M.seen := by
      rw [hseen, hlast, h.inv.sn, hp]
      rfl
    exact ⟨[], [], .inl ⟨rfl, rfl⟩, by rw [e]; exact h.sn, stop_nil, hinv, fun s hs => (by cases hs)⟩
  · obtain ⟨n, s, hnn, hs, hl, hSe⟩ := last_of hS
    generalize S.take n = S0 at hSe
    subst hSe
    obtain ⟨hq, hp, hla⟩ := h.lg S0 s rfl
    have hasc : Asc (nmS s.first) (flN s.first s.recs) (flN s.first (s.recs.take q)) (tornLast (keptL M.pend kl) z) := by
      rw [hp]
      refine ((asc_acts _ _ _ _ _ ?_).kept kl).torn z
      have : flN s.first s.recs = flN s.first (s.recs.take q ++ s.recs.drop q) := by rw [List.take_append_drop]
      rw [this, flN_app, List.length_take, Nat.min_eq_left hq]
      exact Nat.le_refl _
    have hKn : ∀ {K : List Ac} {p E : Nat}, Asc (nmS s.first) E p K → ∀ a ∈ K, a.n = nmS s.first := by
      intro K
      induction K with
      | nil => intro p E _ a ha; cases ha
      | cons b r ih =>
        intro p E hK a ha
        rcases List.mem_cons.1 ha with e | e
        · rw [e]; exact hK.2.1
        · exact ih hK.2.2.2 a e
    have hoth : ∀ m, m ≠ nmS s.first → (M.crash kl z).seen m = M.last m := fun m hm => by
      rw [hseen, hlast]
      exact fold_other _ (fun a ha e => hm (by rw [← e]; exact hKn hasc a ha))
    have hbig : ∀ u ∈ S0 ++ [s], ∀ b, (M.crash kl z).seen (nmS u.first) = some b → (nmS u.first ≠ nmS s.first ∨ b.length ≤ flN s.first s.recs) → b.length ≤ 70000 := by
      intro u hu b hb hc
      by_cases e : nmS u.first = nmS s.first
      · rcases hc with hc | hc
        · exact absurd e hc
        · exact Nat.le_trans hc (h.sm s (by simp))
      · rw [hoth _ e] at hb
        have hu0 : u ∈ S0 := by
          rcases List.mem_append.1 hu with q | q
          · exact q
          · exact absurd (by rw [List.mem_singleton.1 q]) e
        have hb2 : M.last (nmS u.first) = some (flB u.first u.recs) := by
          rcases hla with hx | ⟨_, hx, _⟩
          · exact hx.mem (by simp [hu0])
          · exact hx.mem hu0
        rw [hb2] at hb
        obtain rfl := Option.some.inj hb
        rw [flB_len]
        exact h.sm u hu
    -- the last one's file
    have main : ∀ now : List UInt8, now = flB s.first (s.recs.take q) → (M.crash kl z).seen (nmS s.first) = some (ovs now (tornLast (keptL M.pend kl) z)) → (∀ u ∈ S0, M.last (nmS u.first) = some (flB u.first u.recs)) → (∀ m, M.last m ≠ none → ∃ u ∈ S0 ++ [s], m = nmS u.first) →
        ∃ S' rest, Cutd (S0 ++ [s]) q S' ∧ HasT (M.crash kl z).seen S' rest ∧ Stop rest ∧ Inv (M.crash kl z) ∧ ∀ u ∈ S0 ++ [s], ∀ b, (M.crash kl z).seen (nmS u.first) = some b → b.length ≤ 70000 := by
      intro now hnow hfile hS0 hno
      have hnl : now.length = flN s.first (s.recs.take q) := by rw [hnow, flB_len]
      have hft : Fit (s.first + q) (s.recs.drop q) := (h.ft s (by simp)).drop q hq
      obtain ⟨m, rest, hm, hst, he, hle⟩ := crash_bytes (nmS s.first) z (s.recs.drop q) (s.first + q) now kl hft
      rw [hnl, ← hp] at he
      have e1 : now ++ flB (s.first + q) ((s.recs.drop q).take m) ++ rest = flB s.first (s.recs.take (q + m)) ++ rest := by
        rw [hnow, List.take_add, flB_app, List.length_take, Nat.min_eq_left hq]
      have e2 : flN s.first (s.recs.take q) + flN (s.first + q) (s.recs.drop q) = flN s.first s.recs := by
        have : flN s.first s.recs = flN s.first (s.recs.take q ++ s.recs.drop q) := by rw [List.take_append_drop]
        rw [this, flN_app, List.length_take, Nat.min_eq_left hq]
      rw [he, e1] at hfile
      rw [e1, hnl, e2] at hle
      refine ⟨S0 ++ [s.cut (q + m)], rest, .inr ⟨S0, s, rfl, .inr ⟨q + m, by omega, by simp at hm; omega, rfl⟩⟩, HasT.cutd hn (fun u hu => ?_) hfile (fun k hk => ?_), hst, hinv, fun u hu b hb => hbig u hu b hb ?_⟩
      · rw [hoth _ (hn.other hu)]; exact hS0 u hu
      · by_cases e : k = nmS s.first
        · exact ⟨s, by simp, e⟩
        · rw [hoth _ e] at hk; exact hno k hk
      · by_cases e : nmS u.first = nmS s.first
        · right
          rw [e, hfile] at hb
          obtain rfl := Option.some.inj hb
          exact hle
        · exact .inl e
    rcases hla with hx | ⟨hq0, hx, hfx⟩
    · refine main (flB s.first (s.recs.take q)) rfl ?_ (fun u hu => hx.mem (by simp [hu])) (fun m hm => ?_)
      · rw [hseen, hlast]
        exact fold_some hasc (hx.mem (s := s.cut q) (by simp))
      · obtain ⟨u, hu, e⟩ := hx.no m hm
        rcases List.mem_append.1 hu with k | k
        · exact ⟨u, by simp [k], e⟩
        · rw [List.mem_singleton.1 k] at e
          exact ⟨s, by simp, e⟩
    · subst hq0
      have hln : M.last (nmS s.first) = none := by
        cases e : M.last (nmS s.first) with
        | none => rfl
        | some b =>
          obtain ⟨u, hu, e2⟩ := hx.no _ (show M.last (nmS s.first) ≠ none by rw [e]; simp)
          exact absurd e2.symm (hn.other hu)
      by_cases hK : tornLast (keptL M.pend kl) z = []
      · have e : (M.crash kl z).seen = M.last := by rw [hseen, hlast, hK]; rfl
        refine ⟨S0, [], .inr ⟨S0, s, rfl, .inl ⟨rfl, rfl, hfx⟩⟩, by rw [e]; exact hx, stop_nil, hinv, fun u hu b hb => hbig u hu b hb ?_⟩
        left
        intro e2
        rw [e2, e, hln] at hb
        cases hb
      · refine main [] (by simp [flB]) ?_ (fun u hu => hx.mem hu) (fun m hm => ?_)
        · rw [hseen, hlast, fold_new hasc hK]
          unfold fget
          rw [hln]
          rfl
        · obtain ⟨u, hu, e⟩ := hx.no m hm
          exact ⟨u, by simp [hu], e⟩
#print axioms Du.crash
#print axioms open_du
#print axioms open_math
end Go.Proofs.YtneclcihjbkhlaaGreatDoor
end
section
set_option linter.unusedVariables false
set_option maxRecDepth 1000000
namespace Go.Proofs.YtneclcihjbkhlaaGreatDoor
open Go.RowKit Go.Maps

theorem Pl.nice {M : Md} {S : List Sg} {all : List (List UInt8)} {k : Nat} (h : Pl M S all k) (hk : k ≤ 100) : Nice S :=
  h.wf.nice (fun s hs => by have := (h.ok hk).nx s hs; unfold Sg.next at this; omega)
theorem Du.le {M : Md} {S : List Sg} {q : Nat} (h : Du M S q) : duN S q ≤ nxS S := by
  by_cases hS : S = []
  · subst hS; exact Nat.le_refl _
  · obtain ⟨n, s, hn, hs, hl, hSe⟩ := last_of hS
    have hq : q ≤ s.recs.length := by rw [hSe] at h; exact (h.lg _ _ rfl).1
    unfold duN nxS Sg.next
    rw [hl]
    show s.first + q ≤ s.first + s.recs.length
    omega
theorem Du.apd {M : Md} {S : List Sg} {q : Nat} (h : Du M S q) (hth : There M S) (hz : ∀ s ∈ S, s.size = flN s.first s.recs) : ∃ q', Du (apD M S) S q' ∧ duN S q ≤ duN S q' := by
  unfold apD
  split
  · split
    · exact ⟨q, h, Nat.le_refl _⟩
    · exact ⟨_, (h.sync hth hz).1, by rw [duN_all]; exact h.le⟩
  · exact ⟨q, h, Nat.le_refl _⟩
theorem Du.app {M : Md} {S : List Sg} {q : Nat} {all : List (List UInt8)} {k : Nat} {r : List UInt8} (h : Du M S q) (hp : Pl M S all k) (hk : k ≤ 100) (hE : apE M S r = 0) : ∃ q', Du ((apD M S).write (nmS (apN S)) (frmN (nxS S) r)) (apS S r) q' ∧ duN S q ≤ duN (apS S r) q' := by
  obtain ⟨hF, hw⟩ := apE_zero hE
  have hform : (form (nxS S) ++ r).length ≤ 65536 := by
    have : (frmN (nxS S) r).length = (form (nxS S) ++ r).length + 7 := by unfold frmN; exact frameOf_length _
    omega
  have hnice := hp.nice hk
  have hnx := hp.nx
  have hal := hp.al
  have caseB : ∀ q1, Du (apD M S) S q1 → (apD M S).pend = [] → apS S r = S ++ [(⟨nxS S, [], 0⟩ : Sg).put r (frmN (nxS S) r).length] → apN S = nxS S → fullS S → ∃ q', Du ((apD M S).write (nmS (apN S)) (frmN (nxS S) r)) (apS S r) q' ∧ duN S q ≤ duN (apS S r) q' := by
    intro q1 hd hpe eS eN hfull
    rw [eN] at hw
    have hn2 : Nice (S ++ [⟨nxS S, [r], 0 + (frmN (nxS S) r).length⟩]) := by
      refine ⟨fun i j s t hij hs ht => ?_, fun s hs => ?_⟩
      · have hj := (List.getElem?_eq_some_iff.1 ht).1
        simp at hj
        rw [List.getElem?_append_left (by omega)] at hs
        by_cases hj2 : j < S.length
        · rw [List.getElem?_append_left hj2] at ht
          exact hnice.ap i j s t hij hs ht
        · obtain rfl : j = S.length := by omega
          rw [List.getElem?_append_right (Nat.le_refl _), Nat.sub_self] at ht
          simp at ht
          subst ht
          have := hp.wf.under hfull hs
          show s.first ≠ nxS S
          omega
      · rcases List.mem_append.1 hs with e | e
        · exact hnice.le s e
        · rw [List.mem_singleton.1 e]
          show nxS S ≤ _
          omega
    rw [eS, eN]
    refine ⟨0, hd.next hpe hn2 hform hw, ?_⟩
    rw [duN_snoc]
    exact h.le
  by_cases hS : S = []
  · subst hS
    exact caseB q h (h.em rfl) rfl rfl (fun s hs => by simp at hs)
  · obtain ⟨n, s, hn, hs, hl, hSe⟩ := last_of hS
    have hsm := List.mem_of_getElem? hs
    by_cases hf : s.size < 4096
    · have eS : apS S r = S.take n ++ [s.put r (frmN (nxS S) r).length] := by
        unfold apS
        rw [hl]
        simp only [if_pos hf]
        rw [show S.length - 1 = n by omega]
      have eN : apN S = s.first := by unfold apN; rw [hl]; simp only [if_pos hf]
      have eD : apD M S = M := by unfold apD; rw [hl]; simp only [if_pos hf]
      have eX : nxS S = s.next := by unfold nxS; rw [hl]
      rw [eN, eD] at hw
      rw [eS, eN, eD]
      have hz := hp.wf.sz s hsm
      have e1 : duN S q = s.first + q := by unfold duN; rw [hl]
      rw [e1]
      have h2 := h
      have hn2 := hnice
      rw [hSe] at h2 hn2
      rw [eX] at hw hform ⊢
      exact ⟨q, h2.same hn2 hform (by omega) hw, by rw [duN_snoc]; exact Nat.le_refl _⟩
    · have eD : apD M S = syM M S := by unfold apD; rw [hl]; simp only [if_neg hf]
      have hsy := h.sync hp.th hp.wf.sz
      refine caseB _ (by rw [eD]; exact hsy.1) (by rw [eD]; exact hsy.2) ?_ ?_ (fun x hx => ?_)
      · unfold apS; rw [hl]; simp only [if_neg hf]
      · unfold apN; rw [hl]; simp only [if_neg hf]
      · rw [hl] at hx
        obtain rfl := Option.some.inj hx
        omega
/-! ### what a log is behind a crash -/
theorem Wf.front {S0 : List Sg} {s : Sg} (h : Wf (S0 ++ [s])) : Wf S0 :=
  ⟨fun i a b ha hb => h.ch i a b (by rw [List.getElem?_append_left (List.getElem?_eq_some_iff.1 ha).1]; exact ha) (by rw [List.getElem?_append_left (List.getElem?_eq_some_iff.1 hb).1]; exact hb), fun a ha => h.f1 a (by simp [ha]), fun a ha => h.sz a (by simp [ha])⟩
theorem Cutd.wf {S S' : List Sg} {q : Nat} (h : Cutd S q S') (wf : Wf S) : Wf S' := by
  rcases h with ⟨_, rfl⟩ | ⟨S0, s, rfl, h⟩
  · exact ⟨fun i a b ha hb => by simp at hb, fun a ha => (by cases ha), fun a ha => (by cases ha)⟩
  · rcases h with ⟨rfl, _, _⟩ | ⟨m, _, _, rfl⟩
    · exact wf.front
    · exact wf_repl wf rfl rfl
theorem fsS_snoc (S0 : List Sg) (s : Sg) (h : s.first = nxS S0) : fsS (S0 ++ [s]) = fsS S0 := by
  cases S0 with
  | nil => exact h
  | cons a r => rfl
theorem Cutd.facts {S S' : List Sg} {q : Nat} (h : Cutd S q S') (hq : ∀ S0 s, S = S0 ++ [s] → q ≤ s.recs.length) (wf : Wf S) : duN S q ≤ nxS S' ∧ nxS S' ≤ nxS S ∧ fsS S' = fsS S ∧ S'.length ≤ S.length ∧ bySz S' ≤ bySz S ∧ (S'.flatMap (·.recs)) <+: (S.flatMap (·.recs)) := by
  rcases h with ⟨rfl, rfl⟩ | ⟨S0, s, rfl, h⟩
  · exact ⟨Nat.le_refl _, Nat.le_refl _, rfl, Nat.le_refl _, Nat.le_refl _, List.prefix_refl _⟩
  · rcases h with ⟨rfl, rfl, hf⟩ | ⟨m, h1, h2, rfl⟩
    · refine ⟨by rw [duN_snoc]; omega, by rw [nx_snoc]; unfold Sg.next; omega, (fsS_snoc _ _ hf).symm, by simp, by rw [bySz_snoc]; omega, by simp⟩
    · refine ⟨?_, ?_, fs_repl S0 s (s.cut m) rfl, by simp, ?_, ?_⟩
      · rw [duN_snoc, nx_snoc]
        show s.first + q ≤ s.first + (s.recs.take m).length
        rw [List.length_take]
        omega
      · rw [nx_snoc, nx_snoc]
        show s.first + (s.recs.take m).length ≤ s.first + s.recs.length
        rw [List.length_take]
        omega
      · rw [bySz_snoc, bySz_snoc]
        show bySz S0 + flN s.first (s.recs.take m) ≤ bySz S0 + s.size
        rw [wf.sz s (by simp)]
        have : flN s.first s.recs = flN s.first (s.recs.take m ++ s.recs.drop m) := by rw [List.take_append_drop]
        rw [this, flN_app]
        omega
      · rw [List.flatMap_append, List.flatMap_append]
        simp only [List.flatMap_cons, List.flatMap_nil, List.append_nil]
        exact List.prefix_append_right_inj _ |>.2 (List.take_prefix _ _)
/-- A log behind a crash and Open, as calls left it ahead. -/
theorem Pl.crashed {M M2 : Md} {S S' : List Sg} {q : Nat} {all : List (List UInt8)} {k : Nat} (h : Pl M S all k) (hc : Cutd S q S') (hq : ∀ S0 s, S = S0 ++ [s] → q ≤ s.recs.length) (hs : Has M2.seen S') (hk : k ≤ 100) : Pl M2 S' (all.take (nxS S' - 1)) k := by
  obtain ⟨f1, f2, f3, f4, f5, f6⟩ := hc.facts hq h.wf
  have wf' := hc.wf h.wf
  have hnx := h.nx
  have hpos := fs_pos h.wf
  have hal := h.al
  have hnp : 1 ≤ nxS S' := by
    by_cases e : S' = []
    · subst e; exact Nat.le_refl _
    · have := nx_eq wf' e
      omega
  refine ⟨wf', fun s hss => ?_, ?_, ?_, ?_, fun r hr => h.rl r (List.mem_of_mem_take hr), Nat.le_trans f5 h.sz, Nat.le_trans f4 h.sl⟩
  · rw [hs.mem hss]
    have hok := (h.ok hk).nx
    refine ⟨rfl, ?_⟩
    obtain ⟨i, hi⟩ := List.getElem?_of_mem hss
    have e1 := fs_at wf' i s hi
    have e2 := flat_take S' i
    have e3 := nx_eq wf' (by intro e; subst e; cases hss)
    omega
  · rw [List.length_take]
    omega
  · rw [f3]
    obtain ⟨t, ht⟩ := f6
    have e1 : S'.flatMap (·.recs) = (S.flatMap (·.recs)).take (S'.flatMap (·.recs)).length := by rw [← ht, List.take_left]
    rw [e1, h.rc, List.drop_take]
    congr 1
    by_cases e : S' = []
    · subst e
      have : nxS [] = 1 := rfl
      rw [this]
      simp
    · have := nx_eq wf' e
      omega
  · rw [List.length_take]
    omega
#print axioms Du.app
#print axioms Pl.crashed
end Go.Proofs.YtneclcihjbkhlaaGreatDoor
end
