/-
  disk: what always holds of the plain model.
-/
import Derived.Test.YtkhpjlgbiicdcaaDskZ
set_option linter.unusedVariables false
namespace Go.Proofs.Ytkhpjlgbiicdcaa

theorem doF_other {f : Files} {a : Ac} {m : Nm} (h : m ≠ a.n) : doF f a m = f m := by
  unfold doF
  split
  · exact upd_other _ _ _ _ h
  · split
    · split
      · exact upd_other _ _ _ _ h
      · rfl
    · exact upd_other _ _ _ _ h
theorem doF_same {f f' : Files} {a : Ac} {m : Nm} (h : f m = f' m) : doF f a m = doF f' a m := by
  by_cases hm : m = a.n
  · subst hm
    have hg : fget f a.n = fget f' a.n := by unfold fget; rw [h]
    unfold doF
    rw [hg]
    split
    · rw [upd_same, upd_same]
    · split
      · split
        · rw [upd_same, upd_same]
        · exact h
      · rw [upd_same, upd_same]
  · rw [doF_other hm, doF_other hm, h]
theorem fold_same (l : List Ac) {f f' : Files} {m : Nm} (h : f m = f' m) : l.foldl doF f m = l.foldl doF f' m := by
  induction l generalizing f f' with
  | nil => exact h
  | cons a r ih => exact ih (doF_same h)
theorem fold_other (l : List Ac) {f : Files} {m : Nm} (h : ∀ a ∈ l, a.n ≠ m) : l.foldl doF f m = f m := by
  induction l generalizing f with
  | nil => rfl
  | cons a r ih =>
    show r.foldl doF (doF f a) m = _
    rw [ih (fun b hb => h b (List.mem_cons_of_mem _ hb)), doF_other (fun e => h a List.mem_cons_self e.symm)]
/-- Only the acts on a name count for it. -/
theorem fold_at (l : List Ac) (f : Files) (m : Nm) : l.foldl doF f m = (l.filter (isN m)).foldl doF f m := by
  induction l generalizing f with
  | nil => rfl
  | cons a r ih =>
    show r.foldl doF (doF f a) m = _
    by_cases h : a.n = m
    · rw [List.filter_cons_of_pos (by simp [isN, h])]
      exact ih (doF f a)
    · rw [List.filter_cons_of_neg (by simp [isN, h]), ← ih f]
      exact fold_same r (doF_other (fun e => h e.symm))
/-- Acts on one name may come first. -/
theorem fold_part (l : List Ac) (f : Files) (n : Nm) : (l.filter (fun a => !(isN n a))).foldl doF ((l.filter (isN n)).foldl doF f) = l.foldl doF f := by
  funext m
  by_cases h : m = n
  · subst h
    rw [fold_other _ (fun a ha => by simp [isN] at ha; exact ha.2), ← fold_at]
  · rw [fold_at _ _ m, List.filter_filter, fold_at l f m]
    have e : (l.filter (fun a => isN m a && !(isN n a))) = l.filter (isN m) := by
      apply List.filter_congr
      intro a _
      simp only [isN]
      by_cases h1 : a.n = m
      · subst h1; simp [h]
      · simp [h1]
    rw [e]
    exact fold_same _ (fold_other _ (fun a ha => by simp [isN] at ha; rw [ha.2]; exact fun e => h e.symm))

def Named (f : Files) : Prop := ∀ n, f n ≠ none → isName n = true
theorem Named.doF {f : Files} {a : Ac} (h : Named f) (ha : isName a.n = true) : Named (doF f a) := by
  intro n hn
  by_cases e : n = a.n
  · rw [e]; exact ha
  · rw [doF_other e] at hn; exact h n hn
theorem Named.fold {l : List Ac} {f : Files} (h : Named f) (hl : ∀ a ∈ l, isName a.n = true) : Named (l.foldl Go.Proofs.Ytkhpjlgbiicdcaa.doF f) := by
  induction l generalizing f with
  | nil => exact h
  | cons a r ih => exact ih (h.doF (hl a List.mem_cons_self)) (fun b hb => hl b (List.mem_cons_of_mem _ hb))
structure Inv (M : Md) : Prop where
  last : Named M.last
  pend : ∀ a ∈ M.pend, isName a.n = true
  sn : M.seen = M.pend.foldl doF M.last
theorem Inv.seen {M : Md} (h : Inv M) : Named M.seen := by rw [h.sn]; exact h.last.fold h.pend
theorem Inv.new (z : Int) : Inv (Md.new z) := ⟨fun n h => absurd rfl h, fun a ha => by simp [Md.new] at ha, rfl⟩
theorem Inv.perform {M : Md} (h : Inv M) {a : Ac} (ha : isName a.n = true) : Inv (M.perform a) := by
  refine ⟨h.last, fun b hb => ?_, ?_⟩
  · have hb' : b ∈ M.pend ++ [a] := hb
    rw [List.mem_append] at hb'
    rcases hb' with hb' | hb'
    · exact h.pend b hb'
    · simp at hb'; subst hb'; exact ha
  · show doF M.seen a = (M.pend ++ [a]).foldl doF M.last
    rw [List.foldl_append, ← h.sn]
    rfl
theorem there_name {M : Md} {n : Nm} (h : M.thereE n = 0) : isName n = true ∧ (M.seen n).isSome = true := by
  unfold Md.thereE at h
  split at h
  · split at h
    · exact ⟨‹_›, ‹_›⟩
    · omega
  · omega
theorem write_name {M : Md} {n : Nm} {k : Nat} (h : M.writeE n k = 0) : isName n = true := by
  unfold Md.writeE at h
  split at h
  · assumption
  · omega
theorem cut_name {M : Md} {n : Nm} {z : Int} (h : M.cutE n z = 0) : M.thereE n = 0 := by
  unfold Md.cutE at h
  split at h
  · assumption
  · assumption
theorem Inv.write {M : Md} (h : Inv M) (n : Nm) (b : List UInt8) : Inv (M.write n b) := by
  unfold Md.write
  split
  · exact h.perform (write_name ‹_›)
  · exact h
theorem Inv.cut {M : Md} (h : Inv M) (n : Nm) (z : Int) : Inv (M.cut n z) := by
  unfold Md.cut
  split
  · exact h.perform (there_name (cut_name ‹_›)).1
  · exact h
theorem Inv.drop {M : Md} (h : Inv M) (n : Nm) : Inv (M.drop n) := by
  unfold Md.drop
  split
  · exact h.perform (there_name ‹_›).1
  · exact h
theorem sync_seen (M : Md) (n : Nm) : (M.sync n).seen = M.seen := by
  unfold Md.sync
  split
  · show ((M.pend.filter (isN n)).foldl Md.lasts M).seen = _
    exact (lasts_keep _ _).2.1
  · rfl
theorem Inv.sync {M : Md} (h : Inv M) (n : Nm) : Inv (M.sync n) := by
  have hs := sync_seen M n
  unfold Md.sync at hs ⊢
  split
  · rename_i ht
    rw [if_pos ht] at hs
    have hl : ((M.synced n).settle n).last = (M.pend.filter (isN n)).foldl doF M.last := lasts_last _ _
    refine ⟨?_, fun a ha => ?_, ?_⟩
    · rw [hl]; exact h.last.fold (fun a ha => h.pend a (List.mem_filter.1 ha).1)
    · have ha' : a ∈ M.pend.filter (fun a => !(isN n a)) := ha
      exact h.pend a (List.mem_filter.1 ha').1
    · rw [hs, hl]
      show _ = (M.pend.filter (fun a => !(isN n a))).foldl doF _
      rw [fold_part, h.sn]
  · exact h
theorem flush_last (M : Md) : M.flush.last = M.pend.foldl doF M.last := land_last _ _
theorem flush_seen (M : Md) : M.flush.seen = M.seen := (land_pend _ _).2.1
theorem Inv.flush {M : Md} (h : Inv M) : Inv M.flush := by
  refine ⟨?_, fun a ha => by simp [Md.flush] at ha, ?_⟩
  · rw [flush_last]; exact h.last.fold h.pend
  · rw [flush_seen, h.sn]
    show _ = M.flush.last
    rw [flush_last]
theorem crash_last (M : Md) (kl : List Bool) (z : Int) : (M.crash kl z).last = (tornLast (keptL M.pend kl) z).foldl doF M.last := by
  show (M.pend.foldl (fun m a => m.settle a.n) ((tornLast (keptL M.pend kl) z).foldl Md.lasts M).reseen).last = _
  rw [(settles_keep _ _).2.2.2.2.1]
  exact lasts_last _ _
theorem crash_seen (M : Md) (kl : List Bool) (z : Int) : (M.crash kl z).seen = (M.crash kl z).last := by
  show (M.pend.foldl (fun m a => m.settle a.n) ((tornLast (keptL M.pend kl) z).foldl Md.lasts M).reseen).seen = (M.pend.foldl (fun m a => m.settle a.n) ((tornLast (keptL M.pend kl) z).foldl Md.lasts M).reseen).last
  rw [(settles_keep _ _).2.1, (settles_keep _ _).2.2.2.2.1]
  rfl
theorem Inv.crash {M : Md} (h : Inv M) (kl : List Bool) (z : Int) : Inv (M.crash kl z) := by
  refine ⟨?_, fun a ha => by simp [Md.crash] at ha, ?_⟩
  · rw [crash_last]
    refine h.last.fold (fun a ha => ?_)
    obtain ⟨b, hb, e⟩ := tornLast_mem ha
    rw [e.2.1]
    exact h.pend b (keptL_mem _ _ _ hb)
  · exact crash_seen M kl z
theorem Inv.does {M : Md} (h : Inv M) (d : Dm) : Inv (M.does d) := by
  unfold Md.does
  split
  · exact h.cut _ _
  · exact h.drop _
  · exact h.sync _
  · exact h.flush
  · exact h.crash _ _
  · exact h.write _ _
theorem Inv.runs {M : Md} (h : Inv M) (l : List Dm) : Inv (M.runs l) := by
  unfold Md.runs
  induction l generalizing M with
  | nil => exact h
  | cons d r ih => exact ih (h.does d)
#print axioms Inv.runs
end Go.Proofs.Ytkhpjlgbiicdcaa
