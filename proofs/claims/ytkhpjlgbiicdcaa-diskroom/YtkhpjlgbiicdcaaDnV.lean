/-
  disk: files' bytes against what is used; what is refused changes nothing (model).
-/
import Derived.Test.YtkhpjlgbiicdcaaDnU
import Derived.Test.YtkhpjlgbiicdcaaDnS
set_option linter.unusedVariables false
namespace Go.Proofs.Ytkhpjlgbiicdcaa

theorem sum_sub : ∀ (l ns : List Nm) (P : Nm → Int), (∀ n, 0 ≤ P n) → l.Nodup → ns.Nodup → (∀ n, n ∉ ns → P n = 0) → (l.map P).sum ≤ (ns.map P).sum
  | [], ns, P, h0, _, _, _ => by simpa using sum_nonneg P h0 ns
  | n :: r, ns, P, h0, hl, hn, hz => by
    rw [List.nodup_cons] at hl
    have h0' : ∀ m, 0 ≤ upd P n 0 m := by
      intro m
      unfold upd
      split
      · exact Int.le_refl _
      · exact h0 m
    have hz' : ∀ m, m ∉ ns → upd P n 0 m = 0 := by
      intro m hm
      unfold upd
      split
      · rfl
      · exact hz m hm
    have ih := sum_sub r ns (upd P n 0) h0' hl.2 hn hz'
    rw [sum_upd_not P n 0 r hl.1] at ih
    rw [List.map_cons, List.sum_cons]
    by_cases hns : n ∈ ns
    · rw [sum_upd_in P n 0 ns hn hns] at ih
      omega
    · rw [sum_upd_not P n 0 ns hns] at ih
      rw [hz n hns]
      omega
/-- How many bytes these files have. -/
def sumR (M : Md) (l : List Nm) : Nat := (l.map (fun n => (M.readB n).length)).sum
theorem sumR_take (M : Md) (l : List Nm) (k : Nat) (n : Nm) (h : l[k]? = some n) : sumR M (l.take (k + 1)) = sumR M (l.take k) + (M.readB n).length := by
  unfold sumR
  rw [List.take_add_one, h]
  simp
theorem readB_le (M : Md) (n : Nm) : (M.readB n).length ≤ (fget M.seen n).length := by
  unfold Md.readB
  split
  · exact Nat.le_refl _
  · simp
theorem sumR_peaks (M : Md) (h : Q M) : ∀ l : List Nm, (sumR M l : Int) ≤ (l.map M.peaks).sum
  | [] => by simp [sumR]
  | n :: r => by
    have ih := sumR_peaks M h r
    have h1 := readB_le M n
    have h2 := h.s n
    unfold sumR at ih ⊢
    rw [List.map_cons, List.sum_cons, List.map_cons, List.sum_cons]
    omega
theorem sumR_used {M : Md} (h : Q M) (l : List Nm) (hl : l.Nodup) : (sumR M l : Int) ≤ M.used := by
  obtain ⟨ns, hnd, hz, hu⟩ := h.u
  rw [hu]
  exact Int.le_trans (sumR_peaks M h l) (sum_sub l ns M.peaks h.p0 hl hnd hz)
theorem sumR_mono (M : Md) (l : List Nm) (k : Nat) : sumR M (l.take k) ≤ sumR M l := by
  have : sumR M l = sumR M (l.take k) + sumR M (l.drop k) := by
    unfold sumR
    rw [← List.sum_append, ← List.map_append, List.take_append_drop]
  omega

theorem sync_no {M : Md} {n : Nm} (h : M.thereE n ≠ 0) : M.sync n = M := by unfold Md.sync; rw [if_neg h]
theorem does_not {M : Md} {d : Dm} (h : M.doesE d ≠ 0) : M.does d = M := by
  unfold Md.doesE at h
  unfold Md.does
  split <;> simp_all
  · unfold Md.cut; rw [if_neg h]
  · unfold Md.drop; rw [if_neg h]
  · exact sync_no h
  · unfold Md.write; rw [if_neg h]
/-- What does not go in would have been too much. -/
theorem full_more {M : Md} (hQ : Q M) (hsn : M.seenN < 4096) {d : Dm} (hb : d.b.length ≤ 65536) (h : M.doesE d = 7) : M.room < M.used + (d.b.length : Int) := by
  have hw : M.writeE d.n d.b.length = 7 := by
    unfold Md.doesE at h
    split at h
    · unfold Md.cutE Md.thereE at h
      repeat' split at h
      all_goals omega
    · unfold Md.thereE at h
      repeat' split at h
      all_goals omega
    · unfold Md.thereE at h
      repeat' split at h
      all_goals omega
    · omega
    · omega
    · exact h
  unfold Md.writeE at hw
  split at hw
  · split at hw
    · omega
    · rename_i hr
      unfold Md.room? at hr
      rw [if_neg (by simp; intro _; omega)] at hr
      have h1 := hQ.s d.n
      have h2 := hQ.p0 d.n
      have h3 := hQ.pu d.n
      have h4 := hQ.ur
      have h5 := hQ.rm
      have h6 := hQ.u0
      simp only [decide_eq_true_eq] at hr
      rw [IntWalk.wrap64_in (M.used - M.peaks d.n) (by omega), IntWalk.wrap64_in _ (by split <;> omega)] at hr
      split at hr <;> omega
  · omega
#print axioms full_more
end Go.Proofs.Ytkhpjlgbiicdcaa
