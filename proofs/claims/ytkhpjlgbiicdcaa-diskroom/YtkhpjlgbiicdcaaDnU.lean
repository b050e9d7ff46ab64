/-
  disk: what is used (the plain model).
-/
import Derived.Test.YtkhpjlgbiicdcaaDnI
set_option linter.unusedVariables false
namespace Go.Proofs.Ytkhpjlgbiicdcaa
open Go.RowKit Go.Maps

/-- What Used counts is the sum of the peaks. -/
def SumOk (M : Md) : Prop := ∃ ns : List Nm, ns.Nodup ∧ (∀ n, n ∉ ns → M.peaks n = 0) ∧ M.used = (ns.map M.peaks).sum
theorem sum_upd_not (P : Nm → Int) (n : Nm) (z : Int) : ∀ ns : List Nm, n ∉ ns → (ns.map (upd P n z)).sum = (ns.map P).sum
  | [], _ => rfl
  | m :: r, h => by
    have hm : m ≠ n := fun e => h (by rw [e]; exact List.mem_cons_self)
    rw [List.map_cons, List.map_cons, List.sum_cons, List.sum_cons, sum_upd_not P n z r (fun hr => h (List.mem_cons_of_mem _ hr)), upd_other _ _ _ _ hm]
theorem sum_upd_in (P : Nm → Int) (n : Nm) (z : Int) : ∀ ns : List Nm, ns.Nodup → n ∈ ns → (ns.map (upd P n z)).sum = (ns.map P).sum - P n + z
  | [], _, h => by cases h
  | m :: r, hnd, h => by
    rw [List.map_cons, List.map_cons, List.sum_cons, List.sum_cons]
    rw [List.nodup_cons] at hnd
    by_cases hm : m = n
    · subst hm
      rw [sum_upd_not P m z r hnd.1, upd_same]
      omega
    · have hr : n ∈ r := by
        rcases List.mem_cons.1 h with e | e
        · exact absurd e.symm hm
        · exact e
      rw [sum_upd_in P n z r hnd.2 hr, upd_other _ _ _ _ hm]
      omega
theorem sum_nonneg (P : Nm → Int) (h : ∀ n, 0 ≤ P n) : ∀ ns : List Nm, 0 ≤ (ns.map P).sum
  | [] => by simp
  | m :: r => by
    have := sum_nonneg P h r
    have := h m
    rw [List.map_cons, List.sum_cons]
    omega
theorem sum_ge (P : Nm → Int) (h : ∀ n, 0 ≤ P n) : ∀ (ns : List Nm) (n : Nm), n ∈ ns → P n ≤ (ns.map P).sum
  | m :: r, n, hn => by
    rw [List.map_cons, List.sum_cons]
    have h1 := sum_nonneg P h r
    rcases List.mem_cons.1 hn with rfl | hr
    · omega
    · have := sum_ge P h r n hr
      have := h m
      omega
theorem SumOk.peak {M : Md} (h : SumOk M) (h0 : ∀ n, 0 ≤ M.peaks n) (n : Nm) : M.peaks n ≤ M.used := by
  obtain ⟨ns, _, hz, hu⟩ := h
  rw [hu]
  by_cases hn : n ∈ ns
  · exact sum_ge _ h0 ns n hn
  · rw [hz n hn]; exact sum_nonneg _ h0 ns
theorem count_used {M : Md} {n : Nm} {z : Int} (hu : 0 ≤ M.used ∧ M.used ≤ 16777216) (hp : 0 ≤ M.peaks n ∧ M.peaks n ≤ 16777216) (hz : 0 ≤ z ∧ z ≤ 100000000) : (M.count n z).used = M.used - M.peaks n + z := by
  show wrap64 (M.used + wrap64 (z - M.peaks n)) = _
  rw [IntWalk.wrap64_in (z - M.peaks n) (by omega), IntWalk.wrap64_in _ (by omega)]
  omega
theorem SumOk.count {M : Md} (h : SumOk M) {n : Nm} {z : Int} (hu : 0 ≤ M.used ∧ M.used ≤ 16777216) (hp : 0 ≤ M.peaks n ∧ M.peaks n ≤ 16777216) (hz : 0 ≤ z ∧ z ≤ 100000000) : SumOk (M.count n z) := by
  have e := count_used hu hp hz
  obtain ⟨ns, hnd, h0, hs⟩ := h
  by_cases hn : n ∈ ns
  · refine ⟨ns, hnd, fun m hm => ?_, ?_⟩
    · show upd M.peaks n z m = 0
      rw [upd_other _ _ _ _ (fun e => hm (by rw [e]; exact hn))]
      exact h0 m hm
    · rw [e]
      show _ = (ns.map (upd M.peaks n z)).sum
      rw [sum_upd_in _ _ _ _ hnd hn, hs]
  · refine ⟨n :: ns, List.nodup_cons.2 ⟨hn, hnd⟩, fun m hm => ?_, ?_⟩
    · show upd M.peaks n z m = 0
      have h1 : m ≠ n := fun e => hm (by rw [e]; exact List.mem_cons_self)
      rw [upd_other _ _ _ _ h1]
      exact h0 m (fun hm' => hm (List.mem_cons_of_mem _ hm'))
    · rw [e, h0 n hn]
      show _ = ((n :: ns).map (upd M.peaks n z)).sum
      rw [List.map_cons, List.sum_cons, upd_same, sum_upd_not _ _ _ _ hn, hs]
      omega
/-- What is seen is within the peaks; what is used is their sum, and within the room. -/
structure Q (M : Md) : Prop where
  s : ∀ n, ((fget M.seen n).length : Int) ≤ M.peaks n
  u : SumOk M
  ur : M.used ≤ M.room
  rm : M.room ≤ 16777216
theorem Q.p0 {M : Md} (h : Q M) (n : Nm) : 0 ≤ M.peaks n := by have := h.s n; omega
theorem Q.u0 {M : Md} (h : Q M) : 0 ≤ M.used := by
  have := h.p0 []
  have := h.u.peak h.p0 []
  omega
theorem Q.pu {M : Md} (h : Q M) (n : Nm) : M.peaks n ≤ M.used := h.u.peak h.p0 n
theorem Q.settle {M : Md} (h : Q M) (n : Nm) : Q (M.settle n) ∧ (M.settle n).used ≤ M.used := by
  have h1 := h.s n
  have h2 := h.pu n
  have h3 := h.u0
  have h4 := h.ur
  have h5 := h.rm
  have hp := h.p0 n
  have e : (M.settle n).used = M.used - M.peaks n + ((fget M.seen n).length : Int) := count_used ⟨h3, by omega⟩ ⟨hp, by omega⟩ ⟨by omega, by omega⟩
  refine ⟨⟨fun m => ?_, h.u.count ⟨h3, by omega⟩ ⟨hp, by omega⟩ ⟨by omega, by omega⟩, ?_, h5⟩, by omega⟩
  · show ((fget M.seen m).length : Int) ≤ upd M.peaks n ((fget M.seen n).length : Int) m
    by_cases hm : m = n
    · subst hm; rw [upd_same]; exact Int.le_refl _
    · rw [upd_other _ _ _ _ hm]; exact h.s m
  · rw [e]; show _ ≤ M.room; omega
theorem fget_doF_le {f : Files} {a : Ac} {P : Nm → Int} (h : ∀ n, ((fget f n).length : Int) ≤ P n) (ha : a.k = 0 → ((a.p + a.b.length : Nat) : Int) ≤ P a.n) : ∀ n, ((fget (doF f a) n).length : Int) ≤ P n := by
  intro n
  by_cases hn : n = a.n
  · subst hn
    have h0 := h a.n
    unfold doF
    split
    · rename_i hk
      unfold fget
      rw [upd_same]
      show (((over (fget f a.n) a.p a.b).length : Nat) : Int) ≤ _
      rw [over_len]
      exact ha hk
    · split
      · split
        · unfold fget
          rw [upd_same]
          show ((((fget f a.n).take a.p).length : Nat) : Int) ≤ _
          rw [List.length_take]
          omega
        · exact h0
      · unfold fget
        rw [upd_same]
        show (((([] : List UInt8)).length : Nat) : Int) ≤ _
        simp only [List.length_nil]
        omega
  · unfold fget
    rw [doF_other hn]
    exact h n
theorem fget_fold_le {l : List Ac} {f : Files} {P : Nm → Int} (h : ∀ n, ((fget f n).length : Int) ≤ P n) (hl : ∀ a ∈ l, a.k = 0 → ((a.p + a.b.length : Nat) : Int) ≤ P a.n) : ∀ n, ((fget (l.foldl doF f) n).length : Int) ≤ P n := by
  induction l generalizing f with
  | nil => exact h
  | cons a r ih => exact ih (fget_doF_le h (hl a List.mem_cons_self)) (fun b hb => hl b (List.mem_cons_of_mem _ hb))
structure Acc (M : Md) : Prop where
  q : Q M
  l : ∀ n, ((fget M.last n).length : Int) ≤ M.peaks n
  p : ∀ a ∈ M.pend, a.k = 0 → ((a.p + a.b.length : Nat) : Int) ≤ M.peaks a.n
theorem Acc.new {z : Int} (h0 : 0 ≤ z) (h1 : z ≤ 16777216) : Acc (Md.new z) :=
  ⟨⟨fun n => by simp [Md.new, fget], ⟨[], List.nodup_nil, fun n _ => rfl, rfl⟩, h0, h1⟩, fun n => by simp [Md.new, fget], fun a ha => by simp [Md.new] at ha⟩
theorem Acc.perform {M : Md} (h : Acc M) {a : Ac} {z : Int} (hz : z = if M.peaks a.n < ((fget (doF M.seen a) a.n).length : Int) then ((fget (doF M.seen a) a.n).length : Int) else M.peaks a.n) (hk : a.k = 0 → a.p + a.b.length = (fget (doF M.seen a) a.n).length) (hr : M.used - M.peaks a.n + z ≤ M.room) : Acc (M.perform a) ∧ (M.perform a).used = M.used - M.peaks a.n + z := by
  have h2 := h.q.pu a.n
  have h3 := h.q.u0
  have h4 := h.q.ur
  have h5 := h.q.rm
  have hp := h.q.p0 a.n
  have hz1 : M.peaks a.n ≤ z := by rw [hz]; split <;> omega
  have hz2 : ((fget (doF M.seen a) a.n).length : Int) ≤ z := by rw [hz]; split <;> omega
  obtain ⟨M', hM'⟩ : ∃ M', M' = { M with seen := doF M.seen a, seenN := doN M.seen M.seenN a, pend := M.pend ++ [a] } := ⟨_, rfl⟩
  have eP : M.perform a = M'.count a.n z := by rw [hM', hz]; rfl
  have pk : M'.peaks = M.peaks := by rw [hM']
  have us : M'.used = M.used := by rw [hM']
  have hu : (M'.count a.n z).used = M.used - M.peaks a.n + z := by rw [count_used (by rw [us]; omega) (by rw [pk]; omega) (by omega), pk, us]
  have hm : ∀ m, M.peaks m ≤ upd M.peaks a.n z m := by
    intro m
    by_cases e : m = a.n
    · subst e; rw [upd_same]; exact hz1
    · rw [upd_other _ _ _ _ e]; exact Int.le_refl _
  rw [eP]
  refine ⟨⟨⟨fun m => ?_, ?_, ?_, ?_⟩, fun m => ?_, fun b hb hbk => ?_⟩, hu⟩
  · show ((fget M'.seen m).length : Int) ≤ upd M'.peaks a.n z m
    rw [pk, hM']
    show ((fget (doF M.seen a) m).length : Int) ≤ _
    by_cases e : m = a.n
    · subst e; rw [upd_same]; exact hz2
    · rw [upd_other _ _ _ _ e]
      unfold fget
      rw [doF_other e]
      exact h.q.s m
  · refine SumOk.count ?_ (by rw [us]; omega) (by rw [pk]; omega) (by omega)
    obtain ⟨ns, x1, x2, x3⟩ := h.q.u
    exact ⟨ns, x1, by rw [pk]; exact x2, by rw [pk, us]; exact x3⟩
  · rw [hu, hM']; exact hr
  · rw [hM']; exact h5
  · rw [hM']
    exact Int.le_trans (h.l m) (hm m)
  · have hb' : b ∈ M.pend ++ [a] := by rw [hM'] at hb; exact hb
    show _ ≤ upd M'.peaks a.n z b.n
    rw [pk]
    rcases List.mem_append.1 hb' with hb' | hb'
    · exact Int.le_trans (h.p b hb' hbk) (hm b.n)
    · simp at hb'
      subst hb'
      rw [upd_same, hk hbk]
      exact hz2
theorem Acc.write {M : Md} (h : Acc M) (n : Nm) (b : List UInt8) (hb : b.length ≤ 65536) : Acc (M.write n b) := by
  unfold Md.write
  split
  · rename_i hw
    have e1 : fget (doF M.seen ⟨0, n, (fget M.seen n).length, b⟩) n = over (fget M.seen n) (fget M.seen n).length b := by
      show ((upd M.seen n (some (over (fget M.seen n) (fget M.seen n).length b))) n).getD [] = _
      rw [upd_same]; rfl
    have hr : M.room? n b.length = true := by
      unfold Md.writeE at hw
      split at hw
      · split at hw
        · assumption
        · omega
      · omega
    unfold Md.room? at hr
    split at hr
    · cases hr
    · have h2 := h.q.pu n
      have h3 := h.q.u0
      have h4 := h.q.ur
      have h5 := h.q.rm
      have hp := h.q.p0 n
      refine (h.perform (z := if M.peaks n < ((fget (doF M.seen ⟨0, n, (fget M.seen n).length, b⟩) n).length : Int) then ((fget (doF M.seen ⟨0, n, (fget M.seen n).length, b⟩) n).length : Int) else M.peaks n) rfl (fun _ => by show _ = (fget (doF M.seen ⟨0, n, (fget M.seen n).length, b⟩) n).length; rw [e1, over_len]) ?_).1
      show M.used - M.peaks n + _ ≤ _
      rw [e1, over_len]
      simp only [decide_eq_true_eq] at hr
      have hs := h.q.s n
      rw [IntWalk.wrap64_in (M.used - M.peaks n) (by omega), IntWalk.wrap64_in _ (by split <;> omega)] at hr
      exact hr
  · exact h
/-- A cut, a drop: no byte more. -/
theorem Acc.less {M : Md} (h : Acc M) {a : Ac} (hk : a.k ≠ 0) : Acc (M.perform a) ∧ (M.perform a).used = M.used := by
  have h0 : ((fget (doF M.seen a) a.n).length : Int) ≤ M.peaks a.n := fget_doF_le h.q.s (fun e => absurd e hk) a.n
  have := h.perform (a := a) (z := M.peaks a.n) (by rw [if_neg (by omega)]) (fun e => absurd e hk) (by have := h.q.ur; omega)
  exact ⟨this.1, by rw [this.2]; omega⟩
theorem Acc.cut {M : Md} (h : Acc M) (n : Nm) (z : Int) : Acc (M.cut n z) := by
  unfold Md.cut
  split
  · exact (h.less (by show (1 : Nat) ≠ 0; omega)).1
  · exact h
theorem Acc.drop {M : Md} (h : Acc M) (n : Nm) : Acc (M.drop n) := by
  unfold Md.drop
  split
  · exact (h.less (by show (2 : Nat) ≠ 0; omega)).1
  · exact h
theorem Acc.sync {M : Md} (h : Acc M) (hI : Inv M) (n : Nm) : Acc (M.sync n) ∧ (M.sync n).used ≤ M.used := by
  have hI' := hI.sync n
  unfold Md.sync at hI' ⊢
  split
  · rename_i ht
    rw [if_pos ht] at hI'
    have k := lasts_keep (M.pend.filter (isN n)) M
    have q1 : Q (M.synced n) := by
      refine ⟨?_, ?_, ?_, ?_⟩
      · show ∀ m, ((fget ((M.pend.filter (isN n)).foldl Md.lasts M).seen m).length : Int) ≤ ((M.pend.filter (isN n)).foldl Md.lasts M).peaks m
        rw [k.2.1, k.2.2.2.2.1]; exact h.q.s
      · obtain ⟨ns, x1, x2, x3⟩ := h.q.u
        exact ⟨ns, x1, by show ∀ m, m ∉ ns → ((M.pend.filter (isN n)).foldl Md.lasts M).peaks m = 0; rw [k.2.2.2.2.1]; exact x2, by show ((M.pend.filter (isN n)).foldl Md.lasts M).used = (ns.map ((M.pend.filter (isN n)).foldl Md.lasts M).peaks).sum; rw [k.2.2.2.2.1, k.2.2.2.2.2]; exact x3⟩
      · show ((M.pend.filter (isN n)).foldl Md.lasts M).used ≤ ((M.pend.filter (isN n)).foldl Md.lasts M).room
        rw [k.2.2.2.2.2, k.2.2.2.1]; exact h.q.ur
      · show ((M.pend.filter (isN n)).foldl Md.lasts M).room ≤ _
        rw [k.2.2.2.1]; exact h.q.rm
    have pk : (M.synced n).peaks = M.peaks := k.2.2.2.2.1
    have us : (M.synced n).used = M.used := k.2.2.2.2.2
    obtain ⟨q2, u2⟩ := q1.settle n
    rw [us] at u2
    have hpend : ∀ a ∈ ((M.synced n).settle n).pend, a ∈ M.pend ∧ a.n ≠ n := by
      intro a ha
      have ha' : a ∈ M.pend.filter (fun a => !(isN n a)) := ha
      have := List.mem_filter.1 ha'
      exact ⟨this.1, by simpa [isN] using this.2⟩
    have hpo : ∀ m, m ≠ n → ((M.synced n).settle n).peaks m = M.peaks m := by
      intro m hm
      show upd (M.synced n).peaks n _ m = _
      rw [upd_other _ _ _ _ hm, pk]
    refine ⟨⟨q2, fun m => ?_, fun a ha hk => ?_⟩, u2⟩
    · by_cases hm : m = n
      · subst hm
        have e : ((M.synced m).settle m).last m = ((M.synced m).settle m).seen m := by
          rw [hI'.sn]
          exact (fold_other _ (fun a ha => (hpend a ha).2)).symm
        have := q2.s m
        unfold fget at this ⊢
        rw [e]
        exact this
      · rw [hpo m hm]
        have e : ((M.synced n).settle n).last m = M.last m := by
          show ((M.pend.filter (isN n)).foldl Md.lasts M).last m = _
          rw [lasts_last]
          exact fold_other _ (fun a ha => by simp [isN] at ha; rw [ha.2]; exact fun e => hm e.symm)
        unfold fget
        rw [e]
        exact h.l m
    · obtain ⟨h1, h2⟩ := hpend a ha
      rw [hpo a.n h2]
      exact h.p a h1 hk
  · exact ⟨h, Int.le_refl _⟩
theorem Q.lasts {M : Md} (h : Q M) (a : Ac) : Q (M.lasts a) := ⟨h.s, h.u, h.ur, h.rm⟩
theorem Q.land {M : Md} (h : Q M) (l : List Ac) : Q (l.foldl Md.land M) ∧ (l.foldl Md.land M).used ≤ M.used := by
  induction l generalizing M with
  | nil => exact ⟨h, Int.le_refl _⟩
  | cons a r ih =>
    obtain ⟨h1, h2⟩ := (h.lasts a).settle a.n
    obtain ⟨h3, h4⟩ := ih h1
    exact ⟨h3, Int.le_trans h4 h2⟩
theorem Acc.flush {M : Md} (h : Acc M) (hI : Inv M) : Acc M.flush ∧ M.flush.used ≤ M.used := by
  obtain ⟨h1, h2⟩ := h.q.land M.pend
  have q : Q M.flush := ⟨h1.s, h1.u, h1.ur, h1.rm⟩
  refine ⟨⟨q, fun n => ?_, fun a ha => by simp [Md.flush] at ha⟩, h2⟩
  have e : M.flush.last = M.flush.seen := by rw [flush_last, flush_seen, hI.sn]
  rw [e]
  exact q.s n
theorem Q.settles {M : Md} (h : Q M) (l : List Ac) : Q (l.foldl (fun m a => m.settle a.n) M) ∧ (l.foldl (fun m a => m.settle a.n) M).used ≤ M.used := by
  induction l generalizing M with
  | nil => exact ⟨h, Int.le_refl _⟩
  | cons a r ih =>
    obtain ⟨h1, h2⟩ := h.settle a.n
    obtain ⟨h3, h4⟩ := ih h1
    exact ⟨h3, Int.le_trans h4 h2⟩
theorem Acc.crash {M : Md} (h : Acc M) (kl : List Bool) (z : Int) : Acc (M.crash kl z) ∧ (M.crash kl z).used ≤ M.used := by
  have k := lasts_keep (tornLast (keptL M.pend kl) z) M
  have q1 : Q ((tornLast (keptL M.pend kl) z).foldl Md.lasts M).reseen := by
    refine ⟨?_, ?_, ?_, ?_⟩
    · show ∀ m, ((fget ((tornLast (keptL M.pend kl) z).foldl Md.lasts M).last m).length : Int) ≤ ((tornLast (keptL M.pend kl) z).foldl Md.lasts M).peaks m
      rw [lasts_last, k.2.2.2.2.1]
      refine fget_fold_le h.l (fun a ha hk => ?_)
      obtain ⟨b, hb, e1, e2, e3, e4⟩ := tornLast_mem ha
      have := h.p b (keptL_mem _ _ _ hb) (by rw [← e1]; exact hk)
      rw [e2, e3]
      omega
    · obtain ⟨ns, x1, x2, x3⟩ := h.q.u
      exact ⟨ns, x1, by show ∀ m, m ∉ ns → ((tornLast (keptL M.pend kl) z).foldl Md.lasts M).peaks m = 0; rw [k.2.2.2.2.1]; exact x2, by show ((tornLast (keptL M.pend kl) z).foldl Md.lasts M).used = (ns.map ((tornLast (keptL M.pend kl) z).foldl Md.lasts M).peaks).sum; rw [k.2.2.2.2.1, k.2.2.2.2.2]; exact x3⟩
    · show ((tornLast (keptL M.pend kl) z).foldl Md.lasts M).used ≤ ((tornLast (keptL M.pend kl) z).foldl Md.lasts M).room
      rw [k.2.2.2.2.2, k.2.2.2.1]; exact h.q.ur
    · show ((tornLast (keptL M.pend kl) z).foldl Md.lasts M).room ≤ _
      rw [k.2.2.2.1]; exact h.q.rm
  obtain ⟨h1, h2⟩ := q1.settles M.pend
  have q : Q (M.crash kl z) := ⟨h1.s, h1.u, h1.ur, h1.rm⟩
  refine ⟨⟨q, fun n => ?_, fun a ha => by simp [Md.crash] at ha⟩, ?_⟩
  · rw [← crash_seen]; exact q.s n
  · have h3 : (M.crash kl z).used ≤ ((tornLast (keptL M.pend kl) z).foldl Md.lasts M).used := h2
    rw [k.2.2.2.2.2] at h3
    exact h3
theorem Acc.does {M : Md} (h : Acc M) (hI : Inv M) (d : Dm) (hb : d.b.length ≤ 65536) : Acc (M.does d) := by
  unfold Md.does
  split
  · exact h.cut _ _
  · exact h.drop _
  · exact (h.sync hI _).1
  · exact (h.flush hI).1
  · exact (h.crash _ _).1
  · exact h.write _ _ hb
theorem Acc.runs {M : Md} (h : Acc M) (hI : Inv M) (l : List Dm) (hb : ∀ d ∈ l, d.b.length ≤ 65536) : Acc (M.runs l) := by
  unfold Md.runs
  induction l generalizing M with
  | nil => exact h
  | cons d r ih => exact ih (h.does hI d (hb d List.mem_cons_self)) (hI.does d) (fun b hb' => hb b (List.mem_cons_of_mem _ hb'))
#print axioms Acc.runs
end Go.Proofs.Ytkhpjlgbiicdcaa
