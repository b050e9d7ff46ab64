/-
  disk: a file to which only writes were done since it was synced (model).
-/
import Derived.Test.YtkhpjlgbiicdcaaDnS
set_option linter.unusedVariables false
namespace Go.Proofs.Ytkhpjlgbiicdcaa

/-- Of these acts those on nm are writes, one behind the other, from 'cur' on; all of them make 'full'. -/
def Chain (nm : Nm) : List UInt8 → List Ac → List UInt8 → Prop
  | cur, [], full => full = cur
  | cur, a :: r, full => (a.n = nm → a.k = 0 ∧ a.p = cur.length) ∧ Chain nm (if a.n = nm then cur ++ a.b else cur) r full
theorem Chain.snoc {nm : Nm} : ∀ {l : List Ac} {cur full : List UInt8} {a : Ac}, Chain nm cur l full → (a.n = nm → a.k = 0 ∧ a.p = full.length) → Chain nm cur (l ++ [a]) (if a.n = nm then full ++ a.b else full)
  | [], cur, full, a, h, ha => by
    have h' : full = cur := h
    subst h'
    exact ⟨ha, rfl⟩
  | b :: r, cur, full, a, h, ha => ⟨h.1, Chain.snoc h.2 ha⟩
theorem Chain.none {nm : Nm} : ∀ {l : List Ac} {cur : List UInt8}, (∀ a ∈ l, a.n ≠ nm) → Chain nm cur l cur
  | [], cur, h => rfl
  | b :: r, cur, h => by
    have hb := h b List.mem_cons_self
    refine ⟨fun e => absurd e hb, ?_⟩
    rw [if_neg hb]
    exact Chain.none (fun a ha => h a (List.mem_cons_of_mem _ ha))

/-- Some of the acts, some of them torn. -/
inductive Thin : List Ac → List Ac → Prop
  | nil : Thin [] []
  | skip {a : Ac} {r s : List Ac} : Thin r s → Thin (a :: r) s
  | take {a a' : Ac} {r s : List Ac} : Thin r s → a'.k = a.k → a'.n = a.n → a'.p = a.p → a'.b <+: a.b → Thin (a :: r) (a' :: s)
theorem thin_kept : ∀ (l : List Ac) (kl : List Bool), Thin l (keptL l kl)
  | [], _ => .nil
  | a :: r, kl => by
    show Thin (a :: r) ((if kl.headD false then [a] else []) ++ keptL r kl.tail)
    split
    · exact .take (thin_kept r kl.tail) rfl rfl rfl (List.prefix_refl _)
    · exact .skip (thin_kept r kl.tail)
theorem torn_pre (a : Ac) (z : Int) : (a.torn z).k = a.k ∧ (a.torn z).n = a.n ∧ (a.torn z).p = a.p ∧ (a.torn z).b <+: a.b := by
  unfold Ac.torn
  split
  · exact ⟨rfl, rfl, rfl, List.take_prefix _ _⟩
  · exact ⟨rfl, rfl, rfl, List.prefix_refl _⟩
theorem thin_torn {l s : List Ac} (h : Thin l s) (z : Int) : Thin l (tornLast s z) := by
  induction h with
  | nil => exact .nil
  | skip _ ih => exact .skip ih
  | @take a a' r s h h1 h2 h3 h4 ih =>
    cases s with
    | nil =>
      obtain ⟨t1, t2, t3, t4⟩ := torn_pre a' z
      exact .take h (t1.trans h1) (t2.trans h2) (t3.trans h3) (t4.trans h4)
    | cons x y =>
      have e : tornLast (a' :: x :: y) z = a' :: tornLast (x :: y) z := by simp [tornLast, List.getLast?_cons_cons]
      rw [e]
      exact .take ih h1 h2 h3 h4

/-- Behind a crash: it begins with what was synced; no longer; each byte is as it was, or a nought behind that. -/
structure Gd (was cur now : List UInt8) : Prop where
  pre : was <+: now
  le : now.length ≤ cur.length
  each : ∀ (i : Nat) (b : UInt8), now[i]? = some b → cur[i]? = some b ∨ (b = 0 ∧ was.length ≤ i)
theorem Gd.refl (was : List UInt8) : Gd was was was := ⟨List.prefix_refl _, Nat.le_refl _, fun i b h => .inl h⟩
theorem Gd.more {was cur now : List UInt8} (h : Gd was cur now) (b : List UInt8) : Gd was (cur ++ b) now := by
  refine ⟨h.pre, by rw [List.length_append]; have := h.le; omega, fun i c hi => ?_⟩
  have hlt := (List.getElem?_eq_some_iff.1 hi).1
  have hle := h.le
  rw [List.getElem?_append_left (by omega)]
  exact h.each i c hi
theorem Gd.over {was cur now : List UInt8} (h : Gd was cur now) (b b' : List UInt8) (hb : b' <+: b) : Gd was (cur ++ b) (over now cur.length b') := by
  have hle := h.le
  have hbl := hb.length_le
  have e : Go.Proofs.Ytkhpjlgbiicdcaa.over now cur.length b' = now ++ (List.replicate (cur.length - now.length) 0 ++ b') := by
    unfold Go.Proofs.Ytkhpjlgbiicdcaa.over
    rw [List.take_of_length_le hle, List.append_assoc]
  rw [e]
  refine ⟨h.pre.trans (List.prefix_append _ _), by simp; omega, fun i c hi => ?_⟩
  by_cases h1 : i < now.length
  · rw [List.getElem?_append_left h1] at hi
    rw [List.getElem?_append_left (by omega)]
    exact h.each i c hi
  · rw [List.getElem?_append_right (by omega)] at hi
    by_cases h2 : i < cur.length
    · rw [List.getElem?_append_left (by simp; omega), List.getElem?_replicate] at hi
      split at hi
      · right
        have := h.pre.length_le
        exact ⟨(Option.some.inj hi).symm, by omega⟩
      · cases hi
    · rw [List.getElem?_append_right (by simp; omega)] at hi
      left
      rw [List.getElem?_append_right (by omega)]
      obtain ⟨t, ht⟩ := hb
      have e2 : i - now.length - (List.replicate (cur.length - now.length) (0 : UInt8)).length = i - cur.length := by simp; omega
      rw [e2] at hi
      rw [← ht, List.getElem?_append_left (List.getElem?_eq_some_iff.1 hi).1]
      exact hi

theorem thin_good {nm : Nm} {was : List UInt8} {l s : List Ac} (h : Thin l s) : ∀ {cur full : List UInt8} {f : Files} {now : List UInt8}, Chain nm cur l full → f nm = some now → Gd was cur now → ∃ now', s.foldl doF f nm = some now' ∧ Gd was full now' := by
  induction h with
  | nil =>
    intro cur full f now hc hf hg
    have hc' : full = cur := hc
    subst hc'
    exact ⟨now, hf, hg⟩
  | @skip a r s _ ih =>
    intro cur full f now hc hf hg
    refine ih hc.2 hf ?_
    split
    · exact hg.more _
    · exact hg
  | @take a a' r s _ h1 h2 h3 h4 ih =>
    intro cur full f now hc hf hg
    show ∃ now', s.foldl doF (doF f a') nm = some now' ∧ _
    by_cases hn : a.n = nm
    · obtain ⟨k0, p0⟩ := hc.1 hn
      have hc2 := hc.2
      rw [if_pos hn] at hc2
      refine ih hc2 (now := over now cur.length a'.b) ?_ (hg.over a.b a'.b h4)
      unfold doF
      rw [if_pos (by rw [h1, k0]), show a'.n = nm by rw [h2, hn], upd_same, h3, p0]
      unfold fget
      rw [hf]
      rfl
    · have hc2 := hc.2
      rw [if_neg hn] at hc2
      exact ih hc2 ((doF_other (fun e => hn (by rw [← h2]; exact e.symm))).trans hf) hg

/-- What holds while only writes are done to nm. -/
structure Bg (nm : Nm) (was : List UInt8) (M : Md) : Prop where
  last : M.last nm = some was
  ch : ∃ full, Chain nm was M.pend full ∧ M.seen nm = some full
theorem bg_start {M : Md} (hI : Inv M) (nm : Nm) (h : M.thereE nm = 0) : Bg nm (M.readB nm) (M.sync nm) ∧ (M.sync nm).readB nm = M.readB nm ∧ M.seen nm = some (M.readB nm) := by
  have hI' := hI.sync nm
  have hs := sync_seen M nm
  obtain ⟨_, hsome⟩ := there_name h
  have hr : M.seen nm = some (M.readB nm) := by
    unfold Md.readB fget
    rw [if_pos h]
    cases hx : M.seen nm with
    | none => rw [hx] at hsome; cases hsome
    | some v => rfl
  have hp : ∀ a ∈ (M.sync nm).pend, a.n ≠ nm := by
    intro a ha
    unfold Md.sync at ha
    rw [if_pos h] at ha
    have ha' : a ∈ M.pend.filter (fun a => !(isN nm a)) := ha
    have := (List.mem_filter.1 ha').2
    simpa [isN] using this
  have hseen : (M.sync nm).seen nm = some (M.readB nm) := by rw [hs]; exact hr
  refine ⟨⟨?_, _, Chain.none hp, hseen⟩, read_eq (congrFun hs nm), hr⟩
  have e := congrFun hI'.sn nm
  rw [fold_other _ hp] at e
  rw [← e]
  exact hseen
theorem Bg.perform {nm : Nm} {was : List UInt8} {M : Md} (h : Bg nm was M) {a : Ac} (ha : a.n = nm → a.k = 0 ∧ a.p = (fget M.seen nm).length) : Bg nm was (M.perform a) := by
  obtain ⟨full, hc, hf⟩ := h.ch
  refine ⟨h.last, _, Chain.snoc hc (fun e => ⟨(ha e).1, by rw [(ha e).2]; unfold fget; rw [hf]; rfl⟩), ?_⟩
  show doF M.seen a nm = _
  by_cases hn : a.n = nm
  · obtain ⟨k0, p0⟩ := ha hn
    rw [if_pos hn]
    unfold doF
    rw [if_pos k0, hn, upd_same, p0]
    unfold fget over
    rw [hf]
    simp
  · rw [if_neg hn, doF_other (fun e => hn e.symm)]
    exact hf
theorem Bg.does {nm : Nm} {was : List UInt8} {M : Md} (h : Bg nm was M) (d : Dm) (h5 : d.r < 5) (hd : ¬ (d.n = nm ∧ (d.r = 3 ∨ d.r = 4))) : Bg nm was (M.does d) := by
  unfold Md.does
  split
  · rename_i hr
    unfold Md.cut
    split
    · exact h.perform (fun e => absurd ⟨e, .inl hr⟩ hd)
    · exact h
  · rename_i hr
    unfold Md.drop
    split
    · exact h.perform (fun e => absurd ⟨e, .inr hr⟩ hd)
    · exact h
  · omega
  · omega
  · omega
  · unfold Md.write
    split
    · exact h.perform (fun e => by
        have e' : d.n = nm := e
        exact ⟨rfl, by show (fget M.seen d.n).length = _; rw [e']⟩)
    · exact h
theorem bg_there {M : Md} {nm : Nm} {l : List UInt8} (hn : isName nm = true) (h : M.seen nm = some l) : M.thereE nm = 0 ∧ M.readB nm = l := by
  have ht : M.thereE nm = 0 := by unfold Md.thereE; rw [if_pos hn, h]; rfl
  refine ⟨ht, ?_⟩
  unfold Md.readB fget
  rw [if_pos ht, h]
  rfl
/-- What DiskBegins asks. -/
theorem bg_crash {nm : Nm} {was : List UInt8} {M : Md} (h : Bg nm was M) (hn : isName nm = true) (kl : List Bool) (z : Int) : (M.crash kl z).thereE nm = 0 ∧ Gd was (M.readB nm) ((M.crash kl z).readB nm) := by
  obtain ⟨full, hc, hf⟩ := h.ch
  obtain ⟨now, h1, h2⟩ := thin_good (thin_torn (thin_kept M.pend kl) z) hc h.last (Gd.refl was)
  have hs : (M.crash kl z).seen nm = some now := by rw [crash_seen, crash_last]; exact h1
  obtain ⟨t1, t2⟩ := bg_there hn hs
  obtain ⟨_, t4⟩ := bg_there hn hf
  exact ⟨t1, by rw [t2, t4]; exact h2⟩
#print axioms bg_crash
end Go.Proofs.Ytkhpjlgbiicdcaa
