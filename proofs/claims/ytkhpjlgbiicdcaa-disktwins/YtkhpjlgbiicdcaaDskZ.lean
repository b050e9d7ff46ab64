/-
  disk: List.
-/
import Derived.Test.YtkhpjlgbiicdcaaDskY
import Derived.Test.YtkhpjlgbiicdcaaItr
set_option linter.unusedVariables false
namespace Go.Proofs.Ytkhpjlgbiicdcaa
open Go.RowKit Go.Maps Go.Sort Go.Shelf

theorem sortsIn (m : Nat) : AnyZ.SortsIn Try.prog Try.sorted41_ren Fence.wide m :=
  ⟨fun blk off cap ss W hH hblk hsz => callsIn_wide.2 (AnyM.slices_Sort_string Try.sort55 blk off cap ss W hH hblk hsz),
   fun p cap W => callsIn_wide.2 (AnyM.slices_Sort_string_none Try.sort55 p cap W)⟩
theorem keys_c (mb : Option Nat) (W : World) : Calls Try.prog 42 #[.map mb] W fun e w' => e = .returned (.func (.func 56) #[] #[.pointer (some ⟨W.heap.size, 0, none⟩)]) ∧ w' = W.alloc (.cells #[.map mb] 54) :=
  callsIn_wide.1 (AnyZ.keys_in Try.keys42 Fence.wide 5 trivial rfl mb W)
set_option maxHeartbeats 1000000 in
theorem sorted_c {H : Type} (b nn : Nat) (D0 : DataW H) (R : Value → Option (DataW H × List MemPlace)) (w : World) (hown : w.ownsMap Try.prog 9 R b nn D0) (hmax : Maps.size D0 ≤ maxLen) (hbytes : Maps.size D0 * 16 ≤ 140737488355328) :
    Calls Try.prog 41 #[.func (.func 56) #[] #[.pointer (some ⟨w.heap.size, 0, none⟩)]] (w.alloc (.cells #[.map (some b)] 54)) fun e w' => ∃ (v : Value) (ss : List (List UInt8)), e = .returned v ∧ ss.Perm (strKeys D0) ∧
      w'.ownsRow (w.alloc (.cells #[.map (some b)] 54)).heap.size 9 1 v ss.length ((ss.mergeSort (fun x y => decide (x ≤ y))).map encStr) ∧ (v = .slice none 0 0 ↔ ss = []) ∧ Below (w.alloc (.cells #[.map (some b)] 54)).heap.size (w.alloc (.cells #[.map (some b)] 54)) w' := by
  have hbl := hown.lt
  have hseq : SeqGives Fence.wide 2 Try.prog 56 #[.pointer (some ⟨w.heap.size, 0, none⟩)] encStr (fun ss => ss.Perm (strKeys D0)) (Maps.size D0) (w.alloc (.cells #[.map (some b)] 54)) :=
    AnyZ.keys_gives (ρ := Try.keys42_ren) { Try.keys42 with } Fence.wide _ trivial rfl (by omega) w.heap.size b nn D0 _ (by simp) (by simp) (by
      obtain ⟨es, clock, hb, Ft, hs, hD⟩ := hown
      exact ⟨es, clock, (Below.heap_alloc _ _ b hbl).trans hb, Ft, hs, hD⟩)
  exact callsIn_wide.1 (AnyZ.sorted_in Try.sorted41 Fence.wide 5 trivial trivial trivial trivial rfl (by omega) (sortsIn _) (enters_of Try.func55 (by kernel_rfl) rfl) 56 #[.pointer (some ⟨w.heap.size, 0, none⟩)] trivial (enters_of Try.func56 (by kernel_rfl) rfl) _ _ hmax hbytes _ hseq)

/-- A row of strings. -/
def SRow (w : World) (a : Option Addr) (l : List Nm) : Prop :=
  l ≠ [] → ∃ b off, a = some ⟨b, off, none⟩ ∧ ∀ i s, l[i]? = some s → w.cell? ⟨b, off + i, none⟩ = some (.string (str s))
theorem SRow.below {w w' : World} {B : Nat} {a : Option Addr} {l : List Nm} (h : SRow w a l) (hb : Below B w w') (hB : w.heap.size ≤ B) : SRow w' a l := by
  intro hne
  obtain ⟨b, off, rfl, hc⟩ := h hne
  refine ⟨b, off, rfl, fun i s hi => ?_⟩
  rw [hb.cell (Nat.lt_of_lt_of_le (World.block_lt_of_cell? w _ (hc i s hi)) hB)]
  exact hc i s hi
theorem srow_of {w : World} {base n : Nat} {v : Value} {l : List Nm} (h : w.ownsRow base 9 1 v n (l.map encStr)) : ∃ a c, v = .slice a l.length c ∧ SRow w a l := by
  have hlen : l.length = n := by have := h.1; simpa using this
  rcases h.2 with ⟨hv, hn⟩ | ⟨g, cap, cur, hv, hb, hg, hle, hm, hs, ht⟩
  · refine ⟨none, 0, ?_, fun hne => absurd (List.eq_nil_of_length_eq_zero (by omega)) hne⟩
    rw [hv, hlen, hn]
  · refine ⟨some ⟨g, 0, none⟩, cap, by rw [hlen]; exact hv, fun hne => ⟨g, 0, rfl, fun i s hi => ?_⟩⟩
    have hlt := (List.getElem?_eq_some_iff.1 hi).1
    rw [cell_of_row w g (0 + i) cur _ (0, 0) hg, Nat.zero_add]
    have h1 : (cur.toList.take (n * 1))[i]? = (l.map encStr)[i]? := by rw [ht]
    rw [List.getElem?_take, if_pos (by omega), List.getElem?_map, hi] at h1
    simpa [encStr, str] using h1
/-- A row of strings of one's own. -/
def OwnS (w : World) (base : Nat) (a : Option Addr) (c : Nat) (l : List Nm) : Prop := w.ownsRow base 9 1 (.slice a l.length c) l.length (l.map encStr)
theorem OwnS.srow {w : World} {base : Nat} {a : Option Addr} {c : Nat} {l : List Nm} (h : OwnS w base a c l) : SRow w a l := by
  obtain ⟨a', c', e, hs⟩ := srow_of h
  simp only [Value.slice.injEq] at e
  rw [e.1]; exact hs
theorem owns_of {w : World} {base base' n : Nat} {v : Value} {l : List Nm} (h : w.ownsRow base 9 1 v n (l.map encStr)) (hb : base' ≤ base) : ∃ a c, v = .slice a l.length c ∧ OwnS w base' a c l := by
  obtain ⟨a, c, rfl, hs⟩ := srow_of h
  have hlen : l.length = n := by have := h.1; simpa using this
  subst hlen
  refine ⟨a, c, rfl, h.1, ?_⟩
  rcases h.2 with h0 | ⟨g, cap, cur, hv, hbb, rest⟩
  · exact .inl h0
  · exact .inr ⟨g, cap, cur, hv, Nat.le_trans hb hbb, rest⟩
theorem OwnS.below {w w' : World} {base : Nat} {a : Option Addr} {c : Nat} {l : List Nm} (h : OwnS w base a c l) (hb : Below w.heap.size w w') : OwnS w' base a c l := by
  refine ⟨h.1, ?_⟩
  rcases h.2 with h0 | ⟨g, cap, cur, hv, hbb, hg, rest⟩
  · exact .inl h0
  · exact .inr ⟨g, cap, cur, hv, hbb, by rw [hb.block g (Array.getElem?_eq_some_iff.1 hg).1]; exact hg, rest⟩
theorem OwnS.lt {w : World} {base : Nat} {a : Option Addr} {c : Nat} {l : List Nm} (h : OwnS w base a c l) : ∀ k, blk a = some k → base ≤ k := by
  intro k hk
  rcases h.2 with ⟨hv, _⟩ | ⟨g, cap, cur, hv, hbb, _⟩
  · simp only [Value.slice.injEq] at hv; rw [hv.1] at hk; cases hk
  · simp only [Value.slice.injEq] at hv; rw [hv.1] at hk; simp [blk] at hk; omega
theorem OwnS.none {w : World} {base : Nat} {c : Nat} {l : List Nm} (h : OwnS w base none c l) : c = 0 := by
  rcases h.2 with ⟨hv, _⟩ | ⟨g, cap, cur, hv, hbb, _⟩
  · simp only [Value.slice.injEq] at hv; exact hv.2.2
  · simp at hv
/-- The names of files, in their order. -/
structure Nms (f : Files) (l : List Nm) : Prop where
  nd : l.Nodup
  so : l.Pairwise (fun x y => x ≤ y)
  mem : ∀ n, n ∈ l ↔ f n ≠ none
theorem Nms.uniq {f : Files} {l l' : List Nm} (h : Nms f l) (h' : Nms f l') : l = l' :=
  List.Perm.eq_of_pairwise (le := fun a b : Nm => a ≤ b) (fun a b _ _ h1 h2 => List.le_antisymm h1 h2) h.so h'.so ((List.perm_ext_iff_of_nodup h.nd h'.nd).2 fun x => by rw [h.mem, h'.mem])
theorem keys_has {w : World} {bm n : Nat} {D : DataW Unit} (hown : w.ownsMap Try.prog 9 slE bm n D) : (strKeys D).Nodup ∧ (∀ x, x ∈ strKeys D ↔ Maps.has D (.string x) = true) ∧ (strKeys D).length = Maps.size D := by
  obtain ⟨es, rfl, hpw, _⟩ := hown.entries law
  obtain ⟨es', hD', hko⟩ := hown.keysOf
  obtain rfl : es = es' := by simpa using hD'
  have hk : ∀ p ∈ es, ∃ x, p.1 = .string x := fun p hp => by obtain ⟨v, hv⟩ := hko p hp; obtain ⟨x, _, hx, _⟩ := Maps.keyOf_str Try.underlying9 hv; exact ⟨x, hx⟩
  have hst : ∀ p ∈ es, p.1 = .string (strOf p.1) := fun p hp => by obtain ⟨x, hx⟩ := hk p hp; rw [hx]; rfl
  refine ⟨List.pairwise_map.2 (hpw.imp_of_mem fun {p q} hp hq hne e => hne (by rw [hst p hp, hst q hq, e])), fun x => ?_, by simp [strKeys, Maps.size]⟩
  rw [has_eq, List.any_eq_true, strKeys, List.mem_map]
  refine ⟨fun ⟨p, hp, e⟩ => ⟨p, hp, ?_⟩, fun ⟨p, hp, e⟩ => ⟨p, hp, ?_⟩⟩
  · rw [hst p hp, e]; simp [Lit.sameKey]
  · rw [hst p hp] at e; simpa [Lit.sameKey] using e
theorem nms_of {w : World} {g : Nat → Tg} {tr : Nm → Tg} {bm cnt : Nat} {f : Files} {D : DataW Unit} {ss : List Nm} (hown : w.ownsMap Try.prog 9 slE bm cnt D) (hF : ∀ n, FE w g (tr n) D n (f n)) (hp : ss.Perm (strKeys D)) : Nms f (ss.mergeSort leB) := by
  obtain ⟨h1, h2, h3⟩ := keys_has hown
  have tr : ∀ a b c : List UInt8, leB a b = true → leB b c = true → leB a c = true := fun a b c h1 h2 => by simp only [leB, decide_eq_true_eq] at *; exact List.le_trans h1 h2
  have tt : ∀ a b : List UInt8, (leB a b || leB b a) = true := fun a b => by simp only [leB, Bool.or_eq_true, decide_eq_true_eq]; exact List.le_total a b
  refine ⟨((List.mergeSort_perm ss leB).trans hp).nodup_iff.2 h1, (List.pairwise_mergeSort tr tt ss).imp (fun h => by simpa [leB] using h), fun n => ?_⟩
  rw [((List.mergeSort_perm ss leB).trans hp).mem_iff, h2]
  rcases hF n with ⟨e1, e2⟩ | ⟨l, x, c, e1, e2, _⟩
  · rw [e1, e2]; simp
  · rw [e1, e2]; simp

set_option maxRecDepth 20000 in
set_option maxHeartbeats 1000000 in
theorem list_any (g : Nat → Tg) (i : Nat) (J : DJ) (M : Md) (w : World) (h : DS w g i J M) (hN : M.seenN ≤ 1500) :
    Calls Try.prog 22 #[.pointer (some ⟨J.D, 0, none⟩)] w fun e w' => ∃ a c l, e = .returned (.slice a l.length c) ∧ Nms M.seen l ∧ OwnS w' w.heap.size a c l ∧ l.length ≤ 1500 ∧ Below w.heap.size w w' := by
  have c2 := h.c2
  obtain ⟨D, hown, hsz, hF⟩ := h.fs
  go_enter Try.func22, Try.ntmps22
  go_wp2_with fail
  refine (unmade_not J.D J.S w c2).mono ?_
  rintro e w' ⟨rfl, rfl⟩
  go_wp2_with fail
  refine (keys_c _ _).mono ?_
  rintro e w1 ⟨rfl, rfl⟩
  go_wp2_with fail
  refine (sorted_c J.S M.seenN D slE _ hown (by unfold maxLen; omega) (by omega)).mono ?_
  rintro e w2 ⟨v, ss, rfl, hp, hrow, -, hb⟩
  obtain ⟨a, c, rfl, hs⟩ := owns_of (base' := w'.heap.size) hrow (by simp)
  have hn : Nms M.seen (ss.mergeSort (fun x y => decide (x ≤ y))) := nms_of hown hF hp
  have hlen : (ss.mergeSort (fun x y => decide (x ≤ y))).length ≤ 1500 := by
    rw [List.length_mergeSort, hp.length_eq, (keys_has hown).2.2, hsz]; exact hN
  clear hrow
  generalize (ss.mergeSort (fun x y => decide (x ≤ y))) = l at *
  have HN := hide hn
  have HS := hide hs
  have HB : Hid (Below w'.heap.size w' w2) := ((Below.refl _ w').alloc (Nat.le_refl _) _).trans (hb.mono (by simp))
  clear hn hs hb hp hown hF
  go_wp2
  go_ret
  exact ⟨a, c, l, rfl, unhide HN, unhide HS, hlen, unhide HB⟩
theorem list_k (g : Nat → Tg) (i D : Nat) (M : Md) (N : Nat) (w : World) (h : DK w g i D M N) (hN : N ≤ 1500) :
    Calls Try.prog 22 #[.pointer (some ⟨D, 0, none⟩)] w fun e w' => ∃ a c l, e = .returned (.slice a l.length c) ∧ Nms M.seen l ∧ OwnS w' w.heap.size a c l ∧ l.length ≤ 1500 ∧ Below w.heap.size w w' := by
  obtain ⟨J, h1, h2, rfl⟩ := h
  exact list_any g i J M w h1 (by have := h2.sn; omega)
#print axioms list_k
end Go.Proofs.Ytkhpjlgbiicdcaa
