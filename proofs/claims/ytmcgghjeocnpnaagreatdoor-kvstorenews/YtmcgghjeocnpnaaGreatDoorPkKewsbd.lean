/-
  disk: List.; seglog: the numbers of a disk's segments (segmentNumbers); dropAll.; seglog: dropAll; a segment that was read, behind all others.; seglog: gather, Open.; seglog: Open.; seglog: Open of a disk that no call made (as in SgX, where the law itself is not at hand).; disk: what always holds of the plain model.
-/
import Derived.Test.YtmcgghjeocnpnaaGreatDoorPkKewsbc
import Derived.Test.YtmcgghjeocnpnaaGreatDoorPkKewsaa
import Derived.Test.YtmcgghjeocnpnaaGreatDoorPkKewsad
section
set_option linter.unusedVariables false
namespace Go.Proofs.YtmcgghjeocnpnaaGreatDoor
open Go.RowKit Go.Maps Go.Sort Go.Shelf

theorem sortsIn (m : Nat) : AnyZ.SortsIn Tryz.prog Tryz.sorted158_ren Fence.wide m :=
  ⟨fun blk off cap ss W hH hblk hsz => callsIn_wide.2 (AnyM.slices_Sort_string Tryz.sort179 blk off cap ss W hH hblk hsz),
   fun p cap W => callsIn_wide.2 (AnyM.slices_Sort_string_none Tryz.sort179 p cap W)⟩
theorem keys_c (mb : Option Nat) (W : World) : Calls Tryz.prog 159 #[.map mb] W fun e w' => e = .returned (.func (.func 180) #[] #[.pointer (some ⟨W.heap.size, 0, none⟩)]) ∧ w' = W.alloc (.cells #[.map mb] 75) :=
  callsIn_wide.1 (AnyZ.keys_in Tryz.keys159 Fence.wide 5 trivial rfl mb W)
set_option maxHeartbeats 1000000 in
theorem sorted_c {H : Type} (b nn : Nat) (D0 : DataW H) (R : Value → Option (DataW H × List MemPlace)) (w : World) (hown : w.ownsMap Tryz.prog 9 R b nn D0) (hmax : Maps.size D0 ≤ maxLen) (hbytes : Maps.size D0 * 16 ≤ 140737488355328) :
    Calls Tryz.prog 158 #[.func (.func 180) #[] #[.pointer (some ⟨w.heap.size, 0, none⟩)]] (w.alloc (.cells #[.map (some b)] 75)) fun e w' => ∃ (v : Value) (ss : List (List UInt8)), e = .returned v ∧ ss.Perm (strKeys D0) ∧
      w'.ownsRow (w.alloc (.cells #[.map (some b)] 75)).heap.size 9 1 v ss.length ((ss.mergeSort (fun x y => decide (x ≤ y))).map encStr) ∧ (v = .slice none 0 0 ↔ ss = []) ∧ Below (w.alloc (.cells #[.map (some b)] 75)).heap.size (w.alloc (.cells #[.map (some b)] 75)) w' := by
  have hbl := hown.lt
  have hseq : SeqGives Fence.wide 2 Tryz.prog 180 #[.pointer (some ⟨w.heap.size, 0, none⟩)] encStr (fun ss => ss.Perm (strKeys D0)) (Maps.size D0) (w.alloc (.cells #[.map (some b)] 75)) :=
    AnyZ.keys_gives (ρ := Tryz.keys159_ren) { Tryz.keys159 with } Fence.wide _ trivial rfl (by omega) w.heap.size b nn D0 _ (by simp) (by simp) (by
      obtain ⟨es, clock, hb, Ft, hs, hD⟩ := hown
      exact ⟨es, clock, (Below.heap_alloc _ _ b hbl).trans hb, Ft, hs, hD⟩)
  exact callsIn_wide.1 (AnyZ.sorted_in Tryz.sorted158 Fence.wide 5 trivial trivial trivial trivial rfl (by omega) (sortsIn _) (enters_of Tryz.func179 (by kernel_rfl) rfl) 180 #[.pointer (some ⟨w.heap.size, 0, none⟩)] trivial (enters_of Tryz.func180 (by kernel_rfl) rfl) _ _ hmax hbytes _ hseq)

/-- A row of strings. -/
def SRow (w : World) (a : Option Addr) (l : List Nm) : Prop :=
  l ≠ [] → ∃ b off, a = some ⟨b, off, none⟩ ∧ ∀ i s, l[i]? = some s → w.cell? ⟨b, off + i, none⟩ = some (.string (str s))
theorem SRow.below {w w' : World} {B : Nat} {a : Option Addr} {l : List Nm} (h : SRow w a l) (hb : Below B w w') (hB : w.heap.size ≤ B) : SRow w' a l := by
  intro hne
  obtain ⟨b, off, rfl, hc⟩ := h hne
  refine ⟨b, off, rfl, fun i s hi => ?_⟩
  rw [hb.cell (Nat.lt_of_lt_of_le (World.block_lt_of_cell? w _ (hc i s hi)) hB)]
  exact hc i s hi
theorem srow_of {w : World} {base n : Nat} {v : Value} {l : List Nm} (h : w.ownsRow base 9 1 v n (l.map encStr)) : ∃ a c, v = .slice a l.length c ∧ SRow w a l := by
  have hlen : l.length = n := by have := h.1; simpa using this
  rcases h.2 with ⟨hv, hn⟩ | ⟨g, cap, cur, hv, hb, hg, hle, hm, hs, ht⟩
  · refine ⟨none, 0, ?_, fun hne => absurd (List.eq_nil_of_length_eq_zero (by omega)) hne⟩
    rw [hv, hlen, hn]
  · refine ⟨some ⟨g, 0, none⟩, cap, by rw [hlen]; exact hv, fun hne => ⟨g, 0, rfl, fun i s hi => ?_⟩⟩
    have hlt := (List.getElem?_eq_some_iff.1 hi).1
    rw [cell_of_row w g (0 + i) cur _ (0, 0) hg, Nat.zero_add]
    have h1 : (cur.toList.take (n * 1))[i]? = (l.map encStr)[i]? := by rw [ht]
    rw [List.getElem?_take, if_pos (by omega), List.getElem?_map, hi] at h1
    simpa [encStr, str] using h1
/-- A row of strings of one's own. -/
def OwnNm (w : World) (base : Nat) (a : Option Addr) (c : Nat) (l : List Nm) : Prop := w.ownsRow base 9 1 (.slice a l.length c) l.length (l.map encStr)
theorem OwnNm.srow {w : World} {base : Nat} {a : Option Addr} {c : Nat} {l : List Nm} (h : OwnNm w base a c l) : SRow w a l := by
  obtain ⟨a', c', e, hs⟩ := srow_of h
  simp only [Value.slice.injEq] at e
  rw [e.1]; exact hs
theorem owns_of {w : World} {base base' n : Nat} {v : Value} {l : List Nm} (h : w.ownsRow base 9 1 v n (l.map encStr)) (hb : base' ≤ base) : ∃ a c, v = .slice a l.length c ∧ OwnNm w base' a c l := by
  obtain ⟨a, c, rfl, hs⟩ := srow_of h
  have hlen : l.length = n := by have := h.1; simpa using this
  subst hlen
  refine ⟨a, c, rfl, h.1, ?_⟩
  rcases h.2 with h0 | ⟨g, cap, cur, hv, hbb, rest⟩
  · exact .inl h0
  · exact .inr ⟨g, cap, cur, hv, Nat.le_trans hb hbb, rest⟩
theorem OwnNm.below {w w' : World} {base : Nat} {a : Option Addr} {c : Nat} {l : List Nm} (h : OwnNm w base a c l) (hb : Below w.heap.size w w') : OwnNm w' base a c l := by
  refine ⟨h.1, ?_⟩
  rcases h.2 with h0 | ⟨g, cap, cur, hv, hbb, hg, rest⟩
  · exact .inl h0
  · exact .inr ⟨g, cap, cur, hv, hbb, by rw [hb.block g (Array.getElem?_eq_some_iff.1 hg).1]; exact hg, rest⟩
theorem OwnNm.lt {w : World} {base : Nat} {a : Option Addr} {c : Nat} {l : List Nm} (h : OwnNm w base a c l) : ∀ k, blk a = some k → base ≤ k := by
  intro k hk
  rcases h.2 with ⟨hv, _⟩ | ⟨g, cap, cur, hv, hbb, _⟩
  · simp only [Value.slice.injEq] at hv; rw [hv.1] at hk; cases hk
  · simp only [Value.slice.injEq] at hv; rw [hv.1] at hk; simp [blk] at hk; omega
theorem OwnNm.none {w : World} {base : Nat} {c : Nat} {l : List Nm} (h : OwnNm w base none c l) : c = 0 := by
  rcases h.2 with ⟨hv, _⟩ | ⟨g, cap, cur, hv, hbb, _⟩
  · simp only [Value.slice.injEq] at hv; exact hv.2.2
  · simp at hv
/-- The names of files, in their order. -/
structure Nms (f : Files) (l : List Nm) : Prop where
  nd : l.Nodup
  so : l.Pairwise (fun x y => x ≤ y)
  mem : ∀ n, n ∈ l ↔ f n ≠ none
theorem Nms.uniq {f : Files} {l l' : List Nm} (h : Nms f l) (h' : Nms f l') : l = l' :=
  List.Perm.eq_of_pairwise (le := fun a b : Nm => a ≤ b) (fun a b _ _ h1 h2 => List.le_antisymm h1 h2) h.so h'.so ((List.perm_ext_iff_of_nodup h.nd h'.nd).2 fun x => by rw [h.mem, h'.mem])
theorem keys_has {w : World} {bm n : Nat} {D : DataW Unit} (hown : w.ownsMap Tryz.prog 9 slE bm n D) : (strKeys D).Nodup ∧ (∀ x, x ∈ strKeys D ↔ Maps.has D (.string x) = true) ∧ (strKeys D).length = Maps.size D := by
  obtain ⟨es, rfl, hpw, _⟩ := hown.entries law
  obtain ⟨es', hD', hko⟩ := hown.keysOf
  obtain rfl : es = es' := by simpa using hD'
  have hk : ∀ p ∈ es, ∃ x, p.1 = .string x := fun p hp => by obtain ⟨v, hv⟩ := hko p hp; obtain ⟨x, _, hx, _⟩ := Maps.keyOf_str Tryz.underlying9 hv; exact ⟨x, hx⟩
  have hst : ∀ p ∈ es, p.1 = .string (strOf p.1) := fun p hp => by obtain ⟨x, hx⟩ := hk p hp; rw [hx]; rfl
  refine ⟨List.pairwise_map.2 (hpw.imp_of_mem fun {p q} hp hq hne e => hne (by rw [hst p hp, hst q hq, e])), fun x => ?_, by simp [strKeys, Maps.size]⟩
  rw [has_eq, List.any_eq_true, strKeys, List.mem_map]
  refine ⟨fun ⟨p, hp, e⟩ => ⟨p, hp, ?_⟩, fun ⟨p, hp, e⟩ => ⟨p, hp, ?_⟩⟩
  · rw [hst p hp, e]; simp [Lit.sameKey]
  · rw [hst p hp] at e; simpa [Lit.sameKey] using e
theorem nms_of {w : World} {g : Nat → Tg} {tr : Nm → Tg} {bm cnt : Nat} {f : Files} {D : DataW Unit} {ss : List Nm} (hown : w.ownsMap Tryz.prog 9 slE bm cnt D) (hF : ∀ n, FE w g (tr n) D n (f n)) (hp : ss.Perm (strKeys D)) : Nms f (ss.mergeSort leB) := by
  obtain ⟨h1, h2, h3⟩ := keys_has hown
  have tr : ∀ a b c : List UInt8, leB a b = true → leB b c = true → leB a c = true := fun a b c h1 h2 => by simp only [leB, decide_eq_true_eq] at *; exact List.le_trans h1 h2
  have tt : ∀ a b : List UInt8, (leB a b || leB b a) = true := fun a b => by simp only [leB, Bool.or_eq_true, decide_eq_true_eq]; exact List.le_total a b
  refine ⟨((List.mergeSort_perm ss leB).trans hp).nodup_iff.2 h1, (List.pairwise_mergeSort tr tt ss).imp (fun h => by simpa [leB] using h), fun n => ?_⟩
  rw [((List.mergeSort_perm ss leB).trans hp).mem_iff, h2]
  rcases hF n with ⟨e1, e2⟩ | ⟨l, x, c, e1, e2, _⟩
  · rw [e1, e2]; simp
  · rw [e1, e2]; simp

set_option maxRecDepth 20000 in
set_option maxHeartbeats 1000000 in
theorem list_any (g : Nat → Tg) (i : Nat) (J : DJ) (M : Md) (w : World) (h : DS w g i J M) (hN : M.seenN ≤ 1500) :
    Calls Tryz.prog 131 #[.pointer (some ⟨J.D, 0, none⟩)] w fun e w' => ∃ a c l, e = .returned (.slice a l.length c) ∧ Nms M.seen l ∧ OwnNm w' w.heap.size a c l ∧ l.length ≤ 1500 ∧ Below w.heap.size w w' := by
  have c2 := h.c2
  obtain ⟨D, hown, hsz, hF⟩ := h.fs
  go_enter Tryz.func131, Tryz.ntmps131
  go_wp2_with fail
  refine (unmade_not J.D J.S w c2).mono ?_
  rintro e w' ⟨rfl, rfl⟩
  go_wp2_with fail
  refine (keys_c _ _).mono ?_
  rintro e w1 ⟨rfl, rfl⟩
  go_wp2_with fail
  refine (sorted_c J.S M.seenN D slE _ hown (by unfold maxLen; omega) (by omega)).mono ?_
  rintro e w2 ⟨v, ss, rfl, hp, hrow, -, hb⟩
  obtain ⟨a, c, rfl, hs⟩ := owns_of (base' := w'.heap.size) hrow (by simp)
  have hn : Nms M.seen (ss.mergeSort (fun x y => decide (x ≤ y))) := nms_of hown hF hp
  have hlen : (ss.mergeSort (fun x y => decide (x ≤ y))).length ≤ 1500 := by
    rw [List.length_mergeSort, hp.length_eq, (keys_has hown).2.2, hsz]; exact hN
  clear hrow
  generalize (ss.mergeSort (fun x y => decide (x ≤ y))) = l at *
  have HN := hide hn
  have HS := hide hs
  have HB : Hid (Below w'.heap.size w' w2) := ((Below.refl _ w').alloc (Nat.le_refl _) _).trans (hb.mono (by simp))
  clear hn hs hb hp hown hF
  go_wp2
  go_ret
  exact ⟨a, c, l, rfl, unhide HN, unhide HS, hlen, unhide HB⟩
theorem list_k (g : Nat → Tg) (i D : Nat) (M : Md) (N : Nat) (w : World) (h : DK w g i D M N) (hN : N ≤ 1500) :
    Calls Tryz.prog 131 #[.pointer (some ⟨D, 0, none⟩)] w fun e w' => ∃ a c l, e = .returned (.slice a l.length c) ∧ Nms M.seen l ∧ OwnNm w' w.heap.size a c l ∧ l.length ≤ 1500 ∧ Below w.heap.size w w' := by
  obtain ⟨J, h1, h2, rfl⟩ := h
  exact list_any g i J M w h1 (by have := h2.sn; omega)
#print axioms list_k
end Go.Proofs.YtmcgghjeocnpnaaGreatDoor
end
section
set_option linter.unusedVariables false
set_option maxRecDepth 1000000
namespace Go.Proofs.YtmcgghjeocnpnaaGreatDoor
open Go.RowKit Go.Maps

theorem cell_litp (w : World) (n : Nat) : (w.alloc (.cells #[.int .i64 (n : Int)] 3)).cell? ⟨w.heap.size, 0, none⟩ = some (.int .i64 (n : Int)) := by
  rw [cell_of_row _ w.heap.size _ #[.int .i64 (n : Int)] 3 (0, 0) (heap_alloc_new w _)]
  rfl
theorem owni_low {w : World} {base base' : Nat} {a : Option Addr} {c : Nat} {l : List Nat} (h : OwnI w base a c l) (hb : base' ≤ base) : OwnI w base' a c l := by
  refine ⟨h.1, ?_⟩
  rcases h.2 with hn | ⟨g, cap, cur, hv, hbb, rest⟩
  · exact .inl hn
  · exact .inr ⟨g, cap, cur, hv, Nat.le_trans hb hbb, rest⟩
theorem fm_take (L : List Nm) (k : Nat) (x : Nm) (h : L[k]? = some x) : (L.take (k + 1)).filterMap numM = (L.take k).filterMap numM ++ (match numM x with | some n => [n] | none => []) := by
  rw [List.take_add_one, h, List.filterMap_append]
  congr 1
  simp only [Option.toList_some, List.filterMap_cons, List.filterMap_nil]
  cases numM x <;> rfl
set_option maxHeartbeats 4000000 in
theorem segNums5 (w0 : World) (g : Nat → Tg) (D : Nat) (M : Md) (N : Nat) (w : World) (hE : EnvS w0) (hL : LW w0 w g) (hd : DK w g 0 D M N) (hN : N ≤ 1500) (hnm : ∀ n, M.seen n ≠ none → n.length ≤ 24) :
    Calls Tryz.prog 100 #[.pointer (some ⟨D, 0, none⟩)] w fun e w' => ∃ (a : Option Addr) (c : Nat) (ns : List Nat) (L : List Nm), e = .returned (.slice a ns.length c) ∧ ns.length ≤ 1500 ∧ Hid (Nms M.seen L ∧ ns = L.filterMap numM) ∧ Hid (OwnI w' w.heap.size a c ns) ∧ Hid (Below w.heap.size w w') := by
  have HLI := hide (list_k g 0 D M N w hd hN)
  have HEE : Hid (∀ v, Below w.heap.size w v → EnvS v) := fun v hb => hE.below (hL.below.trans (hb.mono hL.below.size)) (Nat.le_refl _)
  have HNM := hide hnm
  clear hE hL hd hnm
  go_enter Tryz.func100, Tryz.ntmps100
  go_wp2_with fail
  refine (unhide HLI).mono ?_
  rintro e w1 ⟨a1, c1, L, rfl, hL, hO, hl15, hb1⟩
  have HNS := hide hL
  have HSR := hide hO.srow
  have HB1 := hide hb1
  clear HLI hL hO hb1
  go_wp2_with fail
  go_loopw [3, 11] (fun v i wr => ∃ (k : Nat) (a : Option Addr) (c : Nat) (ns : List Nat), k ≤ L.length ∧ i = .int .i64 (k : Int) ∧ v = .slice a ns.length c ∧ ns.length ≤ k ∧ Hid (ns = (L.take k).filterMap numM) ∧ Hid (OwnI wr w1.heap.size a c ns) ∧ Hid (Below w1.heap.size w1 wr)) (fun _ i _ => L.length - (intOf i).toNat)
  case atStart => exact ⟨0, none, 0, [], Nat.zero_le _, rfl, rfl, Nat.le_refl _, rfl, OwnI.nil _ _, Below.refl _ _⟩
  case round =>
    obtain ⟨k, a, c, ns, hk, rfl, rfl, hnk, HN, HO, HB⟩ := hrel
    by_cases hlt : k < L.length
    · have hlt' : (k : Int) < (L.length : Int) := by omega
      obtain ⟨x, hx⟩ : ∃ x, L[k]? = some x := ⟨_, List.getElem?_eq_getElem hlt⟩
      obtain ⟨b, off, hae, hc⟩ := unhide HSR (by intro e; rw [e] at hx; simp at hx)
      subst hae
      have cx := hc k x hx
      have cxr : wr.cell? ⟨b, off + k, none⟩ = some (.string (str x)) := by rw [(unhide HB).cell (World.block_lt_of_cell? w1 _ cx)]; exact cx
      have hxl : x.length ≤ 24 := unhide HNM x (((unhide HNS).mem x).1 (List.mem_of_getElem? hx))
      have HNO := hide (numberOf_any x wr (by omega) (unhide HEE wr ((unhide HB1).trans ((unhide HB).mono (unhide HB1).size))))
      have HTK := hide (fm_take L k x hx)
      clear hc cx hx
      go_wp2_with fail
      refine (unhide HNO).mono ?_
      rintro e w2 ⟨n, bb, rfl, HV, HB2'⟩
      have hB2 := (unhide HB).trans ((unhide HB2').mono (unhide HB).size)
      have hO2 := (unhide HO).below (unhide HB2') (Nat.le_refl _)
      clear HNO HO HB HB2' cxr
      cases bb with
      | false =>
        have HN2 : Hid (ns = (L.take (k + 1)).filterMap numM) := by
          have e := unhide HV
          simp only [Bool.false_eq_true, false_and, true_and, false_or] at e
          show _ = _
          rw [unhide HTK, e, unhide HN]
          simp
        have HO2 := hide hO2
        have HB2 := hide hB2
        clear HV HTK hO2 hB2 HN
        go_wp2_with fail
        go_roundw
        case rel => exact ⟨k + 1, a, c, ns, by omega, by go_num, rfl, by omega, HN2, HO2, HB2⟩
        case measure => simp [intOf]; omega
      | true =>
        have HN2 : Hid (ns ++ [n] = (L.take (k + 1)).filterMap numM) := by
          have e := unhide HV
          simp only [true_and, Bool.true_eq_false, false_and, or_false] at e
          show _ = _
          rw [unhide HTK, e, unhide HN]
        have hz2 := hB2.size
        clear HV HTK HN
        go_wp2_with (at_builtin; refine wp_appi _ rfl _ _ rfl w1.heap.size a c ns rfl (hO2.alloc _) w2.heap.size 1 n rfl (cell_litp _ _) ?c5 ?c6 ?_)
        case c5 => omega
        case c6 => first | omega | (simp; omega)
        intro a4 c4 ns4 w4 hr4 ho4 hg4
        have HB4 : Hid (Below w1.heap.size w1 w4) := below_grown (hB2.alloc hB2.size _) hg4 (Nat.le_refl _) (fun k hk => (hO2.lt k hk).1)
        have HO4 := hide ho4
        have HN4 : Hid (ns4 = (L.take (k + 1)).filterMap numM) := by show _ = _; rw [unhide hr4]; exact unhide HN2
        have hl4 : ns4.length ≤ k + 1 := by rw [unhide hr4]; simp; omega
        clear hr4 ho4 hg4 hO2 hB2 hz2 HN2
        go_wp2_with fail
        go_roundw
        case rel => exact ⟨k + 1, a4, c4, ns4, by omega, by go_num, rfl, hl4, HN4, HO4, HB4⟩
        case measure => simp [intOf]; omega
    · obtain rfl : k = L.length := by omega
      have HF : Hid (Nms M.seen L ∧ ns = L.filterMap numM) := ⟨unhide HNS, by have := unhide HN; rw [List.take_length] at this; exact this⟩
      have HO2 : Hid (OwnI wr w.heap.size a c ns) := owni_low (unhide HO) (unhide HB1).size
      have HBF : Hid (Below w.heap.size w wr) := (unhide HB1).trans ((unhide HB).mono (unhide HB1).size)
      clear HN
      go_wp2_with fail
      go_ret
      exact ⟨a, c, ns, L, rfl, by omega, HF, HO2, HBF⟩
#print axioms segNums5
end Go.Proofs.YtmcgghjeocnpnaaGreatDoor
end
section
set_option linter.unusedVariables false
set_option maxRecDepth 1000000
namespace Go.Proofs.YtmcgghjeocnpnaaGreatDoor
open Go.RowKit Go.Maps

/-- No two segments begin with one number. -/
def Apart (S : List Sg) : Prop := ∀ (i j : Nat) (s t : Sg), i < j → S[i]? = some s → S[j]? = some t → s.first ≠ t.first
theorem There.dropped2 {M : Md} {S : List Sg} (h : There M S) (wf : Apart S) (k : Nat) {s : Sg} (hs : S[k]? = some s) : (drM M S k).thereE (nmS s.first) = 0 := by
  obtain ⟨h1, h2⟩ := h s (List.mem_of_getElem? hs)
  unfold Md.thereE
  rw [if_pos (nmS_name _ h2), drM_seen M S _ k (fun i u hi hu e => ?_), if_pos h1]
  exact wf i k u s hi hu hs (nmS_inj (h u (List.mem_of_getElem? hu)).2 h2 e.symm)
set_option maxHeartbeats 4000000 in
theorem dropAll5 (w0 : World) (g : Nat → Tg) (B D : Nat) (P : Option Addr) (pc : Nat) (l : List Gt) (S : List Sg) (M : Md) (N : Nat) (w : World) (hE : EnvS w0) (hL : LW w0 w g) (h : LgS w g B D P pc l S) (hd : DK w g 0 D M N) (hlen : S.length ≤ 1000000) (hN : N + S.length ≤ 1400) (wf : Apart S) (hth : There M S) :
    Calls Tryz.prog 101 #[.pointer (some ⟨B, 0, none⟩)] w fun e w' => e = .returned (.int .i64 0) ∧ Hid (RL w w' g B D (drM M S S.length) (N + S.length) []) := by
  have HH := hide h
  have HD := hide hd
  have HEE := hide hE
  have HLW := hide hL
  have HWF := hide wf
  have HTH := hide hth
  clear h hd hE hL wf hth
  go_enter Tryz.func101, Tryz.ntmps101
  go_wp2_with fail
  go_loopw [3] (fun v wr => ∃ (k : Nat) (g' : Nat → Tg) (P : Option Addr) (pc : Nat) (l : List Gt), k ≤ S.length ∧ Hid (LgS wr g' B D P pc l (S.drop k)) ∧ Hid (DK wr g' 0 D (drM M S k) (N + k)) ∧ Hid (St w wr g g' X01)) (fun _ wr => match wr.cell? ⟨B, 1, none⟩ with | some (.slice _ n _) => n | _ => 0)
  case atStart => exact ⟨0, g, P, pc, l, Nat.zero_le _, HH, HD, St.refl _ _ _⟩
  case round =>
    clear HH HD
    obtain ⟨k, g', P', pc', l', hk, HH, HD, HS⟩ := hrel
    have c1 := (unhide HH).c1
    rw [(unhide HH).n] at c1
    have c0 := (unhide HH).c0
    obtain ⟨m, hm⟩ : ∃ m, m = (S.drop k).length := ⟨_, rfl⟩
    rw [← hm] at c1
    have hmk : m + k = S.length := by rw [hm]; simp; omega
    have HMK := hide hmk
    by_cases h0 : 0 < m
    · have h0' : (0 : Int) < (m : Int) := by omega
      obtain ⟨s0, hs0⟩ : ∃ s0, (S.drop k)[0]? = some s0 := ⟨_, List.getElem?_eq_getElem (by omega)⟩
      have hSk : S[k]? = some s0 := by rw [List.getElem?_drop] at hs0; simpa using hs0
      have hft : s0.first ≤ 9223372036854775807 := (unhide HTH s0 (List.mem_of_getElem? hSk)).2
      have HDF := hide (dropF5 w0 g' B D P' pc' l' (S.drop k) s0 (drM M S k) (N + k) wr (unhide HEE) ((unhide HLW).st2 (unhide HS) x01o) (unhide HH) (unhide HD) (by simp; omega) (by omega) hs0 hft ((unhide HTH).dropped2 (unhide HWF) k hSk))
      have HDS : Hid (drM M S (k + 1) = (drM M S k).drop (nmS s0.first) ∧ (S.drop k).drop 1 = S.drop (k + 1)) := ⟨drM_succ M S k s0 hSk, by rw [List.drop_drop]⟩
      clear hs0 hSk hm
      go_wp2_with fail
      refine (unhide HDF).mono ?_
      rintro e v2 ⟨rfl, HRL⟩
      rw [← (unhide HDS).1, (unhide HDS).2] at HRL
      obtain ⟨g2, P2, pc2, l2, y1, y2, y3⟩ := unhide HRL
      have HY := hide (And.intro y1 (And.intro y2 y3))
      clear HDF y1 y2 y3 HRL
      go_wp2_with fail
      go_roundw
      case rel => exact ⟨k + 1, g2, P2, pc2, l2, by omega, (unhide HY).1, (unhide HY).2.1, (unhide HS).trans (unhide HY).2.2⟩
      case measure =>
        have hc2 := (unhide HY).1.c1
        rw [(unhide HY).1.n] at hc2
        rw [hc2, c1]
        simp only [List.length_drop]
        have := unhide HMK
        omega
    · have h0' : ¬ (0 : Int) < (m : Int) := by omega
      have HF : Hid (RL w wr g B D (drM M S S.length) (N + S.length) []) := by
        have hkl : k = S.length := by omega
        subst hkl
        have := unhide HH
        rw [List.drop_length] at this
        exact ⟨g', P', pc', l', this, unhide HD, unhide HS⟩
      clear hm
      go_wp2_with fail
      go_ret
      exact ⟨rfl, HF⟩
#print axioms dropAll5
/-- A segment in memory, put behind all others. -/
theorem LgS.addS {w w1 : World} {g : Nat → Tg} {B D : Nat} {P : Option Addr} {pc : Nat} {l : List Gt} {S : List Sg} {o : Obj} {R c : Nat} {t : Gt} {s : Sg} (h : LgS w g B D P pc l S) (hsg : Seg w g t s) (ho : OwnG w1 (some ⟨R, 0, none⟩) c (l ++ [t])) (hg : (w.alloc o).grownBy w1 (blk P)) (hl : blk P = some R ∨ R = (w.alloc o).heap.size) :
    ∃ g', LgS (w1.setCell ⟨B, 1, none⟩ (.slice (some ⟨R, 0, none⟩) (l.length + 1) c)) g' B D (some ⟨R, 0, none⟩) c (l ++ [t]) (S ++ [s]) ∧ St w (w1.setCell ⟨B, 1, none⟩ (.slice (some ⟨R, 0, none⟩) (l.length + 1) c)) g g' (fun t => t.of 1) := by
  have hb : Below w.heap.size w (w.alloc o) := (Below.refl _ _).alloc (Nat.le_refl _) _
  let g' : Nat → Tg := fun b => if b < w.heap.size then g b else .p 1
  have hg' : ∀ b, b < w.heap.size → g' b = g b := fun b hb => if_pos hb
  have hk : ∀ j, j ≠ B → (w1.setCell ⟨B, 1, none⟩ (.slice (some ⟨R, 0, none⟩) (l.length + 1) c)).heap[j]? = w1.heap[j]? := fun j hj => Below.heap_setCell _ ⟨B, 1, none⟩ _ j hj
  have hRB : R ≠ B := by
    rcases hl with e | e
    · intro e2; have := h.gP R e; rw [e2, h.gB] at this; cases this
    · have := hb.size; have := h.lt; omega
  have hgR : g' R = .p 1 := by
    rcases hl with e | e
    · rw [hg' R (h.ow.lt R e)]; exact h.gP R e
    · exact if_neg (by have := hb.size; omega)
  have hw1 : ∀ j, j < w.heap.size → g j ≠ .p 1 → w1.heap[j]? = w.heap[j]? := fun j hj hp => (hg.block j (Nat.lt_of_lt_of_le hj hb.size) (fun e => hp (h.gP j e.symm))).trans (hb.block j hj)
  have hst : St w (w1.setCell ⟨B, 1, none⟩ (.slice (some ⟨R, 0, none⟩) (l.length + 1) c)) g g' (fun t => t.of 1) := ⟨hg.os.trans hb.os, hg.tape.trans hb.tape, hg.output.trans hb.output, by simpa [World.setCell] using Nat.le_trans hb.size hg.size, fun j hj hn => (hk j (fun e => hn (by rw [e, h.gB]; rfl))).trans (hw1 j hj (fun e => hn (by rw [e]; rfl))), fun j hj => hg' j hj⟩
  have hsame : ∀ j, j < w.heap.size → g j ≠ .p 1 → g j ≠ .d 1 → (w1.setCell ⟨B, 1, none⟩ (.slice (some ⟨R, 0, none⟩) (l.length + 1) c)).heap[j]? = w.heap[j]? := fun j hj h1 h2 => (hk j (fun e => h2 (by rw [e]; exact h.gB))).trans (hw1 j hj h1)
  have hseg : ∀ t s, Seg w g t s → Seg (w1.setCell ⟨B, 1, none⟩ (.slice (some ⟨R, 0, none⟩) (l.length + 1) c)) g' t s := fun t s sg => by
    obtain ⟨vs, a1, a2⟩ := sg.vs
    refine ⟨sg.f, sg.z, sg.n, ⟨vs, a1.same9 (fun j hj => hsame j (a1.lt j hj).2 (by rw [sg.gr j hj]; intro e; cases e) (by rw [sg.gr j hj]; intro e; cases e)), ⟨a2.n, fun j y q h1 h2 => ?_⟩⟩, fun j hj => (hg' j (a1.lt j hj).2).trans (sg.gr j hj)⟩
    obtain ⟨b1, b2, b3⟩ := a2.at' j y q h1 h2
    exact ⟨b1, b2.same9 (fun k hk2 => hsame k (b3 k hk2).1 (by rw [(b3 k hk2).2]; intro e; cases e) (by rw [(b3 k hk2).2]; intro e; cases e)), fun k hk2 => ⟨Nat.lt_of_lt_of_le (b3 k hk2).1 hst.size, (hg' k (b3 k hk2).1).trans (b3 k hk2).2⟩⟩
  refine ⟨g', ⟨?_, (hg' B h.lt).trans h.gB, fun j hj => by simp [blk] at hj; subst hj; exact hgR, ho.same (fun j hj => hk j (by simp [blk] at hj; omega)), by simp [h.n], fun i t2 s2 ht hs => ?_⟩, hst⟩
  · rw [heap_setCell_same _ _ _ _ _ _ ((h.grB hg).trans h.st), List.length_append]; rfl
  · by_cases hi : i < l.length
    · rw [List.getElem?_append_left hi] at ht
      rw [List.getElem?_append_left (by rw [← h.n]; exact hi)] at hs
      exact hseg _ _ (h.sg i t2 s2 ht hs)
    · have hi2 := (List.getElem?_eq_some_iff.1 ht).1
      simp at hi2
      obtain rfl : i = l.length := by omega
      rw [List.getElem?_append_right (Nat.le_refl _), Nat.sub_self] at ht
      rw [h.n, List.getElem?_append_right (Nat.le_refl _), Nat.sub_self] at hs
      simp at ht hs
      subst ht
      subst hs
      exact hseg _ _ hsg
/-- A segment whose rows are new, with the tags that a log wants. -/
theorem NewR.seg {w0 w : World} {g : Nat → Tg} {s : Sg} {rp : Option Addr} {rc : Nat} {vs : List Sl} (h : NewR w w0.heap.size rp rc vs s.recs) (hb : Below w0.heap.size w0 w) :
    ∃ g', St w0 w g g' (fun _ => False) ∧ Seg w g' ⟨s.first, (rp, s.recs.length, rc), s.size⟩ s ∧ ∀ k, w0.heap.size ≤ k → g' k = tgR s.first ∨ g' k = .s 1 := by
  let g' : Nat → Tg := fun b => if b < w0.heap.size then g b else if blk rp = some b then tgR s.first else .s 1
  refine ⟨g', (St.ofBelow g _ hb).tag (fun k hk => if_pos hk), ⟨rfl, rfl, rfl, ⟨vs, h.ow, ⟨h.n, fun j v r h1 h2 => ?_⟩⟩, fun k hk => ?_⟩, fun k hk => ?_⟩
  · obtain ⟨a, b, c⟩ := h.at' j v r h1 h2
    refine ⟨a, b, fun k hk => ⟨(c k hk).2.1, ?_⟩⟩
    show (if k < w0.heap.size then g k else if blk rp = some k then tgR s.first else .s 1) = _
    rw [if_neg (by have := (c k hk).1; omega), if_neg (c k hk).2.2]
  · show (if k < w0.heap.size then g k else if blk rp = some k then tgR s.first else .s 1) = _
    rw [if_neg (by have := h.lo k hk; omega), if_pos hk]
  · show (if k < w0.heap.size then g k else if blk rp = some k then tgR s.first else .s 1) = _ ∨ (if k < w0.heap.size then g k else if blk rp = some k then tgR s.first else .s 1) = _
    rw [if_neg (by omega)]
    by_cases e : blk rp = some k
    · left; rw [if_pos e]
    · right; rw [if_neg e]
#print axioms LgS.addS
end Go.Proofs.YtmcgghjeocnpnaaGreatDoor
end
section
set_option linter.unusedVariables false
set_option maxRecDepth 1000000
namespace Go.Proofs.YtmcgghjeocnpnaaGreatDoor
open Go.RowKit Go.Maps

/-- What was read of a disk so far: the disk, the segments, whether the last one is whole. -/
abbrev Ga := Md × List Sg × Bool
def gaD (x : Ga) (n : Nat) : Md × List Sg := if n ≠ nxS x.2.1 ∨ x.2.2 = false then (drM x.1 x.2.1 x.2.1.length, []) else (x.1, x.2.1)
def gaT (x : Ga) (n : Nat) : Ga := ((gaD x n).1, (gaD x n).2 ++ [rdS n ((gaD x n).1.readB (nmS n))], decide ((rdS n ((gaD x n).1.readB (nmS n))).size = ((gaD x n).1.readB (nmS n)).length))
def ga (M : Md) (ns : List Nat) : Ga := ns.foldl gaT (M, [], true)
theorem ga_succ (M : Md) (ns : List Nat) (k n : Nat) (h : ns[k]? = some n) : ga M (ns.take (k + 1)) = gaT (ga M (ns.take k)) n := by
  unfold ga
  rw [List.take_add_one, h, List.foldl_append]
  rfl
/-- What a step of gather wants. -/
structure GaOk (x : Ga) (n : Nat) : Prop where
  ok : SOk x.2.1
  th : There x.1 x.2.1
  ap : Apart x.2.1
  n1 : n ≤ 9223372036854775807
  te : (gaD x n).1.thereE (nmS n) = 0
  bl : ((gaD x n).1.readB (nmS n)).length ≤ 6000000
theorem grown_undrew {w w1 : World} {o : Obj} {row : Option Nat} (h : (w.alloc o).drew.grownBy w1 row) : (w.alloc o).grownBy w1 row := ⟨h.os, h.tape, h.output, h.size, h.block⟩
/-- Behind the last one, it is cut. -/
def gaC (x : Ga) : Md := match x.2.1.getLast? with | some s => x.1.cut (nmS s.first) (s.size : Int) | none => x.1
def gaE (x : Ga) : Int := match x.2.1.getLast? with | some s => x.1.cutE (nmS s.first) (s.size : Int) | none => 0
set_option maxHeartbeats 16000000 in
theorem gather5 (w0 : World) (g : Nat → Tg) (B D : Nat) (M : Md) (N : Nat) (w : World) (hE : EnvS w0) (hL : LW w0 w g) (h : LgS w g B D none 0 [] []) (hd : DK w g 0 D M N) (hN : N ≤ 1000) (hnm : ∀ n, M.seen n ≠ none → n.length ≤ 24)
    (hgo : ∀ L, Nms M.seen L → (L.filterMap numM).length ≤ 300 ∧ (∀ i n, (L.filterMap numM)[i]? = some n → GaOk (ga M ((L.filterMap numM).take i)) n) ∧ SOk (ga M (L.filterMap numM)).2.1) :
    Calls Tryz.prog 74 #[.pointer (some ⟨B, 0, none⟩)] w fun e w' => ∃ L, Hid (Nms M.seen L) ∧ e = .returned (.int .i64 (gaE (ga M (L.filterMap numM)))) ∧ Hid (RL w w' g B D (gaC (ga M (L.filterMap numM))) (N + 301) (ga M (L.filterMap numM)).2.1) := by
  have c0 := h.c0
  have HSN := hide (segNums5 w0 g D M N w hE hL hd (by omega) hnm)
  have HH0 := hide h
  have HD0 := hide hd
  have HEE := hide hE
  have HLW := hide hL
  have HGG := hide hgo
  clear h hd hE hL hgo hnm
  go_enter Tryz.func74, Tryz.ntmps74
  go_wp2_with fail
  refine (unhide HSN).mono ?_
  rintro e w1 ⟨a, c, ns, L, rfl, _, HNL, HOI, HB1⟩
  obtain ⟨hns3, hgk, hsk⟩ := unhide HGG L (unhide HNL).1
  rw [← (unhide HNL).2] at hns3 hgk hsk
  have HGK := hide hgk
  have HSK := hide hsk
  have HNE : Hid (ns = L.filterMap numM) := (unhide HNL).2
  have HNM : Hid (Nms M.seen L) := (unhide HNL).1
  let g0 : Nat → Tg := fun b => if b < w.heap.size then g b else .o
  have st0 : St w w1 g g0 (fun _ => False) := (St.ofBelow g _ (unhide HB1)).tag (fun k hk => if_pos hk)
  have HH1 := hide ((unhide HH0).keep st0 (fun _ _ e => e))
  have HD1 := hide ((unhide HD0).keep1 (st0.mono (fun t e => e.elim)))
  have HLW1 := hide ((unhide HLW).st2 st0 (fun e => e))
  have HST0 : Hid (St w w1 g g0 X01) := st0.mono (fun t e => e.elim)
  have HNC : Hid (∀ (wr : World) (g' : Nat → Tg), St w1 wr g0 g' X01 → ∀ (k n : Nat), ns[k]? = some n → ∃ b, a = some ⟨b, 0, none⟩ ∧ wr.cell? ⟨b, k, none⟩ = some (.int .i64 (n : Int))) := fun wr g' x k n hk => by
    have hlt := (List.getElem?_eq_some_iff.1 hk).1
    obtain ⟨b, hae, hbl, _, hc⟩ := (unhide HOI).some (by omega)
    refine ⟨b, hae, x.cell ?_ ?_⟩
    · have := hc k hlt
      rw [show ns.getD k 0 = n by rw [List.getD_eq_getElem?_getD, hk]; rfl] at this
      exact this
    · have : g0 b = .o := if_neg (by omega)
      rw [this]; exact x01o
  clear HSN hgk hsk HGG HNL c0 st0 HH0 HD0 HLW
  generalize g0 = g0' at *
  clear g0
  obtain ⟨g0, hg0⟩ : ∃ g0, g0 = g0' := ⟨_, rfl⟩
  rw [← hg0] at HH1 HD1 HLW1 HST0 HNC
  clear hg0 g0'
  go_wp2_with fail
  go_loopw [3, 17] (fun v i wr => ∃ (k : Nat) (g' : Nat → Tg) (P : Option Addr) (pc : Nat) (l : List Gt) (q : Nat), k ≤ ns.length ∧ i = .int .i64 (k : Int) ∧ v = .bool (ga M (ns.take k)).2.2 ∧ q + (ga M (ns.take k)).2.1.length ≤ k ∧ Hid (LgS wr g' B D P pc l (ga M (ns.take k)).2.1) ∧ Hid (DK wr g' 0 D (ga M (ns.take k)).1 (N + q)) ∧ Hid (St w1 wr g0 g' X01)) (fun _ i _ => ns.length - (intOf i).toNat)
  case atStart => exact ⟨0, g0, none, 0, [], 0, Nat.zero_le _, rfl, rfl, Nat.le_refl _, HH1, HD1, St.refl _ _ _⟩
  case round =>
    clear HH1 HD1
    obtain ⟨i, g', P', pc', l', q0, hi, rfl, rfl, hqi, HH, HD, HS⟩ := hrel
    by_cases hlt : i < ns.length
    · have hlt' : (i : Int) < (ns.length : Int) := by omega
      obtain ⟨n, hn⟩ : ∃ n, ns[i]? = some n := ⟨_, List.getElem?_eq_getElem hlt⟩
      obtain ⟨bI, hae, cI⟩ := unhide HNC wr g' (unhide HS) i n hn
      subst hae
      have HGO := hide (unhide HGK i n hn)
      have HGS := hide (ga_succ M ns i n hn)
      generalize ga M (ns.take i) = x at *
      obtain ⟨DD, hDD⟩ : ∃ DD, DD = gaD x n := ⟨_, rfl⟩
      obtain ⟨fb, hfb⟩ : ∃ fb, fb = DD.1.readB (nmS n) := ⟨_, rfl⟩
      have HFB : Hid (DD.1.readB (nmS n) = fb) := hfb.symm
      have HTE : Hid (DD.1.thereE (nmS n) = 0) := by rw [hDD]; exact (unhide HGO).te
      have hfb6 : fb.length ≤ 6000000 := by rw [hfb, hDD]; exact (unhide HGO).bl
      have HGA1 : Hid (ga M (ns.take (i + 1)) = (DD.1, DD.2 ++ [rdS n fb], decide ((rdS n fb).size = fb.length))) := by
        show _ = _
        rw [unhide HGS, hfb, hDD]; rfl
      have HNX := hide (next5 g' B D P' pc' l' x.2.1 wr (unhide HH) (unhide HGO).ok)
      obtain ⟨nx, hnx⟩ : ∃ nx, nx = nxS x.2.1 := ⟨_, rfl⟩
      rw [← hnx] at HNX
      have hxl := (unhide HGO).ok.len
      have HDD2 : Hid (gaD x n = if n ≠ nx ∨ x.2.2 = false then (drM x.1 x.2.1 x.2.1.length, []) else (x.1, x.2.1)) := by rw [hnx]; rfl
      have HDE := hide hDD
      have HDA : Hid (∀ v, Below wr.heap.size wr v → Calls Tryz.prog 101 #[.pointer (some ⟨B, 0, none⟩)] v fun e v' => e = .returned (.int .i64 0) ∧ Hid (RL v v' g' B D (drM x.1 x.2.1 x.2.1.length) (N + q0 + x.2.1.length) [])) := fun v hb => dropAll5 w0 g' B D P' pc' l' x.2.1 x.1 (N + q0) v (unhide HEE) (((unhide HLW1).st2 (unhide HS) x01o).bel hb) ((unhide HH).below hb) ((unhide HD).below hb) hxl (by omega) (unhide HGO).ap (unhide HGO).th
      clear hn hDD hfb hnx HGS
      generalize hwv : x.2.2 = wh at *
      have HWV := hide hwv
      clear hwv
      by_cases hdr : n ≠ nx ∨ wh = false
      · have hD1 : DD = (drM x.1 x.2.1 x.2.1.length, []) := by rw [unhide HDE, unhide HDD2, if_pos hdr]
        obtain ⟨q, hq⟩ : ∃ q, q = q0 + x.2.1.length := ⟨_, rfl⟩
        have hq1 : q + DD.2.length ≤ i := by rw [hD1]; simp; omega
        have hDl : DD.2.length ≤ 1000000 := by rw [hD1]; simp
        have HQ : Hid (drM x.1 x.2.1 x.2.1.length = DD.1 ∧ ([] : List Sg) = DD.2 ∧ N + q0 + x.2.1.length = N + q) := ⟨by rw [hD1], by rw [hD1], by omega⟩
        have hqN : N + q ≤ 1400 := by omega
        clear hD1 hq HDE HDD2
        by_cases hne : n = nx
        · obtain rfl : wh = false := by
            rcases hdr with h | h
            · exact absurd hne h
            · exact h
          have e5 : ((n : Int) != (nx : Int)) = false := by rw [hne]; simp
          clear hdr hne
          go_wp2_with fail
          refine (unhide HNX).mono ?_
          rintro e v1 ⟨rfl, HBv⟩
          clear HNX
          go_wp2_with fail
          refine (unhide HDA _ (unhide HBv)).mono ?_
          rintro e y1 ⟨rfl, HRLv⟩
          have HRL1 : Hid (RL wr y1 g' B D DD.1 (N + q) DD.2) := by
            have h1 := RL.from (St.ofBelow g' X01 (unhide HBv)) (unhide HRLv)
            rw [(unhide HQ).1, (unhide HQ).2.1, (unhide HQ).2.2] at h1
            exact h1
          clear HDA HRLv cI
          obtain ⟨g1, P1, pc1, l1, hh1, hd1, st1⟩ := unhide HRL1
          have k0y1 : y1.cell? ⟨B, 0, none⟩ = some (.pointer (some ⟨D, 0, none⟩)) := hh1.c0
          have hL1 := ((unhide HLW1).st2 (unhide HS) x01o).st2 st1 x01o
          have HNO : Hid (∀ v, Below y1.heap.size y1 v → Calls Tryz.prog 88 #[.int .i64 (n : Int)] v fun e v' => e = .returned (.string (str (nmS n))) ∧ Hid (Below v.heap.size v v')) := fun v hb => nameOf_any n v (unhide HGO).n1 ((unhide HEE).below (hL1.below.trans (hb.mono hL1.below.size)) (Nat.le_refl _))
          have HRD : Hid (∀ v, Below y1.heap.size y1 v → Calls Tryz.prog 102 #[.pointer (some ⟨D, 0, none⟩), .string (str (nmS n))] v fun e v' => ∃ y cy, e = .returned (.tuple #[.slice y fb.length cy, .int .i64 0]) ∧ Hid (OwnB v' v.heap.size y cy fb) ∧ Hid (Below v.heap.size v v')) := fun v hb => by
            have := read_k g1 0 D DD.1 (N + q) (nmS n) v (hd1.below hb) (by omega) (nm_max _ (unhide HGO).n1)
            rw [unhide HFB, unhide HTE] at this
            exact this.mono (fun e w' h => by obtain ⟨y, cy, h1, h2, h3⟩ := h; exact ⟨y, cy, h1, h2, h3⟩)
          have HH1 := hide hh1
          have HD1 := hide hd1
          have HS1 : Hid (St w1 y1 g0 g1 X01) := (unhide HS).trans st1
          clear hh1 hd1 st1 hL1 HRL1
          go_upto_region 9 with fail
          refine wp_region_held_drew (S := fun w' => w'.cell? ⟨B, 0, none⟩ = some (.pointer (some ⟨D, 0, none⟩))) (by kernel_rfl) k0y1 (fun hHeld => ?_)
          refine wpAnyH_take (i := 0) (oi := ?_) (v := ?_) ?_ (by kernel_rfl) ?_ ?_ ?_ ?_ hHeld ?_
          rotate_left 2
          · (simp only [List.getElem?_toArray, List.getElem?_cons_zero]) <;> with_reducible rfl
          · kernel_rfl
          · kernel_rfl
          · exact fun _ _ _ h => h
          · exact Or.inl ⟨by rfl, by (intro w hSw; (try dsimp only at hSw); go_simp <;> with_reducible rfl)⟩
          simp only [Act.put, List.setIfInBounds_toArray, List.set_cons_zero, List.set_cons_succ]
          refine wpAnyH_take (i := 1) (oi := ?_) (v := ?_) ?_ (by kernel_rfl) ?_ ?_ ?_ ?_ hHeld ?_
          rotate_left 2
          · (simp only [List.getElem?_toArray, List.getElem?_cons_succ, List.getElem?_cons_zero]) <;> with_reducible rfl
          · kernel_rfl
          · kernel_rfl
          · exact fun _ _ _ h => h
          · exact Or.inl ⟨by rfl, by (intro w hSw; (try dsimp only at hSw); go_simp <;> with_reducible rfl)⟩
          simp only [Act.put, List.setIfInBounds_toArray, List.set_cons_zero, List.set_cons_succ]
          refine wpAnyH_take (i := 2) (oi := ?_) (v := ?_) ?_ (by kernel_rfl) ?_ ?_ ?_ ?_ hHeld ?_
          rotate_left 2
          · (simp only [List.getElem?_toArray, List.getElem?_cons_succ, List.getElem?_cons_zero]) <;> with_reducible rfl
          · kernel_rfl
          · kernel_rfl
          · exact fun _ _ _ h => h
          · exact Or.inl ⟨by rfl, by (intro w hSw; (try dsimp only at hSw); go_simp <;> with_reducible rfl)⟩
          simp only [Act.put, List.setIfInBounds_toArray, List.set_cons_zero, List.set_cons_succ]
          refine wpAnyH_take (i := 3) (oi := ?_) (v := ?_) ?_ (by kernel_rfl) ?_ ?_ ?_ ?_ hHeld ?_
          rotate_left 2
          · (simp only [List.getElem?_toArray, List.getElem?_cons_succ, List.getElem?_cons_zero]) <;> with_reducible rfl
          · kernel_rfl
          · kernel_rfl
          · exact fun _ _ _ h => h
          · exact Or.inl ⟨by rfl, by (intro w hSw; (try dsimp only at hSw); go_simp <;> with_reducible rfl)⟩
          simp only [Act.put, List.setIfInBounds_toArray, List.set_cons_zero, List.set_cons_succ]
          refine wpAnyH_take (i := 4) (oi := ?_) (v := ?_) ?_ (by kernel_rfl) ?_ ?_ ?_ ?_ hHeld ?_
          rotate_left 2
          · (simp only [List.getElem?_toArray, List.getElem?_cons_succ, List.getElem?_cons_zero]) <;> with_reducible rfl
          · kernel_rfl
          · kernel_rfl
          · exact fun _ _ _ h => h
          · exact Or.inl ⟨by rfl, by (intro w hSw; (try dsimp only at hSw); go_simp <;> with_reducible rfl)⟩
          simp only [Act.put, List.setIfInBounds_toArray, List.set_cons_zero, List.set_cons_succ]
          refine wpAnyH_ready (rs := [5]) (by kernel_rfl) (by simp) (AllReadyH.cons (o := ?_) ?_ (fun K hK => ?_) AllReadyH.nil)
          rotate_left 1
          · (simp only [List.getElem?_toArray, List.getElem?_cons_succ, List.getElem?_cons_zero]) <;> with_reducible rfl
          go_simp
          refine (unhide HNO _ (Below.refl _ _).drew).mono ?_
          rintro e x1 ⟨rfl, HBx1'⟩
          have HBx1 : Hid (Below y1.heap.size y1 x1) := ((Below.refl y1.heap.size y1).drew).trans ((unhide HBx1').mono (Nat.le_refl _))
          have k0x1 : x1.cell? ⟨B, 0, none⟩ = some (.pointer (some ⟨D, 0, none⟩)) := by rw [(unhide HBx1).cell (World.block_lt_of_cell? y1 _ k0y1)]; exact k0y1
          clear HBx1' hHeld
          refine hK.out _ _ k0x1 (fun hHeld => ?_)
          clear hK K
          try simp only [Act.put, List.setIfInBounds_toArray, List.set_cons_zero, List.set_cons_succ]
          refine wpAnyH_ready (rs := [6]) (by kernel_rfl) (by simp) (AllReadyH.cons (o := ?_) ?_ (fun K hK => ?_) AllReadyH.nil)
          rotate_left 1
          · (simp only [List.getElem?_toArray, List.getElem?_cons_succ, List.getElem?_cons_zero]) <;> with_reducible rfl
          go_simp
          refine (unhide HRD _ (unhide HBx1)).mono ?_
          rintro e x2 ⟨ya, yc, rfl, HOY, HBx2'⟩
          have HBx2 : Hid (Below y1.heap.size y1 x2) := (unhide HBx1).trans ((unhide HBx2').mono (unhide HBx1).size)
          have k0x2 : x2.cell? ⟨B, 0, none⟩ = some (.pointer (some ⟨D, 0, none⟩)) := by rw [(unhide HBx2).cell (World.block_lt_of_cell? y1 _ k0y1)]; exact k0y1
          clear HBx2' hHeld
          refine hK.out _ _ k0x2 (fun hHeld => ?_)
          clear hK K
          try simp only [Act.put, List.setIfInBounds_toArray, List.set_cons_zero, List.set_cons_succ]
          refine wpAnyH_take (i := 7) (oi := ?_) (v := ?_) ?_ (by kernel_rfl) ?_ ?_ ?_ ?_ hHeld ?_
          rotate_left 2
          · (simp only [List.getElem?_toArray, List.getElem?_cons_succ, List.getElem?_cons_zero]) <;> with_reducible rfl
          · kernel_rfl
          · kernel_rfl
          · exact fun _ _ _ h => h
          · exact Or.inl ⟨by rfl, by (intro w hSw; (try dsimp only at hSw); go_simp <;> with_reducible rfl)⟩
          simp only [Act.put, List.setIfInBounds_toArray, List.set_cons_zero, List.set_cons_succ]
          refine wpAnyH_take (i := 8) (oi := ?_) (v := ?_) ?_ (by kernel_rfl) ?_ ?_ ?_ ?_ hHeld ?_
          rotate_left 2
          · (simp only [List.getElem?_toArray, List.getElem?_cons_succ, List.getElem?_cons_zero]) <;> with_reducible rfl
          · kernel_rfl
          · kernel_rfl
          · exact fun _ _ _ h => h
          · exact Or.inl ⟨by rfl, by (intro w hSw; (try dsimp only at hSw); go_simp <;> with_reducible rfl)⟩
          simp only [Act.put, List.setIfInBounds_toArray, List.set_cons_zero, List.set_cons_succ]
          refine wpAnyH_take (i := 9) (oi := ?_) (v := ?_) ?_ (by kernel_rfl) ?_ ?_ ?_ ?_ hHeld ?_
          rotate_left 2
          · (simp only [List.getElem?_toArray, List.getElem?_cons_succ, List.getElem?_cons_zero]) <;> with_reducible rfl
          · kernel_rfl
          · kernel_rfl
          · exact fun _ _ _ h => h
          · exact Or.inl ⟨by rfl, by (intro w hSw; (try dsimp only at hSw); go_simp <;> with_reducible rfl)⟩
          simp only [Act.put, List.setIfInBounds_toArray, List.set_cons_zero, List.set_cons_succ]
          refine wpAnyH_take (i := 10) (oi := ?_) (v := ?_) ?_ (by kernel_rfl) ?_ ?_ ?_ ?_ hHeld ?_
          rotate_left 2
          · (simp only [List.getElem?_toArray, List.getElem?_cons_succ, List.getElem?_cons_zero]) <;> with_reducible rfl
          · kernel_rfl
          · kernel_rfl
          · exact fun _ _ _ h => h
          · exact Or.inl ⟨by rfl, by (intro w hSw; (try dsimp only at hSw); go_simp <;> with_reducible rfl)⟩
          simp only [Act.put, List.setIfInBounds_toArray, List.set_cons_zero, List.set_cons_succ]
          refine wpAnyH_take (i := 11) (oi := ?_) (v := ?_) ?_ (by kernel_rfl) ?_ ?_ ?_ ?_ hHeld ?_
          rotate_left 2
          · (simp only [List.getElem?_toArray, List.getElem?_cons_succ, List.getElem?_cons_zero]) <;> with_reducible rfl
          · kernel_rfl
          · kernel_rfl
          · exact fun _ _ _ h => h
          · exact Or.inl ⟨by rfl, by (intro w hSw; (try dsimp only at hSw); go_simp <;> with_reducible rfl)⟩
          simp only [Act.put, List.setIfInBounds_toArray, List.set_cons_zero, List.set_cons_succ]
          refine wpAnyH_done (by kernel_rfl) ?_ _
          clear HNO HRD
          have HRS := hide (readSeg5 n ya yc fb x2 (unhide HOY).toBs hfb6 (unhide HGO).n1)
          go_wp2_with fail
          refine (unhide HRS).mono ?_
          rintro e x3 hrsp
          obtain ⟨s9, rp, rc, vs, rfl, HS9, HNR, HB3'⟩ := hrsp
          obtain rfl : s9 = rdS n fb := unhide HS9
          obtain ⟨s9, hs9⟩ : ∃ s9, s9 = rdS n fb := ⟨_, rfl⟩
          rw [← hs9] at HNR ⊢
          have HSQ := hide hs9
          obtain ⟨U, hU⟩ : ∃ U, U = x3.alloc (.cells #[.int .i64 (s9.first : Int), .slice rp s9.recs.length rc, .int .i64 (s9.size : Int)] 122) := ⟨_, rfl⟩
          have hbU : Below x3.heap.size x3 U := by rw [hU]; exact (Below.refl _ _).alloc (Nat.le_refl _) _
          obtain ⟨gu, hgu⟩ : ∃ gu, gu = x3.heap.size := ⟨_, rfl⟩
          have hrU : U.heap[gu]? = some (.cells #[.int .i64 (s9.first : Int), .slice rp s9.recs.length rc, .int .i64 (s9.size : Int)] 122 (0, 0)) := by rw [hgu, hU]; exact heap_alloc_new _ _
          have u0 : U.cell? ⟨gu, 0, none⟩ = some (.int .i64 (s9.first : Int)) := cell_of_row _ _ _ _ _ _ hrU
          have u1 : U.cell? ⟨gu, 1, none⟩ = some (.slice rp s9.recs.length rc) := cell_of_row _ _ _ _ _ _ hrU
          have u2 : U.cell? ⟨gu, 2, none⟩ = some (.int .i64 (s9.size : Int)) := cell_of_row _ _ _ _ _ _ hrU
          have hbx2U : Below x2.heap.size x2 U := (unhide HB3').trans (hbU.mono (unhide HB3').size)
          obtain ⟨gT, sT, sgT, _⟩ := NewR.seg (g := g1) ((unhide HNR).below hbU) hbx2U
          have hhx2 := (unhide HH1).below (unhide HBx2)
          have hhU := hhx2.keep sT (fun _ _ e => e)
          have hdU := ((unhide HD1).below (unhide HBx2)).keep1 (sT.mono (fun t e => e.elim))
          have c0U := hhU.c0
          have c1U := hhU.c1
          have fU := hhU.fr 1
          have HHU := hide hhU
          have HDU := hide hdU
          have HSU : Hid (St w1 U g0 gT X01) := ((unhide HS1).trans (St.ofBelow g1 X01 (unhide HBx2))).trans (sT.mono (fun t e => e.elim))
          have HSG := hide sgT
          have hlU : l1.length ≤ 1000000 := by rw [hhU.n]; exact hDl
          have HWH : Hid (((s9.size : Int) == (fb.length : Int)) = decide (s9.size = fb.length)) := by
            show _ = _
            by_cases e : s9.size = fb.length
            · rw [e]; simp
            · rw [decide_eq_false e, beq_eq_false_iff_ne]; omega
          have hwh := unhide HWH
          generalize hwb : decide (s9.size = fb.length) = wb at hwh
          have HWB := hide hwb
          clear hrU hbU hbx2U hhx2 hhU hdU sT sgT HRS HNR HB3' HS9 hs9 HOY hwb
          go_upto_region 13 with fail
          rw [← hU, ← hgu]
          clear hU hgu
          go_upto_region 14 with fail
          have a1' : (U.alloc (.cells #[.int .i64 (s9.first : Int), .slice rp s9.recs.length rc, .int .i64 (s9.size : Int)] 122)).cell? ⟨B, 1, none⟩ = some (.slice P1 l1.length pc1) := ((unhide HHU).below ((Below.refl _ _).alloc (Nat.le_refl _) _)).c1
          have a0' : U.drew.cell? ⟨B, 1, none⟩ = some (.slice P1 l1.length pc1) := c1U
          go_region_law (first
            | (refine stp_appg _ rfl _ _ rfl P1 pc1 l1 l1.length rfl rfl ((unhide HHU).ow.below (((Below.refl _ _).alloc (Nat.le_refl _) _).drew)) U.heap.size 1 ⟨s9.first, (rp, s9.recs.length, rc), s9.size⟩ rfl (heap_alloc_new U _) hlU ?_; intro R cR z1 HO1 HG1 HL1; have q1 : z1.cell? ⟨B, 1, none⟩ = some (.slice P1 l1.length pc1) := (unhide HHU).cellB (grown_undrew (unhide HG1)) 1 c1U; have q2 : z1.frozen? ⟨B, 1, none⟩ = false := (unhide HHU).frB (grown_undrew (unhide HG1)) 1)
            | fail)
          all_goals
            obtain ⟨g3, h3, s3⟩ := (unhide HHU).addS (unhide HSG) (unhide HO1) (grown_undrew (unhide HG1)) (unhide HL1)
            have HZ : Hid (LgS (z1.setCell ⟨B, 1, none⟩ (.slice (some ⟨R, 0, none⟩) (l1.length + 1) cR)) g3 B D (some ⟨R, 0, none⟩) cR (l1 ++ [⟨s9.first, (rp, s9.recs.length, rc), s9.size⟩]) (DD.2 ++ [s9]) ∧ DK (z1.setCell ⟨B, 1, none⟩ (.slice (some ⟨R, 0, none⟩) (l1.length + 1) cR)) g3 0 D DD.1 (N + q) ∧ St w1 (z1.setCell ⟨B, 1, none⟩ (.slice (some ⟨R, 0, none⟩) (l1.length + 1) cR)) g0 g3 X01) := ⟨h3, (unhide HDU).keep1 s3, (unhide HSU).trans (s3.mono (fun t ht => .inr ht))⟩
            obtain ⟨z2, hz2⟩ : ∃ z2, z2 = z1.setCell ⟨B, 1, none⟩ (.slice (some ⟨R, 0, none⟩) (l1.length + 1) cR) := ⟨_, rfl⟩
            rw [← hz2] at HZ ⊢
            clear hz2 h3 s3 q1 q2 HO1 HG1 HL1
            go_wp2_with fail
            go_roundw
            case rel => exact ⟨i + 1, g3, _, _, _, q, by omega, by go_num, (by rw [unhide HGA1, ← unhide HSQ]; show _ = Value.bool (decide (s9.size = fb.length)); rw [unhide HWB]), (by rw [unhide HGA1]; show q + (DD.2 ++ [_]).length ≤ _; simp; omega), (by rw [unhide HGA1, ← unhide HSQ]; exact (unhide HZ).1), (by rw [unhide HGA1]; exact (unhide HZ).2.1), (unhide HZ).2.2⟩
            case measure => simp [intOf]; omega
        · have e5 : ((n : Int) != (nx : Int)) = true := by rw [bne_iff_ne]; omega
          clear hdr hne
          go_wp2_with fail
          refine (unhide HNX).mono ?_
          rintro e v1 ⟨rfl, HBv⟩
          clear HNX
          go_wp2_with fail
          refine (unhide HDA _ (unhide HBv)).mono ?_
          rintro e y1 ⟨rfl, HRLv⟩
          have HRL1 : Hid (RL wr y1 g' B D DD.1 (N + q) DD.2) := by
            have h1 := RL.from (St.ofBelow g' X01 (unhide HBv)) (unhide HRLv)
            rw [(unhide HQ).1, (unhide HQ).2.1, (unhide HQ).2.2] at h1
            exact h1
          clear HDA HRLv cI
          obtain ⟨g1, P1, pc1, l1, hh1, hd1, st1⟩ := unhide HRL1
          have k0y1 : y1.cell? ⟨B, 0, none⟩ = some (.pointer (some ⟨D, 0, none⟩)) := hh1.c0
          have hL1 := ((unhide HLW1).st2 (unhide HS) x01o).st2 st1 x01o
          have HNO : Hid (∀ v, Below y1.heap.size y1 v → Calls Tryz.prog 88 #[.int .i64 (n : Int)] v fun e v' => e = .returned (.string (str (nmS n))) ∧ Hid (Below v.heap.size v v')) := fun v hb => nameOf_any n v (unhide HGO).n1 ((unhide HEE).below (hL1.below.trans (hb.mono hL1.below.size)) (Nat.le_refl _))
          have HRD : Hid (∀ v, Below y1.heap.size y1 v → Calls Tryz.prog 102 #[.pointer (some ⟨D, 0, none⟩), .string (str (nmS n))] v fun e v' => ∃ y cy, e = .returned (.tuple #[.slice y fb.length cy, .int .i64 0]) ∧ Hid (OwnB v' v.heap.size y cy fb) ∧ Hid (Below v.heap.size v v')) := fun v hb => by
            have := read_k g1 0 D DD.1 (N + q) (nmS n) v (hd1.below hb) (by omega) (nm_max _ (unhide HGO).n1)
            rw [unhide HFB, unhide HTE] at this
            exact this.mono (fun e w' h => by obtain ⟨y, cy, h1, h2, h3⟩ := h; exact ⟨y, cy, h1, h2, h3⟩)
          have HH1 := hide hh1
          have HD1 := hide hd1
          have HS1 : Hid (St w1 y1 g0 g1 X01) := (unhide HS).trans st1
          clear hh1 hd1 st1 hL1 HRL1
          go_upto_region 9 with fail
          refine wp_region_held_drew (S := fun w' => w'.cell? ⟨B, 0, none⟩ = some (.pointer (some ⟨D, 0, none⟩))) (by kernel_rfl) k0y1 (fun hHeld => ?_)
          refine wpAnyH_take (i := 0) (oi := ?_) (v := ?_) ?_ (by kernel_rfl) ?_ ?_ ?_ ?_ hHeld ?_
          rotate_left 2
          · (simp only [List.getElem?_toArray, List.getElem?_cons_zero]) <;> with_reducible rfl
          · kernel_rfl
          · kernel_rfl
          · exact fun _ _ _ h => h
          · exact Or.inl ⟨by rfl, by (intro w hSw; (try dsimp only at hSw); go_simp <;> with_reducible rfl)⟩
          simp only [Act.put, List.setIfInBounds_toArray, List.set_cons_zero, List.set_cons_succ]
          refine wpAnyH_take (i := 1) (oi := ?_) (v := ?_) ?_ (by kernel_rfl) ?_ ?_ ?_ ?_ hHeld ?_
          rotate_left 2
          · (simp only [List.getElem?_toArray, List.getElem?_cons_succ, List.getElem?_cons_zero]) <;> with_reducible rfl
          · kernel_rfl
          · kernel_rfl
          · exact fun _ _ _ h => h
          · exact Or.inl ⟨by rfl, by (intro w hSw; (try dsimp only at hSw); go_simp <;> with_reducible rfl)⟩
          simp only [Act.put, List.setIfInBounds_toArray, List.set_cons_zero, List.set_cons_succ]
          refine wpAnyH_take (i := 2) (oi := ?_) (v := ?_) ?_ (by kernel_rfl) ?_ ?_ ?_ ?_ hHeld ?_
          rotate_left 2
          · (simp only [List.getElem?_toArray, List.getElem?_cons_succ, List.getElem?_cons_zero]) <;> with_reducible rfl
          · kernel_rfl
          · kernel_rfl
          · exact fun _ _ _ h => h
          · exact Or.inl ⟨by rfl, by (intro w hSw; (try dsimp only at hSw); go_simp <;> with_reducible rfl)⟩
          simp only [Act.put, List.setIfInBounds_toArray, List.set_cons_zero, List.set_cons_succ]
          refine wpAnyH_take (i := 3) (oi := ?_) (v := ?_) ?_ (by kernel_rfl) ?_ ?_ ?_ ?_ hHeld ?_
          rotate_left 2
          · (simp only [List.getElem?_toArray, List.getElem?_cons_succ, List.getElem?_cons_zero]) <;> with_reducible rfl
          · kernel_rfl
          · kernel_rfl
          · exact fun _ _ _ h => h
          · exact Or.inl ⟨by rfl, by (intro w hSw; (try dsimp only at hSw); go_simp <;> with_reducible rfl)⟩
          simp only [Act.put, List.setIfInBounds_toArray, List.set_cons_zero, List.set_cons_succ]
          refine wpAnyH_take (i := 4) (oi := ?_) (v := ?_) ?_ (by kernel_rfl) ?_ ?_ ?_ ?_ hHeld ?_
          rotate_left 2
          · (simp only [List.getElem?_toArray, List.getElem?_cons_succ, List.getElem?_cons_zero]) <;> with_reducible rfl
          · kernel_rfl
          · kernel_rfl
          · exact fun _ _ _ h => h
          · exact Or.inl ⟨by rfl, by (intro w hSw; (try dsimp only at hSw); go_simp <;> with_reducible rfl)⟩
          simp only [Act.put, List.setIfInBounds_toArray, List.set_cons_zero, List.set_cons_succ]
          refine wpAnyH_ready (rs := [5]) (by kernel_rfl) (by simp) (AllReadyH.cons (o := ?_) ?_ (fun K hK => ?_) AllReadyH.nil)
          rotate_left 1
          · (simp only [List.getElem?_toArray, List.getElem?_cons_succ, List.getElem?_cons_zero]) <;> with_reducible rfl
          go_simp
          refine (unhide HNO _ (Below.refl _ _).drew).mono ?_
          rintro e x1 ⟨rfl, HBx1'⟩
          have HBx1 : Hid (Below y1.heap.size y1 x1) := ((Below.refl y1.heap.size y1).drew).trans ((unhide HBx1').mono (Nat.le_refl _))
          have k0x1 : x1.cell? ⟨B, 0, none⟩ = some (.pointer (some ⟨D, 0, none⟩)) := by rw [(unhide HBx1).cell (World.block_lt_of_cell? y1 _ k0y1)]; exact k0y1
          clear HBx1' hHeld
          refine hK.out _ _ k0x1 (fun hHeld => ?_)
          clear hK K
          try simp only [Act.put, List.setIfInBounds_toArray, List.set_cons_zero, List.set_cons_succ]
          refine wpAnyH_ready (rs := [6]) (by kernel_rfl) (by simp) (AllReadyH.cons (o := ?_) ?_ (fun K hK => ?_) AllReadyH.nil)
          rotate_left 1
          · (simp only [List.getElem?_toArray, List.getElem?_cons_succ, List.getElem?_cons_zero]) <;> with_reducible rfl
          go_simp
          refine (unhide HRD _ (unhide HBx1)).mono ?_
          rintro e x2 ⟨ya, yc, rfl, HOY, HBx2'⟩
          have HBx2 : Hid (Below y1.heap.size y1 x2) := (unhide HBx1).trans ((unhide HBx2').mono (unhide HBx1).size)
          have k0x2 : x2.cell? ⟨B, 0, none⟩ = some (.pointer (some ⟨D, 0, none⟩)) := by rw [(unhide HBx2).cell (World.block_lt_of_cell? y1 _ k0y1)]; exact k0y1
          clear HBx2' hHeld
          refine hK.out _ _ k0x2 (fun hHeld => ?_)
          clear hK K
          try simp only [Act.put, List.setIfInBounds_toArray, List.set_cons_zero, List.set_cons_succ]
          refine wpAnyH_take (i := 7) (oi := ?_) (v := ?_) ?_ (by kernel_rfl) ?_ ?_ ?_ ?_ hHeld ?_
          rotate_left 2
          · (simp only [List.getElem?_toArray, List.getElem?_cons_succ, List.getElem?_cons_zero]) <;> with_reducible rfl
          · kernel_rfl
          · kernel_rfl
          · exact fun _ _ _ h => h
          · exact Or.inl ⟨by rfl, by (intro w hSw; (try dsimp only at hSw); go_simp <;> with_reducible rfl)⟩
          simp only [Act.put, List.setIfInBounds_toArray, List.set_cons_zero, List.set_cons_succ]
          refine wpAnyH_take (i := 8) (oi := ?_) (v := ?_) ?_ (by kernel_rfl) ?_ ?_ ?_ ?_ hHeld ?_
          rotate_left 2
          · (simp only [List.getElem?_toArray, List.getElem?_cons_succ, List.getElem?_cons_zero]) <;> with_reducible rfl
          · kernel_rfl
          · kernel_rfl
          · exact fun _ _ _ h => h
          · exact Or.inl ⟨by rfl, by (intro w hSw; (try dsimp only at hSw); go_simp <;> with_reducible rfl)⟩
          simp only [Act.put, List.setIfInBounds_toArray, List.set_cons_zero, List.set_cons_succ]
          refine wpAnyH_take (i := 9) (oi := ?_) (v := ?_) ?_ (by kernel_rfl) ?_ ?_ ?_ ?_ hHeld ?_
          rotate_left 2
          · (simp only [List.getElem?_toArray, List.getElem?_cons_succ, List.getElem?_cons_zero]) <;> with_reducible rfl
          · kernel_rfl
          · kernel_rfl
          · exact fun _ _ _ h => h
          · exact Or.inl ⟨by rfl, by (intro w hSw; (try dsimp only at hSw); go_simp <;> with_reducible rfl)⟩
          simp only [Act.put, List.setIfInBounds_toArray, List.set_cons_zero, List.set_cons_succ]
          refine wpAnyH_take (i := 10) (oi := ?_) (v := ?_) ?_ (by kernel_rfl) ?_ ?_ ?_ ?_ hHeld ?_
          rotate_left 2
          · (simp only [List.getElem?_toArray, List.getElem?_cons_succ, List.getElem?_cons_zero]) <;> with_reducible rfl
          · kernel_rfl
          · kernel_rfl
          · exact fun _ _ _ h => h
          · exact Or.inl ⟨by rfl, by (intro w hSw; (try dsimp only at hSw); go_simp <;> with_reducible rfl)⟩
          simp only [Act.put, List.setIfInBounds_toArray, List.set_cons_zero, List.set_cons_succ]
          refine wpAnyH_take (i := 11) (oi := ?_) (v := ?_) ?_ (by kernel_rfl) ?_ ?_ ?_ ?_ hHeld ?_
          rotate_left 2
          · (simp only [List.getElem?_toArray, List.getElem?_cons_succ, List.getElem?_cons_zero]) <;> with_reducible rfl
          · kernel_rfl
          · kernel_rfl
          · exact fun _ _ _ h => h
          · exact Or.inl ⟨by rfl, by (intro w hSw; (try dsimp only at hSw); go_simp <;> with_reducible rfl)⟩
          simp only [Act.put, List.setIfInBounds_toArray, List.set_cons_zero, List.set_cons_succ]
          refine wpAnyH_done (by kernel_rfl) ?_ _
          clear HNO HRD
          have HRS := hide (readSeg5 n ya yc fb x2 (unhide HOY).toBs hfb6 (unhide HGO).n1)
          go_wp2_with fail
          refine (unhide HRS).mono ?_
          rintro e x3 hrsp
          obtain ⟨s9, rp, rc, vs, rfl, HS9, HNR, HB3'⟩ := hrsp
          obtain rfl : s9 = rdS n fb := unhide HS9
          obtain ⟨s9, hs9⟩ : ∃ s9, s9 = rdS n fb := ⟨_, rfl⟩
          rw [← hs9] at HNR ⊢
          have HSQ := hide hs9
          obtain ⟨U, hU⟩ : ∃ U, U = x3.alloc (.cells #[.int .i64 (s9.first : Int), .slice rp s9.recs.length rc, .int .i64 (s9.size : Int)] 122) := ⟨_, rfl⟩
          have hbU : Below x3.heap.size x3 U := by rw [hU]; exact (Below.refl _ _).alloc (Nat.le_refl _) _
          obtain ⟨gu, hgu⟩ : ∃ gu, gu = x3.heap.size := ⟨_, rfl⟩
          have hrU : U.heap[gu]? = some (.cells #[.int .i64 (s9.first : Int), .slice rp s9.recs.length rc, .int .i64 (s9.size : Int)] 122 (0, 0)) := by rw [hgu, hU]; exact heap_alloc_new _ _
          have u0 : U.cell? ⟨gu, 0, none⟩ = some (.int .i64 (s9.first : Int)) := cell_of_row _ _ _ _ _ _ hrU
          have u1 : U.cell? ⟨gu, 1, none⟩ = some (.slice rp s9.recs.length rc) := cell_of_row _ _ _ _ _ _ hrU
          have u2 : U.cell? ⟨gu, 2, none⟩ = some (.int .i64 (s9.size : Int)) := cell_of_row _ _ _ _ _ _ hrU
          have hbx2U : Below x2.heap.size x2 U := (unhide HB3').trans (hbU.mono (unhide HB3').size)
          obtain ⟨gT, sT, sgT, _⟩ := NewR.seg (g := g1) ((unhide HNR).below hbU) hbx2U
          have hhx2 := (unhide HH1).below (unhide HBx2)
          have hhU := hhx2.keep sT (fun _ _ e => e)
          have hdU := ((unhide HD1).below (unhide HBx2)).keep1 (sT.mono (fun t e => e.elim))
          have c0U := hhU.c0
          have c1U := hhU.c1
          have fU := hhU.fr 1
          have HHU := hide hhU
          have HDU := hide hdU
          have HSU : Hid (St w1 U g0 gT X01) := ((unhide HS1).trans (St.ofBelow g1 X01 (unhide HBx2))).trans (sT.mono (fun t e => e.elim))
          have HSG := hide sgT
          have hlU : l1.length ≤ 1000000 := by rw [hhU.n]; exact hDl
          have HWH : Hid (((s9.size : Int) == (fb.length : Int)) = decide (s9.size = fb.length)) := by
            show _ = _
            by_cases e : s9.size = fb.length
            · rw [e]; simp
            · rw [decide_eq_false e, beq_eq_false_iff_ne]; omega
          have hwh := unhide HWH
          generalize hwb : decide (s9.size = fb.length) = wb at hwh
          have HWB := hide hwb
          clear hrU hbU hbx2U hhx2 hhU hdU sT sgT HRS HNR HB3' HS9 hs9 HOY hwb
          go_upto_region 13 with fail
          rw [← hU, ← hgu]
          clear hU hgu
          go_upto_region 14 with fail
          have a1' : (U.alloc (.cells #[.int .i64 (s9.first : Int), .slice rp s9.recs.length rc, .int .i64 (s9.size : Int)] 122)).cell? ⟨B, 1, none⟩ = some (.slice P1 l1.length pc1) := ((unhide HHU).below ((Below.refl _ _).alloc (Nat.le_refl _) _)).c1
          have a0' : U.drew.cell? ⟨B, 1, none⟩ = some (.slice P1 l1.length pc1) := c1U
          go_region_law (first
            | (refine stp_appg _ rfl _ _ rfl P1 pc1 l1 l1.length rfl rfl ((unhide HHU).ow.below (((Below.refl _ _).alloc (Nat.le_refl _) _).drew)) U.heap.size 1 ⟨s9.first, (rp, s9.recs.length, rc), s9.size⟩ rfl (heap_alloc_new U _) hlU ?_; intro R cR z1 HO1 HG1 HL1; have q1 : z1.cell? ⟨B, 1, none⟩ = some (.slice P1 l1.length pc1) := (unhide HHU).cellB (grown_undrew (unhide HG1)) 1 c1U; have q2 : z1.frozen? ⟨B, 1, none⟩ = false := (unhide HHU).frB (grown_undrew (unhide HG1)) 1)
            | fail)
          all_goals
            obtain ⟨g3, h3, s3⟩ := (unhide HHU).addS (unhide HSG) (unhide HO1) (grown_undrew (unhide HG1)) (unhide HL1)
            have HZ : Hid (LgS (z1.setCell ⟨B, 1, none⟩ (.slice (some ⟨R, 0, none⟩) (l1.length + 1) cR)) g3 B D (some ⟨R, 0, none⟩) cR (l1 ++ [⟨s9.first, (rp, s9.recs.length, rc), s9.size⟩]) (DD.2 ++ [s9]) ∧ DK (z1.setCell ⟨B, 1, none⟩ (.slice (some ⟨R, 0, none⟩) (l1.length + 1) cR)) g3 0 D DD.1 (N + q) ∧ St w1 (z1.setCell ⟨B, 1, none⟩ (.slice (some ⟨R, 0, none⟩) (l1.length + 1) cR)) g0 g3 X01) := ⟨h3, (unhide HDU).keep1 s3, (unhide HSU).trans (s3.mono (fun t ht => .inr ht))⟩
            obtain ⟨z2, hz2⟩ : ∃ z2, z2 = z1.setCell ⟨B, 1, none⟩ (.slice (some ⟨R, 0, none⟩) (l1.length + 1) cR) := ⟨_, rfl⟩
            rw [← hz2] at HZ ⊢
            clear hz2 h3 s3 q1 q2 HO1 HG1 HL1
            go_wp2_with fail
            go_roundw
            case rel => exact ⟨i + 1, g3, _, _, _, q, by omega, by go_num, (by rw [unhide HGA1, ← unhide HSQ]; show _ = Value.bool (decide (s9.size = fb.length)); rw [unhide HWB]), (by rw [unhide HGA1]; show q + (DD.2 ++ [_]).length ≤ _; simp; omega), (by rw [unhide HGA1, ← unhide HSQ]; exact (unhide HZ).1), (by rw [unhide HGA1]; exact (unhide HZ).2.1), (unhide HZ).2.2⟩
            case measure => simp [intOf]; omega
      · have hD1 : DD = (x.1, x.2.1) := by rw [unhide HDE, unhide HDD2, if_neg hdr]
        obtain ⟨q, hq⟩ : ∃ q, q = q0 := ⟨_, rfl⟩
        have hq1 : q + DD.2.length ≤ i := by rw [hD1, hq]; exact hqi
        have hDl : DD.2.length ≤ 1000000 := by rw [hD1]; exact hxl
        have hqN : N + q ≤ 1400 := by omega
        have HQ : Hid (x.1 = DD.1 ∧ x.2.1 = DD.2 ∧ N + q0 = N + q) := ⟨by rw [hD1], by rw [hD1], by omega⟩
        obtain ⟨rfl, rfl⟩ : n = nx ∧ wh = true := by
          refine ⟨Classical.byContradiction fun h => hdr (.inl h), ?_⟩
          cases wh with
          | true => rfl
          | false => exact absurd (.inr rfl) hdr
        have e5 : ((n : Int) != (n : Int)) = false := by simp
        clear hD1 hq HDE HDD2 hdr HDA
        go_wp2_with fail
        refine (unhide HNX).mono ?_
        rintro e y1 ⟨rfl, HBv⟩
        have HRL1 : Hid (RL wr y1 g' B D DD.1 (N + q) DD.2) := by
          have h1 := RL.same (unhide HH) (unhide HD) (unhide HBv)
          rw [(unhide HQ).1, (unhide HQ).2.1, (unhide HQ).2.2] at h1
          exact h1
        clear HNX cI
        obtain ⟨g1, P1, pc1, l1, hh1, hd1, st1⟩ := unhide HRL1
        have k0y1 : y1.cell? ⟨B, 0, none⟩ = some (.pointer (some ⟨D, 0, none⟩)) := hh1.c0
        have hL1 := ((unhide HLW1).st2 (unhide HS) x01o).st2 st1 x01o
        have HNO : Hid (∀ v, Below y1.heap.size y1 v → Calls Tryz.prog 88 #[.int .i64 (n : Int)] v fun e v' => e = .returned (.string (str (nmS n))) ∧ Hid (Below v.heap.size v v')) := fun v hb => nameOf_any n v (unhide HGO).n1 ((unhide HEE).below (hL1.below.trans (hb.mono hL1.below.size)) (Nat.le_refl _))
        have HRD : Hid (∀ v, Below y1.heap.size y1 v → Calls Tryz.prog 102 #[.pointer (some ⟨D, 0, none⟩), .string (str (nmS n))] v fun e v' => ∃ y cy, e = .returned (.tuple #[.slice y fb.length cy, .int .i64 0]) ∧ Hid (OwnB v' v.heap.size y cy fb) ∧ Hid (Below v.heap.size v v')) := fun v hb => by
          have := read_k g1 0 D DD.1 (N + q) (nmS n) v (hd1.below hb) (by omega) (nm_max _ (unhide HGO).n1)
          rw [unhide HFB, unhide HTE] at this
          exact this.mono (fun e w' h => by obtain ⟨y, cy, h1, h2, h3⟩ := h; exact ⟨y, cy, h1, h2, h3⟩)
        have HH1 := hide hh1
        have HD1 := hide hd1
        have HS1 : Hid (St w1 y1 g0 g1 X01) := (unhide HS).trans st1
        clear hh1 hd1 st1 hL1 HRL1
        go_upto_region 9 with fail
        refine wp_region_held_drew (S := fun w' => w'.cell? ⟨B, 0, none⟩ = some (.pointer (some ⟨D, 0, none⟩))) (by kernel_rfl) k0y1 (fun hHeld => ?_)
        refine wpAnyH_take (i := 0) (oi := ?_) (v := ?_) ?_ (by kernel_rfl) ?_ ?_ ?_ ?_ hHeld ?_
        rotate_left 2
        · (simp only [List.getElem?_toArray, List.getElem?_cons_zero]) <;> with_reducible rfl
        · kernel_rfl
        · kernel_rfl
        · exact fun _ _ _ h => h
        · exact Or.inl ⟨by rfl, by (intro w hSw; (try dsimp only at hSw); go_simp <;> with_reducible rfl)⟩
        simp only [Act.put, List.setIfInBounds_toArray, List.set_cons_zero, List.set_cons_succ]
        refine wpAnyH_take (i := 1) (oi := ?_) (v := ?_) ?_ (by kernel_rfl) ?_ ?_ ?_ ?_ hHeld ?_
        rotate_left 2
        · (simp only [List.getElem?_toArray, List.getElem?_cons_succ, List.getElem?_cons_zero]) <;> with_reducible rfl
        · kernel_rfl
        · kernel_rfl
        · exact fun _ _ _ h => h
        · exact Or.inl ⟨by rfl, by (intro w hSw; (try dsimp only at hSw); go_simp <;> with_reducible rfl)⟩
        simp only [Act.put, List.setIfInBounds_toArray, List.set_cons_zero, List.set_cons_succ]
        refine wpAnyH_take (i := 2) (oi := ?_) (v := ?_) ?_ (by kernel_rfl) ?_ ?_ ?_ ?_ hHeld ?_
        rotate_left 2
        · (simp only [List.getElem?_toArray, List.getElem?_cons_succ, List.getElem?_cons_zero]) <;> with_reducible rfl
        · kernel_rfl
        · kernel_rfl
        · exact fun _ _ _ h => h
        · exact Or.inl ⟨by rfl, by (intro w hSw; (try dsimp only at hSw); go_simp <;> with_reducible rfl)⟩
        simp only [Act.put, List.setIfInBounds_toArray, List.set_cons_zero, List.set_cons_succ]
        refine wpAnyH_take (i := 3) (oi := ?_) (v := ?_) ?_ (by kernel_rfl) ?_ ?_ ?_ ?_ hHeld ?_
        rotate_left 2
        · (simp only [List.getElem?_toArray, List.getElem?_cons_succ, List.getElem?_cons_zero]) <;> with_reducible rfl
        · kernel_rfl
        · kernel_rfl
        · exact fun _ _ _ h => h
        · exact Or.inl ⟨by rfl, by (intro w hSw; (try dsimp only at hSw); go_simp <;> with_reducible rfl)⟩
        simp only [Act.put, List.setIfInBounds_toArray, List.set_cons_zero, List.set_cons_succ]
        refine wpAnyH_take (i := 4) (oi := ?_) (v := ?_) ?_ (by kernel_rfl) ?_ ?_ ?_ ?_ hHeld ?_
        rotate_left 2
        · (simp only [List.getElem?_toArray, List.getElem?_cons_succ, List.getElem?_cons_zero]) <;> with_reducible rfl
        · kernel_rfl
        · kernel_rfl
        · exact fun _ _ _ h => h
        · exact Or.inl ⟨by rfl, by (intro w hSw; (try dsimp only at hSw); go_simp <;> with_reducible rfl)⟩
        simp only [Act.put, List.setIfInBounds_toArray, List.set_cons_zero, List.set_cons_succ]
        refine wpAnyH_ready (rs := [5]) (by kernel_rfl) (by simp) (AllReadyH.cons (o := ?_) ?_ (fun K hK => ?_) AllReadyH.nil)
        rotate_left 1
        · (simp only [List.getElem?_toArray, List.getElem?_cons_succ, List.getElem?_cons_zero]) <;> with_reducible rfl
        go_simp
        refine (unhide HNO _ (Below.refl _ _).drew).mono ?_
        rintro e x1 ⟨rfl, HBx1'⟩
        have HBx1 : Hid (Below y1.heap.size y1 x1) := ((Below.refl y1.heap.size y1).drew).trans ((unhide HBx1').mono (Nat.le_refl _))
        have k0x1 : x1.cell? ⟨B, 0, none⟩ = some (.pointer (some ⟨D, 0, none⟩)) := by rw [(unhide HBx1).cell (World.block_lt_of_cell? y1 _ k0y1)]; exact k0y1
        clear HBx1' hHeld
        refine hK.out _ _ k0x1 (fun hHeld => ?_)
        clear hK K
        try simp only [Act.put, List.setIfInBounds_toArray, List.set_cons_zero, List.set_cons_succ]
        refine wpAnyH_ready (rs := [6]) (by kernel_rfl) (by simp) (AllReadyH.cons (o := ?_) ?_ (fun K hK => ?_) AllReadyH.nil)
        rotate_left 1
        · (simp only [List.getElem?_toArray, List.getElem?_cons_succ, List.getElem?_cons_zero]) <;> with_reducible rfl
        go_simp
        refine (unhide HRD _ (unhide HBx1)).mono ?_
        rintro e x2 ⟨ya, yc, rfl, HOY, HBx2'⟩
        have HBx2 : Hid (Below y1.heap.size y1 x2) := (unhide HBx1).trans ((unhide HBx2').mono (unhide HBx1).size)
        have k0x2 : x2.cell? ⟨B, 0, none⟩ = some (.pointer (some ⟨D, 0, none⟩)) := by rw [(unhide HBx2).cell (World.block_lt_of_cell? y1 _ k0y1)]; exact k0y1
        clear HBx2' hHeld
        refine hK.out _ _ k0x2 (fun hHeld => ?_)
        clear hK K
        try simp only [Act.put, List.setIfInBounds_toArray, List.set_cons_zero, List.set_cons_succ]
        refine wpAnyH_take (i := 7) (oi := ?_) (v := ?_) ?_ (by kernel_rfl) ?_ ?_ ?_ ?_ hHeld ?_
        rotate_left 2
        · (simp only [List.getElem?_toArray, List.getElem?_cons_succ, List.getElem?_cons_zero]) <;> with_reducible rfl
        · kernel_rfl
        · kernel_rfl
        · exact fun _ _ _ h => h
        · exact Or.inl ⟨by rfl, by (intro w hSw; (try dsimp only at hSw); go_simp <;> with_reducible rfl)⟩
        simp only [Act.put, List.setIfInBounds_toArray, List.set_cons_zero, List.set_cons_succ]
        refine wpAnyH_take (i := 8) (oi := ?_) (v := ?_) ?_ (by kernel_rfl) ?_ ?_ ?_ ?_ hHeld ?_
        rotate_left 2
        · (simp only [List.getElem?_toArray, List.getElem?_cons_succ, List.getElem?_cons_zero]) <;> with_reducible rfl
        · kernel_rfl
        · kernel_rfl
        · exact fun _ _ _ h => h
        · exact Or.inl ⟨by rfl, by (intro w hSw; (try dsimp only at hSw); go_simp <;> with_reducible rfl)⟩
        simp only [Act.put, List.setIfInBounds_toArray, List.set_cons_zero, List.set_cons_succ]
        refine wpAnyH_take (i := 9) (oi := ?_) (v := ?_) ?_ (by kernel_rfl) ?_ ?_ ?_ ?_ hHeld ?_
        rotate_left 2
        · (simp only [List.getElem?_toArray, List.getElem?_cons_succ, List.getElem?_cons_zero]) <;> with_reducible rfl
        · kernel_rfl
        · kernel_rfl
        · exact fun _ _ _ h => h
        · exact Or.inl ⟨by rfl, by (intro w hSw; (try dsimp only at hSw); go_simp <;> with_reducible rfl)⟩
        simp only [Act.put, List.setIfInBounds_toArray, List.set_cons_zero, List.set_cons_succ]
        refine wpAnyH_take (i := 10) (oi := ?_) (v := ?_) ?_ (by kernel_rfl) ?_ ?_ ?_ ?_ hHeld ?_
        rotate_left 2
        · (simp only [List.getElem?_toArray, List.getElem?_cons_succ, List.getElem?_cons_zero]) <;> with_reducible rfl
        · kernel_rfl
        · kernel_rfl
        · exact fun _ _ _ h => h
        · exact Or.inl ⟨by rfl, by (intro w hSw; (try dsimp only at hSw); go_simp <;> with_reducible rfl)⟩
        simp only [Act.put, List.setIfInBounds_toArray, List.set_cons_zero, List.set_cons_succ]
        refine wpAnyH_take (i := 11) (oi := ?_) (v := ?_) ?_ (by kernel_rfl) ?_ ?_ ?_ ?_ hHeld ?_
        rotate_left 2
        · (simp only [List.getElem?_toArray, List.getElem?_cons_succ, List.getElem?_cons_zero]) <;> with_reducible rfl
        · kernel_rfl
        · kernel_rfl
        · exact fun _ _ _ h => h
        · exact Or.inl ⟨by rfl, by (intro w hSw; (try dsimp only at hSw); go_simp <;> with_reducible rfl)⟩
        simp only [Act.put, List.setIfInBounds_toArray, List.set_cons_zero, List.set_cons_succ]
        refine wpAnyH_done (by kernel_rfl) ?_ _
        clear HNO HRD
        have HRS := hide (readSeg5 n ya yc fb x2 (unhide HOY).toBs hfb6 (unhide HGO).n1)
        go_wp2_with fail
        refine (unhide HRS).mono ?_
        rintro e x3 hrsp
        obtain ⟨s9, rp, rc, vs, rfl, HS9, HNR, HB3'⟩ := hrsp
        obtain rfl : s9 = rdS n fb := unhide HS9
        obtain ⟨s9, hs9⟩ : ∃ s9, s9 = rdS n fb := ⟨_, rfl⟩
        rw [← hs9] at HNR ⊢
        have HSQ := hide hs9
        obtain ⟨U, hU⟩ : ∃ U, U = x3.alloc (.cells #[.int .i64 (s9.first : Int), .slice rp s9.recs.length rc, .int .i64 (s9.size : Int)] 122) := ⟨_, rfl⟩
        have hbU : Below x3.heap.size x3 U := by rw [hU]; exact (Below.refl _ _).alloc (Nat.le_refl _) _
        obtain ⟨gu, hgu⟩ : ∃ gu, gu = x3.heap.size := ⟨_, rfl⟩
        have hrU : U.heap[gu]? = some (.cells #[.int .i64 (s9.first : Int), .slice rp s9.recs.length rc, .int .i64 (s9.size : Int)] 122 (0, 0)) := by rw [hgu, hU]; exact heap_alloc_new _ _
        have u0 : U.cell? ⟨gu, 0, none⟩ = some (.int .i64 (s9.first : Int)) := cell_of_row _ _ _ _ _ _ hrU
        have u1 : U.cell? ⟨gu, 1, none⟩ = some (.slice rp s9.recs.length rc) := cell_of_row _ _ _ _ _ _ hrU
        have u2 : U.cell? ⟨gu, 2, none⟩ = some (.int .i64 (s9.size : Int)) := cell_of_row _ _ _ _ _ _ hrU
        have hbx2U : Below x2.heap.size x2 U := (unhide HB3').trans (hbU.mono (unhide HB3').size)
        obtain ⟨gT, sT, sgT, _⟩ := NewR.seg (g := g1) ((unhide HNR).below hbU) hbx2U
        have hhx2 := (unhide HH1).below (unhide HBx2)
        have hhU := hhx2.keep sT (fun _ _ e => e)
        have hdU := ((unhide HD1).below (unhide HBx2)).keep1 (sT.mono (fun t e => e.elim))
        have c0U := hhU.c0
        have c1U := hhU.c1
        have fU := hhU.fr 1
        have HHU := hide hhU
        have HDU := hide hdU
        have HSU : Hid (St w1 U g0 gT X01) := ((unhide HS1).trans (St.ofBelow g1 X01 (unhide HBx2))).trans (sT.mono (fun t e => e.elim))
        have HSG := hide sgT
        have hlU : l1.length ≤ 1000000 := by rw [hhU.n]; exact hDl
        have HWH : Hid (((s9.size : Int) == (fb.length : Int)) = decide (s9.size = fb.length)) := by
          show _ = _
          by_cases e : s9.size = fb.length
          · rw [e]; simp
          · rw [decide_eq_false e, beq_eq_false_iff_ne]; omega
        have hwh := unhide HWH
        generalize hwb : decide (s9.size = fb.length) = wb at hwh
        have HWB := hide hwb
        clear hrU hbU hbx2U hhx2 hhU hdU sT sgT HRS HNR HB3' HS9 hs9 HOY hwb
        go_upto_region 13 with fail
        rw [← hU, ← hgu]
        clear hU hgu
        go_upto_region 14 with fail
        have a1' : (U.alloc (.cells #[.int .i64 (s9.first : Int), .slice rp s9.recs.length rc, .int .i64 (s9.size : Int)] 122)).cell? ⟨B, 1, none⟩ = some (.slice P1 l1.length pc1) := ((unhide HHU).below ((Below.refl _ _).alloc (Nat.le_refl _) _)).c1
        have a0' : U.drew.cell? ⟨B, 1, none⟩ = some (.slice P1 l1.length pc1) := c1U
        go_region_law (first
          | (refine stp_appg _ rfl _ _ rfl P1 pc1 l1 l1.length rfl rfl ((unhide HHU).ow.below (((Below.refl _ _).alloc (Nat.le_refl _) _).drew)) U.heap.size 1 ⟨s9.first, (rp, s9.recs.length, rc), s9.size⟩ rfl (heap_alloc_new U _) hlU ?_; intro R cR z1 HO1 HG1 HL1; have q1 : z1.cell? ⟨B, 1, none⟩ = some (.slice P1 l1.length pc1) := (unhide HHU).cellB (grown_undrew (unhide HG1)) 1 c1U; have q2 : z1.frozen? ⟨B, 1, none⟩ = false := (unhide HHU).frB (grown_undrew (unhide HG1)) 1)
          | fail)
        all_goals
          obtain ⟨g3, h3, s3⟩ := (unhide HHU).addS (unhide HSG) (unhide HO1) (grown_undrew (unhide HG1)) (unhide HL1)
          have HZ : Hid (LgS (z1.setCell ⟨B, 1, none⟩ (.slice (some ⟨R, 0, none⟩) (l1.length + 1) cR)) g3 B D (some ⟨R, 0, none⟩) cR (l1 ++ [⟨s9.first, (rp, s9.recs.length, rc), s9.size⟩]) (DD.2 ++ [s9]) ∧ DK (z1.setCell ⟨B, 1, none⟩ (.slice (some ⟨R, 0, none⟩) (l1.length + 1) cR)) g3 0 D DD.1 (N + q) ∧ St w1 (z1.setCell ⟨B, 1, none⟩ (.slice (some ⟨R, 0, none⟩) (l1.length + 1) cR)) g0 g3 X01) := ⟨h3, (unhide HDU).keep1 s3, (unhide HSU).trans (s3.mono (fun t ht => .inr ht))⟩
          obtain ⟨z2, hz2⟩ : ∃ z2, z2 = z1.setCell ⟨B, 1, none⟩ (.slice (some ⟨R, 0, none⟩) (l1.length + 1) cR) := ⟨_, rfl⟩
          rw [← hz2] at HZ ⊢
          clear hz2 h3 s3 q1 q2 HO1 HG1 HL1
          go_wp2_with fail
          go_roundw
          case rel => exact ⟨i + 1, g3, _, _, _, q, by omega, by go_num, (by rw [unhide HGA1, ← unhide HSQ]; show _ = Value.bool (decide (s9.size = fb.length)); rw [unhide HWB]), (by rw [unhide HGA1]; show q + (DD.2 ++ [_]).length ≤ _; simp; omega), (by rw [unhide HGA1, ← unhide HSQ]; exact (unhide HZ).1), (by rw [unhide HGA1]; exact (unhide HZ).2.1), (unhide HZ).2.2⟩
          case measure => simp [intOf]; omega
    · obtain rfl : i = ns.length := by omega
      rw [List.take_length] at hqi HH HD ⊢
      rw [unhide HNE] at HH HD HSK hqi
      have HX0 : Hid (w1.heap.size = w1.heap.size) := rfl
      obtain ⟨x, hx⟩ : ∃ x, x = ga M (L.filterMap numM) := ⟨_, rfl⟩
      rw [← hx] at HH HD HSK hqi
      have HXE := hide hx
      have hxl := (unhide HSK).len
      have c0 := (unhide HH).c0
      have c1 := (unhide HH).c1
      rw [(unhide HH).n] at c1
      have hq6 : N + q0 ≤ 1400 := by rw [unhide HNE] at hns3; omega
      clear hx HX0
      by_cases h0 : x.2.1.length = 0
      · have hS : x.2.1 = [] := List.eq_nil_of_length_eq_zero h0
        rw [h0] at c1
        have HLA := hide (last_nil c1)
        have HF : Hid (gaE x = 0 ∧ RL w wr g B D (gaC x) (N + 301) x.2.1) := by
          refine ⟨by unfold gaE; rw [hS]; rfl, ?_⟩
          have : gaC x = x.1 := by unfold gaC; rw [hS]; rfl
          rw [this]
          exact RL.monoN (N := N + q0) ⟨g', P', pc', l', unhide HH, unhide HD, (unhide HST0).trans (unhide HS)⟩ (by rw [unhide HNE] at hns3; omega)
        clear c1 hS h0
        go_wp2_with fail
        refine (unhide HLA).mono ?_
        rintro e v1 ⟨rfl, hv1⟩
        have hv2 := hv1.symm
        subst hv2
        clear hv1 HLA
        go_wp2_with fail
        go_ret
        exact ⟨L, HNM, by rw [← unhide HXE, (unhide HF).1]; rfl, by rw [← unhide HXE]; exact (unhide HF).2⟩
      · obtain ⟨m, hm⟩ : ∃ m, x.2.1.length = m + 1 := ⟨x.2.1.length - 1, by omega⟩
        obtain ⟨t9, s9, G, _, hs9, rfl, _, d0, _, d2, _⟩ := (unhide HH).at (i := m) (by omega)
        have hnx9 : s9.first + s9.recs.length ≤ 9223372036854775807 := (unhide HSK).nx s9 (List.mem_of_getElem? hs9)
        have hfm : s9.first ≤ 9223372036854775807 := by omega
        rw [hm] at c1
        have hm6 : m ≤ 1000000 := by omega
        have HLA := hide (last_cons c1 hm6)
        have HX : Hid (gaE x = x.1.cutE (nmS s9.first) (s9.size : Int) ∧ gaC x = x.1.cut (nmS s9.first) (s9.size : Int)) := by
          have e : x.2.1.getLast? = some s9 := by rw [getLast_at x.2.1 m hm, hs9]
          refine ⟨?_, ?_⟩
          · unfold gaE; rw [e]
          · unfold gaC; rw [e]
        have HBL : Hid (B < wr.heap.size) := (unhide HH).lt
        have HGL : Hid (G < wr.heap.size) := World.block_lt_of_cell? wr _ d0
        have HTG : Hid ((g' B).of 1 ∧ (g' G).of 1) := ⟨by rw [(unhide HH).gB]; rfl, by rw [(unhide HH).gP G rfl]; rfl⟩
        have HNO : Hid (∀ v, Below wr.heap.size wr v → Calls Tryz.prog 88 #[.int .i64 (s9.first : Int)] v fun e v' => e = .returned (.string (str (nmS s9.first))) ∧ Hid (Below v.heap.size v v')) := fun v hb => nameOf_any s9.first v hfm ((unhide HEE).below ((((unhide HLW1).st2 (unhide HS) x01o).bel hb).below) (Nat.le_refl _))
        have HCU : Hid (∀ v, Below wr.heap.size wr v → Calls Tryz.prog 104 #[.pointer (some ⟨D, 0, none⟩), .string (str (nmS s9.first)), .int .i64 (s9.size : Int)] v fun e v' => e = .returned (.int .i64 (x.1.cutE (nmS s9.first) (s9.size : Int))) ∧ Hid (RK v v' g' 0 D (x.1.cut (nmS s9.first) (s9.size : Int)) (N + q0 + 1))) := fun v hb => cut_k g' 0 D x.1 (N + q0) (nmS s9.first) (s9.size : Int) v ((unhide HD).below hb) hq6 (nm_max _ hfm)
        clear c1 hs9 hm h0 hnx9
        go_wp2_with fail
        refine (unhide HLA).mono ?_
        rintro e v1 ⟨rfl, HBv1⟩
        have k0v1 : v1.cell? ⟨B, 0, none⟩ = some (.pointer (some ⟨D, 0, none⟩)) := by rw [(unhide HBv1).cell (unhide HBL)]; exact c0
        have k1v1 : v1.cell? ⟨G, m * 3, none⟩ = some (.int .i64 (s9.first : Int)) := by rw [(unhide HBv1).cell (unhide HGL)]; exact d0
        have k2v1 : v1.cell? ⟨G, m * 3 + 2, none⟩ = some (.int .i64 (s9.size : Int)) := by rw [(unhide HBv1).cell (unhide HGL)]; exact d2
        clear HLA
        go_upto_region 18 with fail
        refine wp_region_held_drew (S := fun w' => w'.cell? ⟨B, 0, none⟩ = some (.pointer (some ⟨D, 0, none⟩)) ∧ w'.cell? ⟨G, m * 3, none⟩ = some (.int .i64 (s9.first : Int)) ∧ w'.cell? ⟨G, m * 3 + 2, none⟩ = some (.int .i64 (s9.size : Int))) (by kernel_rfl) (And.intro k0v1 (And.intro k1v1 k2v1)) (fun hHeld => ?_)
        refine wpAnyH_take (i := 0) (oi := ?_) (v := ?_) ?_ (by kernel_rfl) ?_ ?_ ?_ ?_ hHeld ?_
        rotate_left 2
        · (simp only [List.getElem?_toArray, List.getElem?_cons_zero]) <;> with_reducible rfl
        · kernel_rfl
        · kernel_rfl
        · exact fun _ _ _ h => h
        · exact Or.inl ⟨by rfl, by (intro w hSw; (try dsimp only at hSw); go_simp <;> with_reducible rfl)⟩
        simp only [Act.put, List.setIfInBounds_toArray, List.set_cons_zero, List.set_cons_succ]
        refine wpAnyH_take (i := 1) (oi := ?_) (v := ?_) ?_ (by kernel_rfl) ?_ ?_ ?_ ?_ hHeld ?_
        rotate_left 2
        · (simp only [List.getElem?_toArray, List.getElem?_cons_succ, List.getElem?_cons_zero]) <;> with_reducible rfl
        · kernel_rfl
        · kernel_rfl
        · exact fun _ _ _ h => h
        · exact Or.inl ⟨by rfl, by (intro w hSw; (try dsimp only at hSw); go_simp <;> with_reducible rfl)⟩
        simp only [Act.put, List.setIfInBounds_toArray, List.set_cons_zero, List.set_cons_succ]
        refine wpAnyH_take (i := 2) (oi := ?_) (v := ?_) ?_ (by kernel_rfl) ?_ ?_ ?_ ?_ hHeld ?_
        rotate_left 2
        · (simp only [List.getElem?_toArray, List.getElem?_cons_succ, List.getElem?_cons_zero]) <;> with_reducible rfl
        · kernel_rfl
        · kernel_rfl
        · exact fun _ _ _ h => h
        · exact Or.inl ⟨by rfl, by (intro w hSw; (try dsimp only at hSw); go_simp <;> with_reducible rfl)⟩
        simp only [Act.put, List.setIfInBounds_toArray, List.set_cons_zero, List.set_cons_succ]
        refine wpAnyH_take (i := 3) (oi := ?_) (v := ?_) ?_ (by kernel_rfl) ?_ ?_ ?_ ?_ hHeld ?_
        rotate_left 2
        · (simp only [List.getElem?_toArray, List.getElem?_cons_succ, List.getElem?_cons_zero]) <;> with_reducible rfl
        · kernel_rfl
        · kernel_rfl
        · exact fun _ _ _ h => h
        · exact Or.inl ⟨by rfl, by (intro w hSw; (try dsimp only at hSw); go_simp <;> with_reducible rfl)⟩
        simp only [Act.put, List.setIfInBounds_toArray, List.set_cons_zero, List.set_cons_succ]
        refine wpAnyH_take (i := 4) (oi := ?_) (v := ?_) ?_ (by kernel_rfl) ?_ ?_ ?_ ?_ hHeld ?_
        rotate_left 2
        · (simp only [List.getElem?_toArray, List.getElem?_cons_succ, List.getElem?_cons_zero]) <;> with_reducible rfl
        · kernel_rfl
        · kernel_rfl
        · exact fun _ _ _ h => h
        · exact Or.inl ⟨by rfl, by (intro w hSw; (try dsimp only at hSw); go_simp <;> with_reducible rfl)⟩
        simp only [Act.put, List.setIfInBounds_toArray, List.set_cons_zero, List.set_cons_succ]
        refine wpAnyH_take (i := 5) (oi := ?_) (v := ?_) ?_ (by kernel_rfl) ?_ ?_ ?_ ?_ hHeld ?_
        rotate_left 2
        · (simp only [List.getElem?_toArray, List.getElem?_cons_succ, List.getElem?_cons_zero]) <;> with_reducible rfl
        · kernel_rfl
        · kernel_rfl
        · exact fun _ _ _ h => h
        · exact Or.inl ⟨by rfl, by (intro w hSw; (try dsimp only at hSw); go_simp <;> with_reducible rfl)⟩
        simp only [Act.put, List.setIfInBounds_toArray, List.set_cons_zero, List.set_cons_succ]
        refine wpAnyH_take (i := 6) (oi := ?_) (v := ?_) ?_ (by kernel_rfl) ?_ ?_ ?_ ?_ hHeld ?_
        rotate_left 2
        · (simp only [List.getElem?_toArray, List.getElem?_cons_succ, List.getElem?_cons_zero]) <;> with_reducible rfl
        · kernel_rfl
        · kernel_rfl
        · exact fun _ _ _ h => h
        · exact Or.inl ⟨by rfl, by (intro w hSw; (try dsimp only at hSw); go_simp <;> with_reducible rfl)⟩
        simp only [Act.put, List.setIfInBounds_toArray, List.set_cons_zero, List.set_cons_succ]
        refine wpAnyH_take (i := 7) (oi := ?_) (v := ?_) ?_ (by kernel_rfl) ?_ ?_ ?_ ?_ hHeld ?_
        rotate_left 2
        · (simp only [List.getElem?_toArray, List.getElem?_cons_succ, List.getElem?_cons_zero]) <;> with_reducible rfl
        · kernel_rfl
        · kernel_rfl
        · exact fun _ _ _ h => h
        · exact Or.inl ⟨by rfl, by (intro w hSw; (try dsimp only at hSw); go_simp <;> with_reducible rfl)⟩
        simp only [Act.put, List.setIfInBounds_toArray, List.set_cons_zero, List.set_cons_succ]
        refine wpAnyH_take (i := 9) (oi := ?_) (v := ?_) ?_ (by kernel_rfl) ?_ ?_ ?_ ?_ hHeld ?_
        rotate_left 2
        · (simp only [List.getElem?_toArray, List.getElem?_cons_succ, List.getElem?_cons_zero]) <;> with_reducible rfl
        · kernel_rfl
        · kernel_rfl
        · exact fun _ _ _ h => h
        · exact Or.inl ⟨by rfl, by (intro w hSw; (try dsimp only at hSw); go_simp <;> with_reducible rfl)⟩
        simp only [Act.put, List.setIfInBounds_toArray, List.set_cons_zero, List.set_cons_succ]
        refine wpAnyH_take (i := 10) (oi := ?_) (v := ?_) ?_ (by kernel_rfl) ?_ ?_ ?_ ?_ hHeld ?_
        rotate_left 2
        · (simp only [List.getElem?_toArray, List.getElem?_cons_succ, List.getElem?_cons_zero]) <;> with_reducible rfl
        · kernel_rfl
        · kernel_rfl
        · exact fun _ _ _ h => h
        · exact Or.inl ⟨by rfl, by (intro w hSw; (try dsimp only at hSw); go_simp <;> with_reducible rfl)⟩
        simp only [Act.put, List.setIfInBounds_toArray, List.set_cons_zero, List.set_cons_succ]
        refine wpAnyH_take (i := 11) (oi := ?_) (v := ?_) ?_ (by kernel_rfl) ?_ ?_ ?_ ?_ hHeld ?_
        rotate_left 2
        · (simp only [List.getElem?_toArray, List.getElem?_cons_succ, List.getElem?_cons_zero]) <;> with_reducible rfl
        · kernel_rfl
        · kernel_rfl
        · exact fun _ _ _ h => h
        · exact Or.inl ⟨by rfl, by (intro w hSw; (try dsimp only at hSw); go_simp <;> with_reducible rfl)⟩
        simp only [Act.put, List.setIfInBounds_toArray, List.set_cons_zero, List.set_cons_succ]
        refine wpAnyH_take (i := 12) (oi := ?_) (v := ?_) ?_ (by kernel_rfl) ?_ ?_ ?_ ?_ hHeld ?_
        rotate_left 2
        · (simp only [List.getElem?_toArray, List.getElem?_cons_succ, List.getElem?_cons_zero]) <;> with_reducible rfl
        · kernel_rfl
        · kernel_rfl
        · exact fun _ _ _ h => h
        · exact Or.inl ⟨by rfl, by (intro w hSw; (try dsimp only at hSw); go_simp <;> with_reducible rfl)⟩
        simp only [Act.put, List.setIfInBounds_toArray, List.set_cons_zero, List.set_cons_succ]
        refine wpAnyH_ready (rs := [8]) (by kernel_rfl) (by simp) (AllReadyH.cons (o := ?_) ?_ (fun K hK => ?_) AllReadyH.nil)
        rotate_left 1
        · (simp only [List.getElem?_toArray, List.getElem?_cons_succ, List.getElem?_cons_zero]) <;> with_reducible rfl
        go_simp
        refine (unhide HNO _ (unhide HBv1).drew).mono ?_
        rintro e x1 ⟨rfl, HBx1'⟩
        have HBx1 : Hid (Below wr.heap.size wr x1) := (unhide HBv1).drew.trans ((unhide HBx1').mono (unhide HBv1).size)
        have k0x1 : x1.cell? ⟨B, 0, none⟩ = some (.pointer (some ⟨D, 0, none⟩)) := by rw [(unhide HBx1).cell (unhide HBL)]; exact c0
        have k1x1 : x1.cell? ⟨G, m * 3, none⟩ = some (.int .i64 (s9.first : Int)) := by rw [(unhide HBx1).cell (unhide HGL)]; exact d0
        have k2x1 : x1.cell? ⟨G, m * 3 + 2, none⟩ = some (.int .i64 (s9.size : Int)) := by rw [(unhide HBx1).cell (unhide HGL)]; exact d2
        clear HBx1' hHeld
        refine hK.out _ _ (And.intro k0x1 (And.intro k1x1 k2x1)) (fun hHeld => ?_)
        clear hK K
        try simp only [Act.put, List.setIfInBounds_toArray, List.set_cons_zero, List.set_cons_succ]
        refine wpAnyH_ready (rs := [13]) (by kernel_rfl) (by simp) (AllReadyH.cons (o := ?_) ?_ (fun K hK => ?_) AllReadyH.nil)
        rotate_left 1
        · (simp only [List.getElem?_toArray, List.getElem?_cons_succ, List.getElem?_cons_zero]) <;> with_reducible rfl
        go_simp
        refine (unhide HCU _ (unhide HBx1)).mono ?_
        rintro e x2 ⟨rfl, HRK⟩
        have k0x2 : x2.cell? ⟨B, 0, none⟩ = some (.pointer (some ⟨D, 0, none⟩)) := (unhide HRK).cells k0x1 (unhide HTG).1
        have k1x2 : x2.cell? ⟨G, m * 3, none⟩ = some (.int .i64 (s9.first : Int)) := (unhide HRK).cells k1x1 (unhide HTG).2
        have k2x2 : x2.cell? ⟨G, m * 3 + 2, none⟩ = some (.int .i64 (s9.size : Int)) := (unhide HRK).cells k2x1 (unhide HTG).2
        clear hHeld
        refine hK.out _ _ (And.intro k0x2 (And.intro k1x2 k2x2)) (fun hHeld => ?_)
        clear hK K
        try simp only [Act.put, List.setIfInBounds_toArray, List.set_cons_zero, List.set_cons_succ]
        refine wpAnyH_take (i := 14) (oi := ?_) (v := ?_) ?_ (by kernel_rfl) ?_ ?_ ?_ ?_ hHeld ?_
        rotate_left 2
        · (simp only [List.getElem?_toArray, List.getElem?_cons_succ, List.getElem?_cons_zero]) <;> with_reducible rfl
        · kernel_rfl
        · kernel_rfl
        · exact fun _ _ _ h => h
        · exact Or.inl ⟨by rfl, by (intro w hSw; (try dsimp only at hSw); go_simp <;> with_reducible rfl)⟩
        simp only [Act.put, List.setIfInBounds_toArray, List.set_cons_zero, List.set_cons_succ]
        refine wpAnyH_done (by kernel_rfl) ?_ _
        have HF : Hid (RL w x2 g B D (gaC x) (N + 301) x.2.1) := by
          show RL _ _ _ _ _ _ _ _
          rw [(unhide HX).2]
          exact (RL.from ((unhide HST0).trans ((unhide HS).trans (St.ofBelow g' X01 (unhide HBx1)))) (RL.disk ((unhide HH).below (unhide HBx1)) (unhide HRK))).monoN (by rw [unhide HNE] at hns3; omega)
        clear HRK HCU HNO
        go_wp2_with fail
        go_ret
        exact ⟨L, HNM, by rw [← unhide HXE, (unhide HX).1]; rfl, by rw [← unhide HXE]; exact HF⟩
#print axioms gather5
end Go.Proofs.YtmcgghjeocnpnaaGreatDoor
end
section
set_option linter.unusedVariables false
set_option maxRecDepth 1000000
namespace Go.Proofs.YtmcgghjeocnpnaaGreatDoor
open Go.RowKit Go.Maps

/-- What Open leaves. -/
def OpR (w w' : World) (g : Nat → Tg) (D : Nat) (M : Md) (N B : Nat) : Prop := ∃ L g' P pc l, Nms M.seen L ∧ LgS w' g' B D P pc l (ga M (L.filterMap numM)).2.1 ∧ DK w' g' 0 D (gaC (ga M (L.filterMap numM))).flush (N + 302) ∧ St w w' g g' X01
set_option maxHeartbeats 4000000 in
theorem open5 (w0 : World) (g : Nat → Tg) (D : Nat) (M : Md) (N : Nat) (w : World) (hE : EnvS w0) (hL : LW w0 w g) (hd : DK w g 0 D M N) (hN : N ≤ 1000) (hnm : ∀ n, M.seen n ≠ none → n.length ≤ 24)
    (hgo : ∀ L, Nms M.seen L → (L.filterMap numM).length ≤ 300 ∧ (∀ i n, (L.filterMap numM)[i]? = some n → GaOk (ga M ((L.filterMap numM).take i)) n) ∧ SOk (ga M (L.filterMap numM)).2.1 ∧ gaE (ga M (L.filterMap numM)) = 0) :
    Calls Tryz.prog 46 #[.pointer (some ⟨D, 0, none⟩)] w fun e w' => ∃ B, e = .returned (.tuple #[.pointer (some ⟨B, 0, none⟩), .int .i64 0]) ∧ Hid (OpR w w' g D M N B) := by
  obtain ⟨V, hV⟩ : ∃ V, V = w.alloc (.cells #[.pointer (some ⟨D, 0, none⟩), .slice none 0 0] 120) := ⟨_, rfl⟩
  obtain ⟨B, hB⟩ : ∃ B, B = w.heap.size := ⟨_, rfl⟩
  have hbV : Below w.heap.size w V := by rw [hV]; exact (Below.refl _ _).alloc (Nat.le_refl _) _
  have hrV : V.heap[B]? = some (.cells #[.pointer (some ⟨D, 0, none⟩), .slice none 0 0] 120 (0, 0)) := by rw [hB, hV]; exact heap_alloc_new _ _
  obtain ⟨g1, hg1⟩ : ∃ g1 : Nat → Tg, g1 = fun b => if b < w.heap.size then g b else .d 1 := ⟨_, rfl⟩
  have st1 : St w V g g1 (fun _ => False) := (St.ofBelow g _ hbV).tag (fun k hk => by rw [hg1]; exact if_pos hk)
  have hlg : LgS V g1 B D none 0 [] [] := ⟨hrV, by rw [hg1, hB]; exact if_neg (Nat.lt_irrefl _), (fun k hk => by simp [blk] at hk), OwnG.nil _, rfl, (fun i t s ht => by simp at ht)⟩
  have hd1 := hd.keep1 (st1.mono (fun t e => e.elim))
  have hL1 := hL.st2 st1 (fun e => e)
  have HGA := hide (gather5 w0 g1 B D M N V hE hL1 hlg hd1 hN hnm (fun L hl => ⟨(hgo L hl).1, (hgo L hl).2.1, (hgo L hl).2.2.1⟩))
  have HGE : Hid (∀ L, Nms M.seen L → gaE (ga M (L.filterMap numM)) = 0) := fun L hl => (hgo L hl).2.2.2
  have HST1 : Hid (St w V g g1 X01) := st1.mono (fun t e => e.elim)
  clear hbV hrV st1 hlg hd1 hL1 hg1 hgo hnm hd hL hE
  go_enter Tryz.func46, Tryz.ntmps46
  go_upto_region 2 with fail
  rw [← hV, ← hB]
  clear hV hB
  go_wp2_with fail
  refine (unhide HGA).mono ?_
  rintro e w1 ⟨L, HNL, he, HRL⟩
  rw [unhide HGE L (unhide HNL)] at he
  subst he
  obtain ⟨g2, P2, pc2, l2, h1, h2, h3⟩ := unhide HRL
  have HFL := hide (flush_k g2 0 D _ (N + 301) w1 h2 (by omega))
  have HH := hide h1
  have HS2 := hide h3
  clear HGA HRL h1 h2 h3
  go_wp2_with fail
  refine (unhide HFL).mono ?_
  rintro e w2 ⟨rfl, hrk⟩
  have HF : Hid (OpR w w2 g D M N B) := by
    obtain ⟨g3, P3, pc3, l3, k1, k2, k3⟩ := RL.disk (unhide HH) hrk
    exact ⟨L, g3, P3, pc3, l3, unhide HNL, k1, k2, ((unhide HST1).trans (unhide HS2)).trans k3⟩
  clear HFL hrk
  go_wp2_with fail
  go_ret2
  exact ⟨B, rfl, HF⟩
#print axioms open5
/-- Of a disk without files there is an empty log. -/
theorem nms_empty {f : Files} (h : ∀ n, f n = none) {L : List Nm} (hl : Nms f L) : L = [] := by
  cases L with
  | nil => rfl
  | cons a r => exact absurd (h a) ((hl.mem a).1 (by simp))
theorem sok_nil : SOk [] := ⟨by simp, by simp, by simp [bySz], by simp, by simp⟩
theorem open_new (w0 : World) (g : Nat → Tg) (D : Nat) (z : Int) (N : Nat) (w : World) (hE : EnvS w0) (hL : LW w0 w g) (hd : DK w g 0 D (Md.new z) N) (hN : N ≤ 1000) :
    Calls Tryz.prog 46 #[.pointer (some ⟨D, 0, none⟩)] w fun e w' => ∃ B, e = .returned (.tuple #[.pointer (some ⟨B, 0, none⟩), .int .i64 0]) ∧ Hid (∃ g' P pc l, LgS w' g' B D P pc l [] ∧ DK w' g' 0 D (Md.new z) (N + 302) ∧ St w w' g g' X01) := by
  have hno : ∀ n, (Md.new z).seen n = none := fun _ => rfl
  refine (open5 w0 g D (Md.new z) N w hE hL hd hN (fun n h => absurd (hno n) h) (fun L hl => ?_)).mono ?_
  · obtain rfl := nms_empty hno hl
    exact ⟨by simp, by simp, sok_nil, rfl⟩
  · rintro e w' ⟨B, rfl, h⟩
    obtain ⟨L, g', P, pc, l, h1, h2, h3, h4⟩ := unhide h
    obtain rfl := nms_empty hno h1
    exact ⟨B, rfl, g', P, pc, l, h2, h3, h4⟩
#print axioms open_new
end Go.Proofs.YtmcgghjeocnpnaaGreatDoor
end
section
set_option linter.unusedVariables false
set_option maxRecDepth 1000000
namespace Go.Proofs.YtmcgghjeocnpnaaGreatDoor
open Go.RowKit Go.Maps

theorem NoDisk.below5 {w w' : World} {p : Option Addr} (h : NoDisk w p) {B : Nat} (hb : Below B w w') (hB : w.heap.size ≤ B) : NoDisk w' p := by
  rcases h with h | ⟨Z, h, hz⟩
  · exact .inl h
  · exact .inr ⟨Z, h, by rw [hb.cell (Nat.lt_of_lt_of_le (World.block_lt_of_cell? w _ hz) hB)]; exact hz⟩
theorem nflush5 (p : Option Addr) (w : World) (h : NoDisk w p) : Calls Tryz.prog 68 #[.pointer p] w fun e w' => e = .returned (.int .i64 8) ∧ w' = w := by
  go_enter Tryz.func68, Tryz.ntmps68
  go_wp2_with fail
  refine (unmade_yes p w h).mono ?_
  rintro e w' ⟨rfl, rfl⟩
  go_wp2
  go_ret
  exact ⟨rfl, rfl⟩
theorem nlist5 (p : Option Addr) (w : World) (h : NoDisk w p) : Calls Tryz.prog 131 #[.pointer p] w fun e w' => e = .returned (.slice none 0 0) ∧ w' = w := by
  go_enter Tryz.func131, Tryz.ntmps131
  go_wp2_with fail
  refine (unmade_yes p w h).mono ?_
  rintro e w' ⟨rfl, rfl⟩
  go_wp2
  go_ret
  exact ⟨rfl, rfl⟩
theorem nnums5 (p : Option Addr) (w : World) (h : NoDisk w p) : Calls Tryz.prog 100 #[.pointer p] w fun e w' => e = .returned (.slice none 0 0) ∧ w' = w := by
  have HLI := hide (nlist5 p w h)
  clear h
  go_enter Tryz.func100, Tryz.ntmps100
  go_wp2_with fail
  refine (unhide HLI).mono ?_
  rintro e w' ⟨rfl, rfl⟩
  go_wp2_with fail
  refine wp_loop_rounds 1 ?_
  rw [rounds_succ]
  go_wp2_with fail
  go_ret
  exact ⟨rfl, rfl⟩
theorem ngather5 (B : Nat) (p : Option Addr) (w : World) (h : NoDisk w p) (c0 : w.cell? ⟨B, 0, none⟩ = some (.pointer p)) (c1 : w.cell? ⟨B, 1, none⟩ = some (.slice none 0 0)) :
    Calls Tryz.prog 74 #[.pointer (some ⟨B, 0, none⟩)] w fun e w' => e = .returned (.int .i64 0) ∧ w' = w := by
  have HNU := hide (nnums5 p w h)
  have HLA := hide (last_nil c1)
  clear h
  go_enter Tryz.func74, Tryz.ntmps74
  go_wp2_with fail
  refine (unhide HNU).mono ?_
  rintro e w' ⟨rfl, rfl⟩
  go_wp2_with fail
  refine wp_loop_rounds 1 ?_
  rw [rounds_succ]
  go_wp2_with fail
  refine (unhide HLA).mono ?_
  rintro e w' ⟨rfl, rfl⟩
  go_wp2_with fail
  go_ret
  exact ⟨rfl, rfl⟩
theorem nopen5 (p : Option Addr) (w : World) (h : NoDisk w p) : Calls Tryz.prog 46 #[.pointer p] w fun e w' => e = .returned (.tuple #[.pointer none, .int .i64 8]) ∧ Hid (Below w.heap.size w w') := by
  obtain ⟨V, hV⟩ : ∃ V, V = w.alloc (.cells #[.pointer p, .slice none 0 0] 120) := ⟨_, rfl⟩
  obtain ⟨B, hB⟩ : ∃ B, B = w.heap.size := ⟨_, rfl⟩
  have hbV : Below w.heap.size w V := by rw [hV]; exact (Below.refl _ _).alloc (Nat.le_refl _) _
  have hrV : V.heap[B]? = some (.cells #[.pointer p, .slice none 0 0] 120 (0, 0)) := by rw [hB, hV]; exact heap_alloc_new _ _
  have hn := h.below5 hbV (Nat.le_refl _)
  have HG := hide (ngather5 B p V hn (cell_of_row _ _ _ _ _ _ hrV) (cell_of_row _ _ _ _ _ _ hrV))
  have HF := hide (nflush5 p V hn)
  have HBV := hide hbV
  clear hbV hrV hn h
  go_enter Tryz.func46, Tryz.ntmps46
  go_upto_region 2 with fail
  rw [← hV, ← hB]
  clear hV hB
  go_wp2_with fail
  refine (unhide HG).mono ?_
  rintro e w' ⟨rfl, hw1⟩
  have hw2 := hw1.symm
  subst hw2
  clear hw1
  go_wp2_with fail
  refine (unhide HF).mono ?_
  rintro e w' ⟨rfl, hw1⟩
  have hw2 := hw1.symm
  subst hw2
  clear hw1
  go_wp2_with fail
  go_ret2
  exact ⟨rfl, HBV⟩
#print axioms nopen5
end Go.Proofs.YtmcgghjeocnpnaaGreatDoor
end
section
set_option linter.unusedVariables false
namespace Go.Proofs.YtmcgghjeocnpnaaGreatDoor

theorem doF_other {f : Files} {a : Ac} {m : Nm} (h : m ≠ a.n) : doF f a m = f m := by
  unfold doF
  split
  · exact upd_other _ _ _ _ h
  · split
    · split
      · exact upd_other _ _ _ _ h
      · rfl
    · exact upd_other _ _ _ _ h
theorem doF_same {f f' : Files} {a : Ac} {m : Nm} (h : f m = f' m) : doF f a m = doF f' a m := by
  by_cases hm : m = a.n
  · subst hm
    have hg : fget f a.n = fget f' a.n := by unfold fget; rw [h]
    unfold doF
    rw [hg]
    split
    · rw [upd_same, upd_same]
    · split
      · split
        · rw [upd_same, upd_same]
        · exact h
      · rw [upd_same, upd_same]
  · rw [doF_other hm, doF_other hm, h]
theorem fold_same (l : List Ac) {f f' : Files} {m : Nm} (h : f m = f' m) : l.foldl doF f m = l.foldl doF f' m := by
  induction l generalizing f f' with
  | nil => exact h
  | cons a r ih => exact ih (doF_same h)
theorem fold_other (l : List Ac) {f : Files} {m : Nm} (h : ∀ a ∈ l, a.n ≠ m) : l.foldl doF f m = f m := by
  induction l generalizing f with
  | nil => rfl
  | cons a r ih =>
    show r.foldl doF (doF f a) m = _
    rw [ih (fun b hb => h b (List.mem_cons_of_mem _ hb)), doF_other (fun e => h a List.mem_cons_self e.symm)]
/-- Only the acts on a name count for it. -/
theorem fold_at (l : List Ac) (f : Files) (m : Nm) : l.foldl doF f m = (l.filter (isN m)).foldl doF f m := by
  induction l generalizing f with
  | nil => rfl
  | cons a r ih =>
    show r.foldl doF (doF f a) m = _
    by_cases h : a.n = m
    · rw [List.filter_cons_of_pos (by simp [isN, h])]
      exact ih (doF f a)
    · rw [List.filter_cons_of_neg (by simp [isN, h]), ← ih f]
      exact fold_same r (doF_other (fun e => h e.symm))
/-- Acts on one name may come first. -/
theorem fold_part (l : List Ac) (f : Files) (n : Nm) : (l.filter (fun a => !(isN n a))).foldl doF ((l.filter (isN n)).foldl doF f) = l.foldl doF f := by
  funext m
  by_cases h : m = n
  · subst h
    rw [fold_other _ (fun a ha => by simp [isN] at ha; exact ha.2), ← fold_at]
  · rw [fold_at _ _ m, List.filter_filter, fold_at l f m]
    have e : (l.filter (fun a => isN m a && !(isN n a))) = l.filter (isN m) := by
      apply List.filter_congr
      intro a _
      simp only [isN]
      by_cases h1 : a.n = m
      · subst h1; simp [h]
      · simp [h1]
    rw [e]
    exact fold_same _ (fold_other _ (fun a ha => by simp [isN] at ha; rw [ha.2]; exact fun e => h e.symm))

def Named (f : Files) : Prop := ∀ n, f n ≠ none → isName n = true
theorem Named.doF {f : Files} {a : Ac} (h : Named f) (ha : isName a.n = true) : Named (doF f a) := by
  intro n hn
  by_cases e : n = a.n
  · rw [e]; exact ha
  · rw [doF_other e] at hn; exact h n hn
theorem Named.fold {l : List Ac} {f : Files} (h : Named f) (hl : ∀ a ∈ l, isName a.n = true) : Named (l.foldl Go.Proofs.YtmcgghjeocnpnaaGreatDoor.doF f) := by
  induction l generalizing f with
  | nil => exact h
  | cons a r ih => exact ih (h.doF (hl a List.mem_cons_self)) (fun b hb => hl b (List.mem_cons_of_mem _ hb))
structure Inv (M : Md) : Prop where
  last : Named M.last
  pend : ∀ a ∈ M.pend, isName a.n = true
  sn : M.seen = M.pend.foldl doF M.last
theorem Inv.seen {M : Md} (h : Inv M) : Named M.seen := by rw [h.sn]; exact h.last.fold h.pend
theorem Inv.new (z : Int) : Inv (Md.new z) := ⟨fun n h => absurd rfl h, fun a ha => by simp [Md.new] at ha, rfl⟩
theorem Inv.perform {M : Md} (h : Inv M) {a : Ac} (ha : isName a.n = true) : Inv (M.perform a) := by
  refine ⟨h.last, fun b hb => ?_, ?_⟩
  · have hb' : b ∈ M.pend ++ [a] := hb
    rw [List.mem_append] at hb'
    rcases hb' with hb' | hb'
    · exact h.pend b hb'
    · simp at hb'; subst hb'; exact ha
  · show doF M.seen a = (M.pend ++ [a]).foldl doF M.last
    rw [List.foldl_append, ← h.sn]
    rfl
theorem there_name {M : Md} {n : Nm} (h : M.thereE n = 0) : isName n = true ∧ (M.seen n).isSome = true := by
  unfold Md.thereE at h
  split at h
  · split at h
    · exact ⟨‹_›, ‹_›⟩
    · omega
  · omega
theorem write_name {M : Md} {n : Nm} {k : Nat} (h : M.writeE n k = 0) : isName n = true := by
  unfold Md.writeE at h
  split at h
  · assumption
  · omega
theorem cut_name {M : Md} {n : Nm} {z : Int} (h : M.cutE n z = 0) : M.thereE n = 0 := by
  unfold Md.cutE at h
  split at h
  · assumption
  · assumption
theorem Inv.write {M : Md} (h : Inv M) (n : Nm) (b : List UInt8) : Inv (M.write n b) := by
  unfold Md.write
  split
  · exact h.perform (write_name ‹_›)
  · exact h
theorem Inv.cut {M : Md} (h : Inv M) (n : Nm) (z : Int) : Inv (M.cut n z) := by
  unfold Md.cut
  split
  · exact h.perform (there_name (cut_name ‹_›)).1
  · exact h
theorem Inv.drop {M : Md} (h : Inv M) (n : Nm) : Inv (M.drop n) := by
  unfold Md.drop
  split
  · exact h.perform (there_name ‹_›).1
  · exact h
theorem sync_seen (M : Md) (n : Nm) : (M.sync n).seen = M.seen := by
  unfold Md.sync
  split
  · show ((M.pend.filter (isN n)).foldl Md.lasts M).seen = _
    exact (lasts_keep _ _).2.1
  · rfl
theorem Inv.sync {M : Md} (h : Inv M) (n : Nm) : Inv (M.sync n) := by
  have hs := sync_seen M n
  unfold Md.sync at hs ⊢
  split
  · rename_i ht
    rw [if_pos ht] at hs
    have hl : ((M.synced n).settle n).last = (M.pend.filter (isN n)).foldl doF M.last := lasts_last _ _
    refine ⟨?_, fun a ha => ?_, ?_⟩
    · rw [hl]; exact h.last.fold (fun a ha => h.pend a (List.mem_filter.1 ha).1)
    · have ha' : a ∈ M.pend.filter (fun a => !(isN n a)) := ha
      exact h.pend a (List.mem_filter.1 ha').1
    · rw [hs, hl]
      show _ = (M.pend.filter (fun a => !(isN n a))).foldl doF _
      rw [fold_part, h.sn]
  · exact h
theorem flush_last (M : Md) : M.flush.last = M.pend.foldl doF M.last := land_last _ _
theorem flush_seen (M : Md) : M.flush.seen = M.seen := (land_pend _ _).2.1
theorem Inv.flush {M : Md} (h : Inv M) : Inv M.flush := by
  refine ⟨?_, fun a ha => by simp [Md.flush] at ha, ?_⟩
  · rw [flush_last]; exact h.last.fold h.pend
  · rw [flush_seen, h.sn]
    show _ = M.flush.last
    rw [flush_last]
theorem crash_last (M : Md) (kl : List Bool) (z : Int) : (M.crash kl z).last = (tornLast (keptL M.pend kl) z).foldl doF M.last := by
  show (M.pend.foldl (fun m a => m.settle a.n) ((tornLast (keptL M.pend kl) z).foldl Md.lasts M).reseen).last = _
  rw [(settles_keep _ _).2.2.2.2.1]
  exact lasts_last _ _
theorem crash_seen (M : Md) (kl : List Bool) (z : Int) : (M.crash kl z).seen = (M.crash kl z).last := by
  show (M.pend.foldl (fun m a => m.settle a.n) ((tornLast (keptL M.pend kl) z).foldl Md.lasts M).reseen).seen = (M.pend.foldl (fun m a => m.settle a.n) ((tornLast (keptL M.pend kl) z).foldl Md.lasts M).reseen).last
  rw [(settles_keep _ _).2.1, (settles_keep _ _).2.2.2.2.1]
  rfl
theorem Inv.crash {M : Md} (h : Inv M) (kl : List Bool) (z : Int) : Inv (M.crash kl z) := by
  refine ⟨?_, fun a ha => by simp [Md.crash] at ha, ?_⟩
  · rw [crash_last]
    refine h.last.fold (fun a ha => ?_)
    obtain ⟨b, hb, e⟩ := tornLast_mem ha
    rw [e.2.1]
    exact h.pend b (keptL_mem _ _ _ hb)
  · exact crash_seen M kl z
end Go.Proofs.YtmcgghjeocnpnaaGreatDoor
end
