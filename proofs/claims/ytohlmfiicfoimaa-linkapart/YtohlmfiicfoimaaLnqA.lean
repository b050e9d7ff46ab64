/-
  link: Cut, Conns; slices.Contains of ints.
-/
import Derived.Test.YtohlmfiicfoimaaLnoE
import Derived.Test.YtohlmfiicfoimaaIti
set_option linter.unusedVariables false
namespace Go.Proofs.Ytohlmfiicfoimaa
open Go.RowKit Go.Maps Go.Sort Go.Shelf

/-! ### Cut -/
theorem NT.lookV {w : World} {N bm : Nat} {last : Int} {n : Nat} {D : DataW Unit} (h : NT w N bm last n D) {id : Int} (hid : (Lit.int .i64 id).wf = true) (ha : Maps.has D (.int .i64 id) = true) :
    ∃ v, (Instr.lookup 57 (.map (some bm)) (.int .i64 id) true).run Try.prog w = .ok (.tuple #[v, .bool true]) w := by
  obtain ⟨v, ps, hrun, hv⟩ := h.own.look_ok law Try.underlying57 (zeroP w) (zd := .nil) (zp := []) rfl (key_of id hid)
  rw [ha] at hrun
  exact ⟨v, hrun⟩
set_option maxHeartbeats 2000000 in
theorem conn_v (N bm : Nat) (last : Int) (n : Nat) (D : DataW Unit) (id : Int) (w : World) (h : NT w N bm last n D) (hid : (Lit.int .i64 id).wf = true) (ha : Maps.has D (.int .i64 id) = true) :
    Calls Try.prog 39 #[.pointer (some ⟨N, 0, none⟩), .int .i64 id] w fun e w' => (∃ v, e = .returned (.tuple #[v, .int .i64 0])) ∧ w' = w := by
  have e0 := h.n0
  obtain ⟨v, hl⟩ := h.lookV hid ha
  go_enter Try.func39, Try.ntmps39
  go_wp2_with fail
  refine (unmade_not N bm w e0).mono ?_
  rintro e w' ⟨rfl, rfl⟩
  go_wp2
  go_ret2
  exact ⟨⟨_, rfl⟩, rfl⟩
set_option maxHeartbeats 2000000 in
theorem cut_any (N bm : Nat) (last : Int) (n : Nat) (D : DataW Unit) (id : Int) (w : World) (h : NT w N bm last n D) (hid : (Lit.int .i64 id).wf = true) :
    Calls Try.prog 17 #[.pointer (some ⟨N, 0, none⟩), .int .i64 id] w fun e w' => ∃ z D', e = .returned (.int .i64 z) ∧ Hid (NT w' N bm last n D') ∧ Hid (Kp w w' (fun j => j = bm)) ∧ Hid (D' = D ∨ D' = D.del (.int .i64 id)) := by
  have e0 := h.n0
  have hkey := key_of id hid
  have hown := h.own
  cases ha : Maps.has D (.int .i64 id) with
  | false =>
    go_enter Try.func17, Try.ntmps17
    go_wp2_with fail
    refine (conn_off N bm last n D id w h hid ha).mono ?_
    rintro e w' ⟨rfl, rfl⟩
    go_wp2
    go_ret
    exact ⟨_, D, rfl, h, Kp.of (Below.refl _ _), .inl rfl⟩
  | true =>
    go_enter Try.func17, Try.ntmps17
    go_wp2_with fail
    refine (conn_v N bm last n D id w h hid ha).mono ?_
    rintro e w' ⟨⟨v, rfl⟩, rfl⟩
    go_wp2_with (at_delete; refine wpList_delete_own _ rfl _ _ 57 3 rfl 68 law Try.underlying57 _ bm n D rfl hown _ _ rfl hkey ?_; intro w2 hown2 hturn2)
    go_ret
    refine ⟨_, _, rfl, ⟨?_, hown2⟩, Kp.ofG hturn2.grown (fun k hk => by simp at hk; exact hk.symm), .inr rfl⟩
    rw [hturn2.grown.block N h.ltN (by simp; exact h.neNM)]
    exact h.net
#print axioms cut_any

/-! ### Conns -/
theorem sortsI (m : Nat) : AnyZI.SortsIn Try.prog Try.sortedI_ren Fence.wide m :=
  ⟨fun blk off cap ss W hH hblk hsz => callsIn_wide.2 (AnyM.slices_Sort_int Try.sortI blk off cap ss W hH hblk hsz),
   fun p cap W => callsIn_wide.2 (AnyM.slices_Sort_int_none Try.sortI p cap W)⟩
theorem keysI_c (mb : Option Nat) (W : World) : Calls Try.prog 38 #[.map mb] W fun e w' => e = .returned (.func (.func 54) #[] #[.pointer (some ⟨W.heap.size, 0, none⟩)]) ∧ w' = W.alloc (.cells #[.map mb] 57) :=
  callsIn_wide.1 (AnyZI.keys_in Try.keysI Fence.wide 5 trivial rfl mb W)
set_option maxHeartbeats 1000000 in
theorem sortedI_c {H : Type} (b nn : Nat) (D0 : DataW H) (R : Value → Option (DataW H × List MemPlace)) (w : World) (hown : w.ownsMap Try.prog 3 R b nn D0) (hmax : Maps.size D0 ≤ maxLen) (hbytes : Maps.size D0 * 8 ≤ 140737488355328) :
    Calls Try.prog 37 #[.func (.func 54) #[] #[.pointer (some ⟨w.heap.size, 0, none⟩)]] (w.alloc (.cells #[.map (some b)] 57)) fun e w' => ∃ (v : Value) (ss : List Int), e = .returned v ∧ ss.Perm (intKeys D0) ∧
      w'.ownsRow (w.alloc (.cells #[.map (some b)] 57)).heap.size 3 1 v ss.length ((ss.mergeSort (fun x y => decide (x ≤ y))).map encZ) ∧ (v = .slice none 0 0 ↔ ss = []) ∧ Below (w.alloc (.cells #[.map (some b)] 57)).heap.size (w.alloc (.cells #[.map (some b)] 57)) w' := by
  have hbl := hown.lt
  have hseq : SeqGives Fence.wide 2 Try.prog 54 #[.pointer (some ⟨w.heap.size, 0, none⟩)] encZ (fun ss => ss.Perm (intKeys D0)) (Maps.size D0) (w.alloc (.cells #[.map (some b)] 57)) :=
    AnyZI.keys_gives (ρ := Try.keysI_ren) { Try.keysI with } Fence.wide _ trivial rfl (by omega) w.heap.size b nn D0 _ (by simp) (by simp) (by
      obtain ⟨es, clock, hb, Ft, hs, hD⟩ := hown
      exact ⟨es, clock, (Below.heap_alloc _ _ b hbl).trans hb, Ft, hs, hD⟩)
  exact callsIn_wide.1 (AnyZI.sorted_in Try.sortedI Fence.wide 5 trivial trivial trivial trivial rfl (by omega) (sortsI _) (enters_of Try.func53 (by kernel_rfl) rfl) 54 #[.pointer (some ⟨w.heap.size, 0, none⟩)] trivial (enters_of Try.func54 (by kernel_rfl) rfl) _ _ hmax hbytes _ hseq)

/-- A row of ints. -/
def IRow (w : World) (a : Option Addr) (l : List Int) : Prop :=
  l ≠ [] → ∃ b off, a = some ⟨b, off, none⟩ ∧ ∀ i s, l[i]? = some s → w.cell? ⟨b, off + i, none⟩ = some (.int .i64 s)
theorem irow_of {w : World} {base n : Nat} {v : Value} {l : List Int} (h : w.ownsRow base 3 1 v n (l.map encZ)) : ∃ a c, v = .slice a l.length c ∧ IRow w a l := by
  have hlen : l.length = n := by have := h.1; simpa using this
  rcases h.2 with ⟨hv, hn⟩ | ⟨g, cap, cur, hv, hb, hg, hle, hm, hs, ht⟩
  · refine ⟨none, 0, ?_, fun hne => absurd (List.eq_nil_of_length_eq_zero (by omega)) hne⟩
    rw [hv, hlen, hn]
  · refine ⟨some ⟨g, 0, none⟩, cap, by rw [hlen]; exact hv, fun hne => ⟨g, 0, rfl, fun i s hi => ?_⟩⟩
    have hlt := (List.getElem?_eq_some_iff.1 hi).1
    rw [cell_of_row w g (0 + i) cur _ (0, 0) hg, Nat.zero_add]
    have h1 : (cur.toList.take (n * 1))[i]? = (l.map encZ)[i]? := by rw [ht]
    rw [List.getElem?_take, if_pos (by omega), List.getElem?_map, hi] at h1
    simpa [encZ] using h1
theorem mem_intKeys {w : World} {k : TypeId} {R : Value → Option (DataW Unit × List MemPlace)} {b n : Nat} {D : DataW Unit} (hown : w.ownsMap Try.prog k R b n D) (hk : Try.prog.underlying k = some (.int .i64)) {x : Int} (h : Maps.has D (.int .i64 x) = true) : x ∈ intKeys D := by
  obtain ⟨es, rfl, hko⟩ := hown.keysOf
  rw [has_eq, List.any_eq_true] at h
  show x ∈ es.map fun p => Go.intOf p.1
  rw [List.mem_map]
  obtain ⟨p, hp', hs⟩ := h
  obtain ⟨v, hv⟩ := hko p hp'
  obtain ⟨a, _, ha, _⟩ := Maps.keyOf_i64 hk hv
  rw [ha] at hs
  exact ⟨p, hp', by rw [ha]; simpa [Lit.sameKey, Go.intOf] using hs⟩
set_option maxHeartbeats 2000000 in
theorem conns_any (N bm : Nat) (last : Int) (n : Nat) (D : DataW Unit) (w : World) (h : NT w N bm last n D) (hn : n ≤ 1000000) :
    Calls Try.prog 11 #[.pointer (some ⟨N, 0, none⟩)] w fun e w' => ∃ a c l, e = .returned (.slice a l.length c) ∧ Hid (l.length ≤ 1000000) ∧ Hid (∀ x : Int, Maps.has D (.int .i64 x) = true → x ∈ l) ∧ Hid (IRow w' a l) ∧ Hid (Below w.heap.size w w') := by
  have e0 := h.n0
  have hsl := h.own.size_le
  have HS := hide (sortedI_c bm n D _ w h.own (by unfold maxLen; omega) (by omega))
  have HH := hide h
  have HI := hide (fun x (hx : Maps.has D (.int .i64 x) = true) => mem_intKeys h.own Try.underlying3 hx)
  have HZ : Hid ((intKeys D).length = Maps.size D) := by
    show _ = _
    obtain ⟨es, rfl, _⟩ := h.own.keysOf
    simp [intKeys, Maps.size]
  clear h
  go_enter Try.func11, Try.ntmps11
  go_wp2_with (first
    | (go_at_call 36; refine (unmade_not N bm w e0).mono ?_; rintro e w1 ⟨rfl, hw1⟩; have hw1 := hw1.symm; subst hw1)
    | (go_at_call 38; refine (keysI_c (some bm) w).mono ?_; rintro e w2 ⟨rfl, rfl⟩)
    | (go_at_call 37; refine (unhide HS).mono ?_; rintro e w3 ⟨v, ss, rfl, hperm, hrow, hnil, hb⟩))
  go_ret
  obtain ⟨a, c, rfl, hir⟩ := irow_of hrow
  have hml : (ss.mergeSort (fun x y => decide (x ≤ y))).length = Maps.size D := by rw [List.length_mergeSort, hperm.length_eq, unhide HZ]
  refine ⟨a, c, _, rfl, ?_, ?_, hir, ?_⟩
  · show _ ≤ _
    rw [hml]; omega
  · intro x hx
    exact (List.mergeSort_perm ss _).mem_iff.2 (hperm.mem_iff.2 (unhide HI x hx))
  · have h1 : Below w.heap.size w (w.alloc (.cells #[.map (some bm)] 57)) := (Below.refl _ _).alloc (Nat.le_refl _) _
    exact h1.trans (hb.mono h1.size)
#print axioms conns_any

/-! ### slices.Contains -/
set_option maxHeartbeats 1000000 in
theorem index_in (a : Option Addr) (c : Nat) (l : List Int) (x : Int) (i0 : Nat) (w : World) (hr : IRow w a l) (hl : l.length ≤ 1000000) (hi : l[i0]? = some x) (hf : ∀ j, j < i0 → l[j]? ≠ some x) :
    Calls Try.prog 47 #[.slice a l.length c, .int .i64 x] w fun e w' => e = .returned (.int .i64 (i0 : Int)) ∧ w' = w := by
  have hlt0 := (List.getElem?_eq_some_iff.1 hi).1
  obtain ⟨b, off, rfl, hc⟩ := hr (by intro e; subst e; simp at hlt0)
  have HC := hide hc
  have HF := hide hf
  have HI := hide hi
  clear hc hf hr hi
  go_enter Try.func47, Try.ntmps47
  go_wp2
  go_loop [8] (fun v => ∃ k : Nat, k ≤ i0 ∧ v = .int .i64 (k : Int)) (fun v => i0 + 1 - (intOf v).toNat)
  case atStart => exact ⟨0, Nat.zero_le _, rfl⟩
  case round =>
    obtain ⟨k, hk, rfl⟩ := hrel
    obtain ⟨z, hz⟩ : ∃ z, l[k]? = some z := ⟨l[k]'(by omega), List.getElem?_eq_getElem (by omega)⟩
    have ck := unhide HC k z hz
    have hkl : (k : Int) < (l.length : Int) := by omega
    by_cases hlt : k < i0
    · have hne : (x == z) = false := by
        have := unhide HF k hlt
        rw [hz] at this
        simpa using fun e => this (by rw [e])
      go_wp2
      go_round
      case rel => exact ⟨k + 1, by omega, by go_num⟩
      case measure => simp [intOf]; omega
    · obtain rfl : k = i0 := by omega
      obtain rfl : z = x := by have := unhide HI; rw [hz] at this; simpa using this
      have heq : (z == z) = true := beq_self_eq_true _
      go_wp2
      go_ret
      exact ⟨rfl, rfl⟩
theorem first_ix : ∀ (l : List Int) (x : Int), x ∈ l → ∃ i0 : Nat, l[i0]? = some x ∧ ∀ j, j < i0 → l[j]? ≠ some x
  | [], x, h => by simp at h
  | a :: r, x, h => by
    by_cases e : a = x
    · exact ⟨0, by simp [e], fun j hj => by omega⟩
    · have hr : x ∈ r := by
        rcases List.mem_cons.1 h with h | h
        · exact absurd h.symm e
        · exact h
      obtain ⟨i, h1, h2⟩ := first_ix r x hr
      refine ⟨i + 1, by simpa using h1, fun j hj => ?_⟩
      cases j with
      | zero => simpa using e
      | succ j => simpa using h2 j (by omega)
set_option maxHeartbeats 1000000 in
theorem contains_in (a : Option Addr) (c : Nat) (l : List Int) (x : Int) (w : World) (hr : IRow w a l) (hl : l.length ≤ 1000000) (hx : x ∈ l) :
    Calls Try.prog 19 #[.slice a l.length c, .int .i64 x] w fun e w' => e = .returned (.bool true) ∧ w' = w := by
  obtain ⟨i0, hi, hf⟩ : ∃ i0 : Nat, l[i0]? = some x ∧ ∀ j, j < i0 → l[j]? ≠ some x := by
    exact first_ix l x hx
  have h0 : decide ((0 : Int) ≤ (i0 : Int)) = true := decide_eq_true (by omega)
  have HI := hide (index_in a c l x i0 w hr hl hi hf)
  clear hr hi hf hx
  go_enter Try.func19, Try.ntmps19
  go_wp2_with (go_at_call 47; refine (unhide HI).mono ?_; rintro e w1 ⟨rfl, rfl⟩)
  go_ret
  exact ⟨rfl, rfl⟩
#print axioms contains_in
end Go.Proofs.Ytohlmfiicfoimaa
