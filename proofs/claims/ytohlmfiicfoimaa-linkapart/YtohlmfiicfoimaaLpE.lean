/-
  link, the program's net: its map's keys; Dial, Conns, Drop by the model.
-/
import Derived.Test.YtohlmfiicfoimaaLpD
import Derived.Test.YtohlmfiicfoimaaDfl
set_option linter.unusedVariables false
namespace Go.Proofs.Ytohlmfiicfoimaa
open Go.RowKit Go.Maps Go.Sort Go.Shelf

theorem keysI_has {w : World} {bm n : Nat} {D : DataW Unit} (hown : w.ownsMap Try.prog 3 ptrElem bm n D) : (intKeys D).Nodup ∧ (∀ x : Int, x ∈ intKeys D ↔ Maps.has D (.int .i64 x) = true) ∧ (intKeys D).length = Maps.size D := by
  obtain ⟨es, rfl, hpw, _⟩ := hown.entries law
  obtain ⟨es', hD', hko⟩ := hown.keysOf
  obtain rfl : es = es' := by simpa using hD'
  have hst : ∀ p ∈ es, p.1 = .int .i64 (Go.intOf p.1) := fun p hp => by
    obtain ⟨v, hv⟩ := hko p hp
    obtain ⟨a, _, ha, _⟩ := Maps.keyOf_i64 Try.underlying3 hv
    rw [ha]; rfl
  refine ⟨List.pairwise_map.2 (hpw.imp_of_mem fun {p q} hp hq hne e => hne (by rw [hst p hp, hst q hq, e])), fun x => ?_, by simp [intKeys, Maps.size]⟩
  rw [has_eq, List.any_eq_true, intKeys, List.mem_map]
  refine ⟨fun ⟨p, hp, e⟩ => ⟨p, hp, ?_⟩, fun ⟨p, hp, e⟩ => ⟨p, hp, ?_⟩⟩
  · rw [hst p hp, e]; simp [Lit.sameKey]
  · rw [hst p hp] at e; simpa [Lit.sameKey] using e
def Nm.ids (M : Nm) : List Int := M.cs.map fun c => (c.id : Int)
theorem Mok.ids_rise {M : Nm} (h : Mok M) : M.ids.Pairwise (fun a b => a < b) := by
  unfold Nm.ids
  rw [List.pairwise_map]
  exact h.rise.imp (fun h => by omega)
theorem PNL.keys {w : World} {g : Nat → Tag} {N bm base : Nat} {M : Nm} {P : Nat → Pg} {n : Nat} {D : DataW Unit} (h : PNL w g N bm base M P n D) (hM : Mok M) : (intKeys D).Perm M.ids := by
  obtain ⟨h1, h2, h3⟩ := keysI_has h.nt.own
  refine (List.perm_ext_iff_of_nodup h1 (hM.ids_rise.imp (fun h => by omega))).2 fun x => ?_
  rw [h2]
  constructor
  · intro hx
    cases hg : M.get x with
    | none => have := h.off x hg; unfold OffC at this; rw [this] at hx; cases hx
    | some c =>
      obtain ⟨hc, hi⟩ := Nm.get_some hg
      exact List.mem_map.2 ⟨c, hc, hi⟩
  · intro hx
    obtain ⟨c, hc, rfl⟩ := List.mem_map.1 hx
    exact (h.at_ c hc).2
theorem PNL.size {w : World} {g : Nat → Tag} {N bm base : Nat} {M : Nm} {P : Nat → Pg} {n : Nat} {D : DataW Unit} (h : PNL w g N bm base M P n D) (hM : Mok M) : Maps.size D = M.cs.length := by
  have h1 := (h.keys hM).length_eq
  rw [(keysI_has h.nt.own).2.2] at h1
  rw [h1]
  simp [Nm.ids]

/-! ### Dial -/
theorem pdial_all {w : World} {g : Nat → Tag} {N bm base : Nat} {M : Nm} {P : Nat → Pg} (h : PN w g N bm base M P) (hM : Mok M) (hfr : Fr g w) (a b : Int) (hbase : base ≤ w.heap.size) (hl : M.last < 1000000) :
    Calls Try.prog 20 #[.pointer (some ⟨N, 0, none⟩), .int .i64 a, .int .i64 b] w fun e w' => e = .returned (.tuple #[.int .i64 (diN M a b), .int .i64 (diE M a b)]) ∧ Hid (PEnd w w' g N bm base (diM M a b)) := by
  obtain ⟨n, D, h⟩ := h
  have hsz := h.size hM
  by_cases hb : diBad a b
  · refine (dial_arg N bm _ n D a b w h.nt hb).mono ?_
    rintro e w' ⟨rfl, rfl⟩
    have e1 : diE M a b = 1 := by unfold diE; rw [if_pos hb]
    unfold diN diM
    rw [e1]
    exact ⟨rfl, PEnd.same h (Below.refl _ _)⟩
  · have hb' : 0 ≤ a ∧ a < 16 ∧ 0 ≤ b ∧ b < 16 ∧ a ≠ b := by unfold diBad at hb; omega
    by_cases hf : 64 ≤ M.cs.length
    · refine (dial_full N bm _ n D a b w h.nt hb'.1 hb'.2.1 hb'.2.2.1 hb'.2.2.2.1 hb'.2.2.2.2 (by omega)).mono ?_
      rintro e w' ⟨rfl, rfl⟩
      have e1 : diE M a b = 7 := by unfold diE; rw [if_neg hb, if_pos hf]
      unfold diN diM
      rw [e1]
      exact ⟨rfl, PEnd.same h (Below.refl _ _)⟩
    · have hn := h.hn
      refine (dial_c N bm _ n D a b w h.nt hb'.1 hb'.2.1 hb'.2.2.1 hb'.2.2.2.1 hb'.2.2.2.2 (by omega) (by omega) (by omega) (by omega)).mono ?_
      rintro e w' ⟨rfl, hd⟩
      obtain ⟨C, hC, hnt, hcon, hk⟩ := unhide hd
      have e1 : diE M a b = 0 := by unfold diE; rw [if_neg hb, if_neg hf]
      unfold diN diM
      rw [e1]
      refine ⟨rfl, ?_⟩
      have hCl : C < w'.heap.size := ConC.lt hcon
      have hy : Ty w w' g (tagAt g C (1, M.last + 1)) (fun t => t = (3, 0)) := by
        refine ⟨⟨hk.os, hk.tape, hk.output, hk.size, fun k hk' hs => hk.block k hk' ?_⟩, fun k hk' => tagAt_other g _ (by omega)⟩
        rintro (e | e)
        · exact hs (by rw [e]; exact h.tN)
        · exact hs (by rw [e]; exact h.tM)
      have hlast : (((M.last : Nat) : Int) + 1) = ((M.last + 1 : Nat) : Int) := by omega
      rw [hlast] at hnt
      refine ⟨tagAt g C (1, M.last + 1), upd P (M.last + 1) ⟨C, fun _ => none, fun _ => 0⟩, ⟨n + 1, _, hnt, by show n + 1 ≤ M.last + 1; omega, fun c hc => ?_, fun id hid => ?_, ?_, ?_, fun c hc => ?_⟩, hy.mono (fun t ht => by rw [ht]; exact sp3)⟩
      · rcases List.mem_append.1 hc with hc | hc
        · have ht := hM.top c hc
          rw [upd_other _ _ _ (by omega)]
          have hk := key_ne (i := (c.id : Int)) (j := ((M.last + 1 : Nat) : Int)) (by omega)
          exact ⟨(atKey_put_other hk _ _).trans (h.at_ c hc).1, (has_put_other hk _).trans (h.at_ c hc).2⟩
        · obtain rfl := List.mem_singleton.1 hc
          show AtC _ ((M.last + 1 : Nat) : Int) (upd P (M.last + 1) _ (M.last + 1)).C
          rw [upd_same]
          exact ⟨atKey_put_same h.nt.own.isMap (by trivial) _ _, has_put_same h.nt.own.isMap (by trivial) _⟩
      · have hne : id ≠ ((M.last + 1 : Nat) : Int) := fun e => nm_get_of (M := ⟨M.cs ++ [newC (M.last + 1) a b], M.last + 1⟩) (c := newC (M.last + 1) a b) (List.mem_append.2 (.inr (List.mem_singleton.2 rfl))) e.symm hid
        have h0 : M.get id = none := by
          cases hg : M.get id with
          | none => rfl
          | some d =>
            obtain ⟨hd, hdi⟩ := Nm.get_some hg
            exact absurd hid (nm_get_of (M := ⟨M.cs ++ [newC (M.last + 1) a b], M.last + 1⟩) (List.mem_append.2 (.inl hd)) hdi)
        exact (has_put_other (key_ne hne) _).trans (h.off id h0)
      · rw [tagAt_other g _ (by have := h.nt.ltN; omega)]; exact h.tN
      · rw [tagAt_other g _ (by have := h.nt.own.lt; omega)]; exact h.tM
      · rcases List.mem_append.1 hc with hc | hc
        · have ht := hM.top c hc
          rw [upd_other _ _ _ (by omega)]
          exact (h.con c hc).ty hy (by simp)
        · obtain rfl := List.mem_singleton.1 hc
          show PCon _ _ base (upd P (M.last + 1) _ (M.last + 1)) _
          rw [upd_same]
          exact ⟨hcon, Cmg.nil _ _, Cmg.nil _ _, tagAt_same g _ _, fun k hk => by simp [blk] at hk, fun k hk => by simp [blk] at hk, fun k hk => by simp [blk] at hk⟩
#print axioms pdial_all

/-! ### Conns -/
set_option maxHeartbeats 2000000 in
theorem pconns_all {w : World} {g : Nat → Tag} {N bm base : Nat} {M : Nm} {P : Nat → Pg} (h : PN w g N bm base M P) (hM : Mok M) :
    Calls Try.prog 11 #[.pointer (some ⟨N, 0, none⟩)] w fun e w' => ∃ a c l, e = .returned (.slice a l.length c) ∧ Hid (l = M.ids) ∧ Hid (IRow w' a l) ∧ Hid (Below w.heap.size w w') := by
  obtain ⟨n, D, h⟩ := h
  have e0 := h.nt.n0
  have hsl := h.nt.own.size_le
  have hn := h.hn
  have hlim := hM.lim
  have HS := hide (sortedI_c bm n D _ w h.nt.own (by unfold maxLen; omega) (by omega))
  have HK := hide (h.keys hM)
  have HM := hide hM
  clear h hM
  go_enter Try.func11, Try.ntmps11
  go_wp2_with (first
    | (go_at_call 36; refine (unmade_not N bm w e0).mono ?_; rintro e w1 ⟨rfl, hw1⟩; have hw1 := hw1.symm; subst hw1)
    | (go_at_call 38; refine (keysI_c (some bm) w).mono ?_; rintro e w2 ⟨rfl, rfl⟩)
    | (go_at_call 37; refine (unhide HS).mono ?_; rintro e w3 ⟨v, ss, rfl, hperm, hrow, hnil, hb⟩))
  go_ret
  obtain ⟨a, c, rfl, hir⟩ := irow_of hrow
  have hp : (ss.mergeSort (fun x y => decide (x ≤ y))).Perm M.ids := ((List.mergeSort_perm ss _).trans hperm).trans (unhide HK)
  have he : ss.mergeSort (fun x y => decide (x ≤ y)) = M.ids := List.Perm.eq_of_pairwise (le := fun a b : Int => a ≤ b) (fun a b _ _ h1 h2 => by omega) ((List.pairwise_mergeSort (fun a b c h1 h2 => by simp at *; omega) (fun a b => by simp; omega) ss).imp (fun h => by simpa using h)) ((unhide HM).ids_rise.imp (fun h => by omega)) hp
  refine ⟨a, c, _, rfl, he, hir, ?_⟩
  have h1 : Below w.heap.size w (w.alloc (.cells #[.map (some bm)] 57)) := (Below.refl _ _).alloc (Nat.le_refl _) _
  exact h1.trans (hb.mono h1.size)
#print axioms pconns_all
end Go.Proofs.Ytohlmfiicfoimaa
