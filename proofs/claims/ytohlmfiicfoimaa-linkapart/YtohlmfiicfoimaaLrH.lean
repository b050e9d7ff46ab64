/-
  link, the document's own net: Dial.
-/
import Derived.Test.YtohlmfiicfoimaaLrB
import Derived.Test.YtohlmfiicfoimaaLtM
import Derived.Deep.DeepCutAuto
import Derived.Deep.Upon
import Derived.Deep.RegionLaw
set_option linter.unusedVariables false
namespace Go.Proofs.Ytohlmfiicfoimaa
open Go.RowKit Go.Maps

theorem run_appq (ty : TypeId) (base : Nat) (x : Option Addr) (k : Nat) (l : List Nat) (b cap2 n : Nat) (w : World) (h : OwnQ w base x k l) (hsrc : w.cell? ⟨b, 0, none⟩ = some (.pointer (some ⟨n, 0, none⟩)))
    (hlen : l.length ≤ 100000000) (hbase : base ≤ w.heap.size) :
    ∃ x' k' w', (Builtin.append_ #[28, 28] ty #[.slice x l.length k, .slice (some ⟨b, 0, none⟩) 1 cap2]).run Try.prog w = .ok (.slice x' (l ++ [n]).length k') w' ∧ OwnQ w' base x' k' (l ++ [n]) ∧ w.grownBy w' (blk x) ∧ (blk x' = blk x ∨ ∀ g, blk x' = some g → w.heap.size ≤ g) := by
  obtain ⟨i, hi, hz0, hz1, hz2⟩ := info_parts Try.infoQ
  have hnews : ∀ j u, (pq [n])[j]? = some u → w.cell? ((⟨b, 0, none⟩ : Addr).add j) = some u := by
    intro j u hu
    have hj : j < 1 := by
      have := (List.getElem?_eq_some_iff.1 hu).1
      simpa [pq_length] using this
    obtain rfl : j = 0 := by omega
    rw [pq_get [n] 0 (by simp)] at hu
    obtain rfl := Option.some.inj hu
    rw [addr_add]
    exact hsrc
  have e1 : l.length + 1 = (l ++ [n]).length := by simp
  have e2 : pq l ++ pq [n] = pq (l ++ [n]) := (pq_append l [n]).symm
  have hmx : l.length + 1 ≤ maxLen := by unfold maxLen; omega
  rcases h.cases with ⟨rfl, rfl, rfl⟩ | ⟨g, cur, rfl, h1, h2, h3, h4, h5, h6⟩
  · obtain ⟨v', w', hrun, r1, r2, _⟩ := run_append_own (P := Try.prog) w w.heap.size 28 ty 75 i (.pointer none) 1 8 Try.underlying28 hi hz0 hz1 hz2 rfl (by decide) (.slice none 0 0) 0 [] (World.ownsRow_nil w w.heap.size _ _) ⟨b, 0, none⟩ 1 cap2 (pq [n]) (by simp [pq_length]) hnews (pq_one [n]) (by unfold maxLen; omega) (by omega) (Nat.le_refl _)
    have hv : ∃ a' cap', v' = .slice a' 1 cap' := by
      rcases r1.2 with ⟨hv, hn⟩ | ⟨g, cap, cur, hv, _⟩
      · exact absurd hn (by omega)
      · exact ⟨_, _, hv⟩
    obtain ⟨a', cap', rfl⟩ := hv
    have ro : OwnQ w' w.heap.size a' cap' [n] := by
      have := r1
      rw [List.nil_append] at this
      exact this
    exact ⟨a', cap', w', by simpa using hrun, by simpa using ro.base hbase, by simpa [Value.ownBlock, blk] using r2, .inr (fun g hg => (ro.lt g hg).1)⟩
  · by_cases hroom : l.length + 1 ≤ k
    · obtain ⟨v', w', hrun, r1, r2, _⟩ := run_append_own (P := Try.prog) w base 28 ty 75 i (.pointer none) 1 8 Try.underlying28 hi hz0 hz1 hz2 rfl (by decide) _ _ _ h ⟨b, 0, none⟩ 1 cap2 (pq [n]) (by simp [pq_length]) hnews (pq_one [n]) hmx (by omega) hbase
      have hsome : ∀ j, j < (pq [n]).length → (w.cell? ⟨g, 0 + l.length * i.size + j, none⟩).isSome = true := by
        intro j hj
        rw [pq_length] at hj
        rw [cell_of_row w g _ _ _ _ h2, Array.getElem?_eq_getElem (by rw [hz1]; simp at hj; omega)]
        rfl
      have hrun2 := run_append_room_cells (P := Try.prog) w 28 ty 75 i Try.underlying28 hi g 0 l.length k ⟨b, 0, none⟩ 1 cap2 (pq [n]) (by rw [hz1]; simp [pq_length]) hnews (pq_one [n]) hroom hsome (fun j _ => frozen_of_row w g _ _ _ h2)
      rw [hrun] at hrun2
      simp only [Result.ok.injEq] at hrun2
      obtain ⟨rfl, _⟩ := hrun2
      rw [e1, e2] at r1
      exact ⟨some ⟨g, 0, none⟩, k, w', by rw [hrun, e1], r1, r2, .inl rfl⟩
    · have holds : ∀ j u, (pq l)[j]? = some u → w.cell? ((⟨g, 0, none⟩ : Addr).add j) = some u := by
        intro j u hu
        have hj : j < l.length := by
          have := (List.getElem?_eq_some_iff.1 hu).1
          simpa [pq_length] using this
        obtain ⟨g', e, _, _, hc⟩ := h.some (by omega)
        simp at e
        subst e
        rw [addr_add, Nat.zero_add, hc j hj, ← pq_get l j hj]
        exact hu
      obtain ⟨v', w', hrun, r1, r2⟩ := run_append_arg_grows (P := Try.prog) w 28 ty 75 i (.pointer none) 1 8 Try.underlying28 hi hz0 hz1 hz2 rfl (by decide) ⟨g, 0, none⟩ l.length k (pq l) (by simp [pq_length]) holds ⟨b, 0, none⟩ 1 cap2 (pq [n]) (by simp [pq_length]) hnews (by omega) hmx (by omega)
      rw [e1, e2] at r1
      have hv : ∃ a' cap', v' = .slice a' (l ++ [n]).length cap' := by
        rcases r1.2 with ⟨hv, hn⟩ | ⟨g, cap, cur, hv, _⟩
        · exact ⟨none, 0, by rw [hv, hn]⟩
        · exact ⟨_, _, hv⟩
      obtain ⟨a', cap', rfl⟩ := hv
      have ro : OwnQ w' w.heap.size a' cap' (l ++ [n]) := r1
      exact ⟨a', cap', w', hrun, ro.base hbase, ⟨r2.os, r2.tape, r2.output, r2.size, fun j hj _ => r2.block j hj (by simp)⟩, .inr (fun g hg => (ro.lt g hg).1)⟩

theorem stp_appq (w : World) {ops : Array Oper} {o : Oper} {a : Act} {K : Act → World → Prop} {Q : Exit → Act → World → Prop} {E : Prop} (hgd : o.guard = none) (s x : Operand)
    (ho : o.op = .call { callee := .builtin .append, args := #[s, x], argTypes := #[28, 28] })
    (base : Nat) (a1 : Option Addr) (cap1 : Nat) (l1 : List Nat) (n1 : Nat) (hs : a.eval s = .slice a1 n1 cap1) (hn1 : n1 = l1.length) (hown : OwnQ w base a1 cap1 l1)
    (b cap2 n : Nat) (hx : a.eval x = .slice (some ⟨b, 0, none⟩) 1 cap2) (hsrc : w.cell? ⟨b, 0, none⟩ = some (.pointer (some ⟨n, 0, none⟩)))
    (hlen : l1.length ≤ 100000000) (hbase : base ≤ w.heap.size)
    (h : ∀ a' cap' r w', Hid (r = l1 ++ [n]) → Hid (OwnQ w' base a' cap' r) → Hid (w.grownBy w' (blk a1)) → Hid (blk a' = blk a1 ∨ ∀ g, blk a' = some g → w.heap.size ≤ g) → K (a.put o.dst (.slice a' r.length cap')) w') :
    if Region.wanted o (yielded ops a.tmps) = true then Oper.wp Try.prog o a w K Q else E := by
  subst hn1
  refine stp_of_list hgd (wpList_plain hgd fun K' hK' => ?_)
  obtain ⟨x', k', w', hrun, r1, r2, r3⟩ := run_appq o.type base a1 cap1 l1 b cap2 n w hown hsrc hlen hbase
  unfold Oper.wp
  simp only [execOp, ho, resolve, invoke, builtin]
  simp [hs, hx, hrun, Result.andThen]
  have := hK' _ _ (⟨rfl, h x' k' (l1 ++ [n]) w' rfl r1 r2 r3⟩ : _ ∧ _)
  rw [List.length_append] at this
  exact this

/-- The document's net behind a Dial. -/
theorem rdialed {w V w5 : World} {g : Nat → Tag} {X base : Nat} {M : Nm} {R : Nat → Rg} {T : Nat} {la : Option Addr} {lc : Nat} (h : RNL w g X base M R T la lc) (hM : Mok M) (hfr : Fr g w) (a b : Int)
    (hgV : w.grownBy V (some X)) (hsV : V.heap.size = w.heap.size) (hnV : V.heap[X]? = some (.cells #[.slice la M.cs.length lc, .int .i64 ((M.last : Int) + 1)] 30 (0, 0)))
    (hoX : blk la ≠ some X) {U : World} {lit : Obj} (hU : U = ((V.alloc (.cells #[.int .i64 ((M.last : Int) + 1), .int .i64 a, .int .i64 b, .slice none 0 0, .slice none 0 0, .int .i64 0, .int .i64 0, .bool false, .bool false] 89)).alloc lit).drew) (hg5 : U.grownBy w5 (blk la)) {a5 : Option Addr} {c5 : Nat} {r5 : List Nat} (hr5 : r5 = (M.cs.map fun c => (R c.id).C) ++ [V.heap.size]) (ho5 : OwnQ w5 base a5 c5 r5) (hf5 : blk a5 = blk la ∨ ∀ k, blk a5 = some k → U.heap.size ≤ k) :
    ∃ g' R', Hid (RN (w5.setCell ⟨X, 0, none⟩ (.slice a5 r5.length c5)) g' X base ⟨M.cs ++ [newC (M.last + 1) a b], M.last + 1⟩ R' T) ∧ Hid (Ty w (w5.setCell ⟨X, 0, none⟩ (.slice a5 r5.length c5)) g g' (fun t => t = (4, 0))) := by
  have hX := h.lt
  have hbU : Below V.heap.size V U := by rw [hU]; exact (((Below.refl _ V).alloc (Nat.le_refl _) _).alloc (by simp) _).drew
  have hsU : U.heap.size = w.heap.size + 2 := by rw [hU]; simp [hsV]
  have hCU : U.heap[V.heap.size]? = some (.cells #[.int .i64 ((M.last : Int) + 1), .int .i64 a, .int .i64 b, .slice none 0 0, .slice none 0 0, .int .i64 0, .int .i64 0, .bool false, .bool false] 89 (0, 0)) := by
    rw [hU]
    show ((V.alloc _).alloc lit).heap[V.heap.size]? = _
    rw [Below.heap_alloc _ _ _ (by simp)]
    exact heap_alloc_new V _
  have hlaV : blk la ≠ some V.heap.size := fun e => by have := (h.own.lt _ e).2; omega
  have hC5 := (hg5.block V.heap.size (by omega) (fun e => hlaV e.symm)).trans hCU
  have hgr := gset' w5 ⟨X, 0, none⟩ (.slice a5 r5.length c5)
  have hs5 := hg5.size
  have hsZ : (w5.setCell ⟨X, 0, none⟩ (.slice a5 r5.length c5)).heap.size = w5.heap.size := by simp [World.setCell]
  have h5X : w5.heap[X]? = V.heap[X]? := (hg5.block X (by omega) (fun e => hoX e.symm)).trans (hbU.block X (by omega))
  have hCZ := (hgr.block V.heap.size (by omega) (by simp; omega)).trans hC5
  have ha5X : blk a5 ≠ some X := fun e => by
    rcases hf5 with h1 | h1
    · exact hoX (h1 ▸ e)
    · have := h1 X e; omega
  have ha5V : blk a5 ≠ some V.heap.size := fun e => by
    rcases hf5 with h1 | h1
    · exact hlaV (h1 ▸ e)
    · have := h1 _ e; omega
  have hkp : Kp w (w5.setCell ⟨X, 0, none⟩ (.slice a5 r5.length c5)) (fun k => g k = (4, 0)) := by
    refine ⟨hgr.os.trans (hg5.os.trans (hbU.os.trans hgV.os)), hgr.tape.trans (hg5.tape.trans (hbU.tape.trans hgV.tape)), hgr.output.trans (hg5.output.trans (hbU.output.trans hgV.output)), by omega, fun k hk hs => ?_⟩
    have hkX : X ≠ k := fun e => hs (by rw [← e]; exact h.tX)
    rw [hgr.block k (by omega) (by simp; exact fun e => hkX e.symm), hg5.block k (by omega) (fun e => hs (h.tL k e.symm)), hbU.block k (by omega), hgV.block k hk (by simp; exact fun e => hkX e.symm)]
  have hy : Ty w (w5.setCell ⟨X, 0, none⟩ (.slice a5 r5.length c5)) g (tagAt (tagO g a5 (4, 0)) V.heap.size (2, M.last + 1)) (fun t => t = (4, 0)) := by
    refine ⟨hkp, fun k hk => ?_⟩
    rw [hsZ] at hk
    have hkV : k ≠ V.heap.size := by omega
    rw [tagAt_other _ _ hkV]
    by_cases e : blk a5 = some k
    · rw [tagO_same g _ e]
      have hl5 := (ho5.lt k e).2
      rcases hf5 with h1 | h1
      · rw [h.tL k (h1 ▸ e)]
      · have := h1 k e; omega
    · exact tagO_other g _ e
  refine ⟨_, upd R (M.last + 1) ⟨V.heap.size, fun _ => none, fun _ => 0, fun _ => [], fun _ => 0⟩, ⟨a5, c5, ?_, ?_, ?_, fun k hk => ?_, fun c hc => ?_⟩, hy⟩
  · rw [heap_setCell_same w5 X 0 _ _ _ (h5X.trans hnV), hr5]
    simp
  · have e : (M.cs ++ [newC (M.last + 1) a b]).map (fun c => (upd R (M.last + 1) ⟨V.heap.size, fun _ => none, fun _ => 0, fun _ => [], fun _ => 0⟩ c.id).C) = r5 := by
      rw [hr5, List.map_append]
      congr 1
      · apply List.map_congr_left
        intro d hd
        rw [upd_other _ _ _ (by have := hM.top d hd; omega)]
      · simp [newC, upd_same]
    rw [e]
    exact ho5.kept hgr (.inr (by exact ha5X))
  · rw [tagAt_other _ _ (by omega), tagO_other g _ ha5X]; exact h.tX
  · rw [tagAt_other _ _ (fun e => ha5V (by rw [← e]; exact hk))]
    exact tagO_same g _ hk
  · rcases List.mem_append.1 hc with hc | hc
    · rw [upd_other _ _ _ (by have := hM.top c hc; omega)]
      exact (h.con c hc).ty hy (by simp)
    · obtain rfl := List.mem_singleton.1 hc
      show RCon _ _ (upd R (M.last + 1) _ (M.last + 1)) _ T
      rw [upd_same]
      exact ⟨by show _ = _; simpa [newC] using hCZ, bs_none _, bs_none _, Nat.zero_le _, Nat.zero_le _, rfl, rfl, Nat.zero_le _, Nat.zero_le _, tagAt_same _ _ _, fun k hk => by simp [blk] at hk, fun k hk => by simp [blk] at hk⟩

set_option maxHeartbeats 2000000 in
theorem rdial_bad {w : World} {g : Nat → Tag} {X base : Nat} {M : Nm} {R : Nat → Rg} {T : Nat} {la : Option Addr} {lc : Nat} (h : RNL w g X base M R T la lc) (a b : Int) (hbad : diBad a b) :
    Calls Try.prog 23 #[.pointer (some ⟨X, 0, none⟩), .int .i64 a, .int .i64 b] w fun e w' => e = .returned (.tuple #[.int .i64 0, .int .i64 1]) ∧ w' = w := by
  by_cases h1 : a = b
  · have e1 : (a == b) = true := by simp [h1]
    clear hbad h1
    go_enter Try.func23, Try.ntmps23
    go_wp2
    go_ret2
    exact ⟨rfl, rfl⟩
  · have e1 : (a == b) = false := by simp [h1]
    have hb : a < 0 ∨ b < 0 ∨ 15 < a ∨ 15 < b := by unfold diBad at hbad; omega
    clear hbad h1
    by_cases h2 : a < 0
    · go_enter Try.func23, Try.ntmps23
      go_wp2
      go_ret2
      exact ⟨rfl, rfl⟩
    · by_cases h3 : b < 0
      · clear hb
        go_enter Try.func23, Try.ntmps23
        go_wp2
        go_ret2
        exact ⟨rfl, rfl⟩
      · by_cases h4 : 15 < a
        · clear hb
          go_enter Try.func23, Try.ntmps23
          go_wp2
          go_ret2
          exact ⟨rfl, rfl⟩
        · have h5 : 15 < b := by omega
          clear hb
          go_enter Try.func23, Try.ntmps23
          go_wp2
          go_ret2
          exact ⟨rfl, rfl⟩
theorem not_bad {a b : Int} (h : ¬ diBad a b) : (a == b) = false ∧ ¬ a < 0 ∧ ¬ b < 0 ∧ ¬ 15 < a ∧ ¬ 15 < b := by
  unfold diBad at h
  refine ⟨by simp; omega, by omega, by omega, by omega, by omega⟩
set_option maxHeartbeats 2000000 in
theorem rdial_full {w : World} {g : Nat → Tag} {X base : Nat} {M : Nm} {R : Nat → Rg} {T : Nat} {la : Option Addr} {lc : Nat} (h : RNL w g X base M R T la lc) (a b : Int) (hbad : ¬ diBad a b) (hf : 64 ≤ M.cs.length) :
    Calls Try.prog 23 #[.pointer (some ⟨X, 0, none⟩), .int .i64 a, .int .i64 b] w fun e w' => e = .returned (.tuple #[.int .i64 0, .int .i64 7]) ∧ w' = w := by
  obtain ⟨e1, h2, h3, h4, h5⟩ := not_bad hbad
  have e0 := h.n0
  have hf' : (64 : Int) ≤ (M.cs.length : Int) := by omega
  clear hbad hf
  go_enter Try.func23, Try.ntmps23
  go_wp2
  go_ret2
  exact ⟨rfl, rfl⟩
set_option maxHeartbeats 4000000 in
theorem rdial_ok {w : World} {g : Nat → Tag} {X base : Nat} {M : Nm} {R : Nat → Rg} {T : Nat} {la : Option Addr} {lc : Nat} (h : RNL w g X base M R T la lc) (hM : Mok M) (hfr : Fr g w) (a b : Int) (hbad : ¬ diBad a b) (hf : ¬ 64 ≤ M.cs.length) (hbase : base ≤ w.heap.size) (hl : M.last < 1000000) :
    Calls Try.prog 23 #[.pointer (some ⟨X, 0, none⟩), .int .i64 a, .int .i64 b] w fun e w' => e = .returned (.tuple #[.int .i64 ((M.last : Int) + 1), .int .i64 0]) ∧ ∃ g' R', Hid (RN w' g' X base ⟨M.cs ++ [newC (M.last + 1) a b], M.last + 1⟩ R' T) ∧ Hid (Ty w w' g g' (fun t => t = (4, 0))) := by
  obtain ⟨e1, h2, h3, h4, h5⟩ := not_bad hbad
  have hf' : ¬ (64 : Int) ≤ (M.cs.length : Int) := by omega
  have hfl : M.cs.length ≤ 64 := by omega
  have hX := h.lt
  have e0 := h.n0
  have e2 := h.n1
  have f0 : w.frozen? ⟨X, 0, none⟩ = false := frozen_of_row w X 0 _ _ h.net
  have f1 : w.frozen? ⟨X, 1, none⟩ = false := frozen_of_row w X 1 _ _ h.net
  obtain ⟨V, hV⟩ : ∃ V, V = w.setCell ⟨X, 1, none⟩ (.int .i64 ((M.last : Int) + 1)) := ⟨_, rfl⟩
  have hnV : V.heap[X]? = some (.cells #[.slice la M.cs.length lc, .int .i64 ((M.last : Int) + 1)] 30 (0, 0)) := by rw [hV, heap_setCell_same w X 1 _ _ _ h.net]; rfl
  have hgV : w.grownBy V (some X) := by rw [hV]; exact gset' w ⟨X, 1, none⟩ _
  have hsV : V.heap.size = w.heap.size := by rw [hV]; simp [World.setCell]
  have hoX : blk la ≠ some X := fun e => by
    obtain ⟨cur, hc⟩ : ∃ cur, w.heap[X]? = some (.cells cur 75 (0, 0)) := by
      rcases h.own.cases with ⟨rfl, _, _⟩ | ⟨b', cur, rfl, _, hg, _⟩
      · simp [blk] at e
      · simp [blk] at e; subst e; exact ⟨cur, hg⟩
    have := h.net
    rw [hc] at this
    simp at this
  have HOV := hide (h.own.kept hgV (.inr (by exact hoX)))
  have v0 : V.cell? ⟨X, 0, none⟩ = some (.slice la M.cs.length lc) := by rw [cell_of_row V X 0 _ _ _ hnV]; rfl
  have v1 : V.cell? ⟨X, 1, none⟩ = some (.int .i64 ((M.last : Int) + 1)) := by rw [cell_of_row V X 1 _ _ _ hnV]; rfl
  have HNV := hide hnV
  have HH := hide h
  have HGV := hide hgV
  have HSV := hide hsV
  have HOX := hide hoX
  obtain ⟨U, hU⟩ : ∃ U, U = ((V.alloc (.cells #[.int .i64 ((M.last : Int) + 1), .int .i64 a, .int .i64 b, .slice none 0 0, .slice none 0 0, .int .i64 0, .int .i64 0, .bool false, .bool false] 89)).alloc (.cells #[.pointer (some ⟨V.heap.size, 0, none⟩)] 75)).drew := ⟨_, rfl⟩
  have hbU : Below V.heap.size V U := by rw [hU]; exact (((Below.refl _ V).alloc (Nat.le_refl _) _).alloc (by simp) _).drew
  have HOU := hide ((unhide HOV).below hbU (Nat.le_refl _))
  have HSU : Hid (U.cell? ⟨V.heap.size + 1, 0, none⟩ = some (.pointer (some ⟨V.heap.size, 0, none⟩))) := by show _ = _; rw [hU]; show World.cell? (World.alloc _ _) _ = _; simp
  have HBU : Hid (base ≤ U.heap.size) := by have := hbU.size; show _ ≤ _; omega
  have u0 : U.cell? ⟨X, 0, none⟩ = some (.slice la M.cs.length lc) := (hbU.cell (show X < V.heap.size by omega)).trans v0
  have hbA : Below V.heap.size V (V.alloc (.cells #[.int .i64 ((M.last : Int) + 1), .int .i64 a, .int .i64 b, .slice none 0 0, .slice none 0 0, .int .i64 0, .int .i64 0, .bool false, .bool false] 89)).drew := ((Below.refl _ V).alloc (Nat.le_refl _) _).drew
  have va0 : (V.alloc (.cells #[.int .i64 ((M.last : Int) + 1), .int .i64 a, .int .i64 b, .slice none 0 0, .slice none 0 0, .int .i64 0, .int .i64 0, .bool false, .bool false] 89)).drew.cell? ⟨X, 0, none⟩ = some (.slice la M.cs.length lc) := (hbA.cell (show X < V.heap.size by omega)).trans v0
  have va1 : (V.alloc (.cells #[.int .i64 ((M.last : Int) + 1), .int .i64 a, .int .i64 b, .slice none 0 0, .slice none 0 0, .int .i64 0, .int .i64 0, .bool false, .bool false] 89)).drew.cell? ⟨X, 1, none⟩ = some (.int .i64 ((M.last : Int) + 1)) := (hbA.cell (show X < V.heap.size by omega)).trans v1
  have vb0 : ((V.alloc (.cells #[.int .i64 ((M.last : Int) + 1), .int .i64 a, .int .i64 b, .slice none 0 0, .slice none 0 0, .int .i64 0, .int .i64 0, .bool false, .bool false] 89)).alloc (.cells #[.pointer (some ⟨V.heap.size, 0, none⟩)] 75)).drew.cell? ⟨X, 0, none⟩ = some (.slice la M.cs.length lc) := by rw [← hU]; exact u0
  have HU := hide hU
  have HLn : Hid (M.cs.length = (M.cs.map fun c => (R c.id).C).length) := by show _ = _; simp
  have HXU : Hid (X < U.heap.size) := by have := hbU.size; show _ < _; omega
  have HNU := hide ((hbU.block X (by omega)).trans hnV)
  clear hbad hf h hnV hgV hsV hoX hU hbU hbA
  go_enter Try.func23, Try.ntmps23
  go_upto_region 6 with fail
  rw [← hV]
  clear hV e0 e2 f0 f1
  have f0 : V.frozen? ⟨X, 0, none⟩ = false := frozen_of_row V X 0 _ _ (unhide HNV)
  go_region_law (rw [← unhide HU]; refine stp_appq _ rfl _ _ rfl base la lc (M.cs.map fun c => (R c.id).C) _ rfl (unhide HLn) (unhide HOU) (V.heap.size + 1) 1 V.heap.size rfl (unhide HSU) (by simp; omega) (unhide HBU) ?_; intro a5 c5 r5 w5 hr5 ho5 hg5 hf5; have hN5 := ((unhide hg5).block X (unhide HXU) (fun e => unhide HOX e.symm)).trans (unhide HNU); have v5 : w5.cell? ⟨X, 0, none⟩ = some (.slice la M.cs.length lc) := (by rw [cell_of_row w5 X 0 _ _ _ hN5]; rfl); have k5 : w5.cell? ⟨X, 1, none⟩ = some (.int .i64 ((M.last : Int) + 1)) := (by rw [cell_of_row w5 X 1 _ _ _ hN5]; rfl); have f5 : w5.frozen? ⟨X, 0, none⟩ = false := frozen_of_row w5 X 0 _ _ hN5; clear hN5)
  all_goals
    go_wp2
    go_ret2
    obtain ⟨g', R', k1, k2⟩ := rdialed (unhide HH) hM hfr a b (unhide HGV) (unhide HSV) (unhide HNV) (unhide HOX) (unhide HU) (unhide hg5) (unhide hr5) (unhide ho5) (unhide hf5)
    exact ⟨rfl, g', ⟨R', k1⟩, k2⟩
#print axioms rdial_ok
end Go.Proofs.Ytohlmfiicfoimaa
