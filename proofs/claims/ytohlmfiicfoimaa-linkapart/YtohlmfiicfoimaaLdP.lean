/-
  link: what a net tells of a connection; rows of that.
-/
import Derived.Test.YtohlmfiicfoimaaLdL
set_option linter.unusedVariables false
set_option maxRecDepth 100000
namespace Go.Proofs.Ytohlmfiicfoimaa
open Go.RowKit Go.Maps

/-- What a net tells of a connection. -/
structure Td where
  a : Int
  b : Int
  x : Int
  y : Int
  e : Int
  p : Bool
  q : Bool
def tdM (M : Nm) (id : Int) : Td := ⟨enP M id, enQ M id, waN M id (enP M id), waN M id (enQ M id), cuE M id, dnB M id (enP M id), dnB M id (enQ M id)⟩
theorem tdM_congr {M M' : Nm} {id : Int} (h : M.get id = M'.get id) : tdM M id = tdM M' id := by
  have e1 : enP M id = enP M' id := by unfold enP; rw [h]
  have e2 : enQ M id = enQ M' id := by unfold enQ; rw [h]
  have e3 : ∀ n, waN M id n = waN M' id n := fun n => by unfold waN; rw [h]
  have e4 : cuE M id = cuE M' id := by unfold cuE; rw [h]
  have e5 : ∀ n, dnB M id n = dnB M' id n := fun n => by unfold dnB; rw [h]
  unfold tdM
  rw [e1, e2, e3, e3, e4, e5, e5]
def tdC (t : Td) : List Value := [.int .i64 t.a, .int .i64 t.b, .int .i64 t.x, .int .i64 t.y, .int .i64 t.e, .bool t.p, .bool t.q]
def tdV (t : Td) : Value := .agg #[.int .i64 t.a, .int .i64 t.b, .int .i64 t.x, .int .i64 t.y, .int .i64 t.e, .bool t.p, .bool t.q]
def tds (l : List Td) : List Value := l.flatMap tdC
theorem tds_length (l : List Td) : (tds l).length = l.length * 7 := by
  induction l with
  | nil => rfl
  | cons t r ih => simp [tds, tdC] at ih ⊢; omega
theorem tds_append (l r : List Td) : tds (l ++ r) = tds l ++ tds r := by simp [tds]
theorem tds_one (l : List Td) : ∀ u ∈ tds l, u.oneCell' = true := by
  intro u hu
  obtain ⟨t, _, ht⟩ := List.mem_flatMap.1 hu
  simp [tdC] at ht
  rcases ht with rfl | rfl | rfl | rfl | rfl | rfl | rfl <;> rfl
theorem tds_get : ∀ (l : List Td) (i j : Nat) (t : Td), l[i]? = some t → j < 7 → (tds l)[i * 7 + j]? = (tdC t)[j]?
  | [], i, j, t, h, _ => by simp at h
  | u :: r, 0, j, t, h, hj => by
    simp at h
    subst h
    show (tdC u ++ tds r)[0 * 7 + j]? = _
    rw [List.getElem?_append_left (by simp [tdC]; omega)]
    simp
  | u :: r, i + 1, j, t, h, hj => by
    show (tdC u ++ tds r)[(i + 1) * 7 + j]? = _
    have e : (i + 1) * 7 + j = (tdC u).length + (i * 7 + j) := by simp [tdC]; omega
    rw [e, List.getElem?_append_right (by omega), Nat.add_sub_cancel_left]
    exact tds_get r i j t (by simpa using h) hj
def OwnD (w : World) (base : Nat) (a : Option Addr) (cap : Nat) (l : List Td) : Prop := w.ownsRow base 42 7 (.slice a l.length cap) l.length (tds l)
theorem OwnD.cases {w : World} {base : Nat} {a : Option Addr} {cap : Nat} {l : List Td} (h : OwnD w base a cap l) :
    (a = none ∧ cap = 0 ∧ l = []) ∨ ∃ g cur, a = some ⟨g, 0, none⟩ ∧ base ≤ g ∧ w.heap[g]? = some (.cells cur 42 (0, 0)) ∧ l.length ≤ cap ∧ cap ≤ maxLen ∧ cur.size = cap * 7 ∧ cur.toList.take (l.length * 7) = tds l := by
  rcases h.2 with ⟨hv, hn⟩ | ⟨g, cap', cur, hv, hb, hg, hle, hm, hs, ht⟩
  · simp only [Value.slice.injEq] at hv
    exact .inl ⟨hv.1, hv.2.2, List.eq_nil_of_length_eq_zero hn⟩
  · simp only [Value.slice.injEq, true_and] at hv
    obtain ⟨rfl, rfl⟩ := hv
    exact .inr ⟨g, cur, rfl, hb, hg, hle, hm, hs, ht⟩
theorem OwnD.nil (w : World) (base : Nat) : OwnD w base none 0 [] := World.ownsRow_nil w base _ _
theorem OwnD.lt {w : World} {base : Nat} {a : Option Addr} {cap : Nat} {l : List Td} (h : OwnD w base a cap l) : ∀ k, blk a = some k → base ≤ k ∧ k < w.heap.size := by
  intro k hk
  rcases h.cases with ⟨rfl, rfl, rfl⟩ | ⟨g, cur, rfl, hb, hg, _⟩
  · simp [blk] at hk
  · simp [blk] at hk
    subst hk
    exact ⟨hb, (Array.getElem?_eq_some_iff.1 hg).1⟩
theorem OwnD.alloc {w : World} {base : Nat} {a : Option Addr} {cap : Nat} {l : List Td} (h : OwnD w base a cap l) (o : Obj) : OwnD (w.alloc o) base a cap l := World.ownsRow.alloc h o
theorem OwnD.below {w w' : World} {base B : Nat} {a : Option Addr} {cap : Nat} {l : List Td} (h : OwnD w base a cap l) (hb : Below B w w') (hB : w.heap.size ≤ B) : OwnD w' base a cap l := by
  refine ⟨h.1, ?_⟩
  rcases h.2 with hn | ⟨g, cap, cur, hv, hbb, hgg, rest⟩
  · exact .inl hn
  · refine .inr ⟨g, cap, cur, hv, hbb, ?_, rest⟩
    rw [hb.block g (by have := (Array.getElem?_eq_some_iff.1 hgg).1; omega)]
    exact hgg
theorem OwnD.zs {w w' : World} {base : Nat} {a : Option Addr} {cap : Nat} {l : List Td} {Z : Nat → Prop} (h : OwnD w base a cap l) (hz : ZS w w' Z) (hb : ∀ g, blk a = some g → Z g) : OwnD w' base a cap l := by
  refine ⟨h.1, ?_⟩
  rcases h.2 with hn | ⟨g, cap, cur, hv, hbb, hgg, rest⟩
  · exact .inl hn
  · refine .inr ⟨g, cap, cur, hv, hbb, ?_, rest⟩
    have e : blk a = some g := by simp only [Value.slice.injEq] at hv; rw [hv.1]; rfl
    rw [hz.2 g (hb g e)]
    exact hgg
/-- One of the row. -/
theorem OwnD.at {w : World} {base : Nat} {a : Option Addr} {cap : Nat} {l : List Td} (h : OwnD w base a cap l) {i : Nat} {t : Td} (hi : l[i]? = some t) :
    ∃ g, a = some ⟨g, 0, none⟩ ∧ ∀ j v, (tdC t)[j]? = some v → w.cell? ⟨g, i * 7 + j, none⟩ = some v := by
  have hlt := (List.getElem?_eq_some_iff.1 hi).1
  rcases h.cases with ⟨_, _, rfl⟩ | ⟨g, cur, rfl, hb, hg, hle, hm, hs, ht⟩
  · simp at hlt
  · refine ⟨g, rfl, fun j v hj => ?_⟩
    have hj7 : j < 7 := by have := (List.getElem?_eq_some_iff.1 hj).1; simpa [tdC] using this
    rw [cell_of_row w g _ cur _ (0, 0) hg, ← hj, ← tds_get l i j t hi hj7, ← ht, List.getElem?_take, if_pos (by omega)]
    simp
theorem Try.infoD : (Try.prog.info? 42).map (fun i => (i.zero, i.size, i.bytes)) = some (some (tdV ⟨0, 0, 0, 0, 0, false, false⟩), 7, 48) := by kernel_rfl
theorem wp_appd (w : World) {ops : Array Oper} {rest : List Oper} {o : Oper} {a : Act} {Q : Exit → Act → World → Prop} (hgd : o.guard = none) (s x : Operand)
    (ho : o.op = .call { callee := .builtin .append, args := #[s, x], argTypes := #[39, 39] })
    (base : Nat) (a1 : Option Addr) (cap1 : Nat) (l1 : List Td) (hs : a.eval s = .slice a1 l1.length cap1) (hown : OwnD w base a1 cap1 l1)
    (b cap2 : Nat) (t : Td) (hx : a.eval x = .slice (some ⟨b, 0, none⟩) 1 cap2) (hsrc : w.heap[b]? = some (.cells (tdC t).toArray 42 (0, 0)))
    (hlen : l1.length ≤ 1000000) (hbase : base ≤ w.heap.size)
    (h : ∀ a' cap' r w', Hid (r = l1 ++ [t]) → Hid (OwnD w' base a' cap' r) → Hid (w.grownBy w' (blk a1)) → wpList Try.prog ops Q rest (a.put o.dst (.slice a' r.length cap')) w') : wpList Try.prog ops Q (o :: rest) a w := by
  obtain ⟨i, hi, hz0, hz1, hz2⟩ := info_parts Try.infoD
  have hblk : (Value.slice a1 l1.length cap1).ownBlock = blk a1 := by cases a1 <;> rfl
  refine wpList_append_own w hgd s x 39 ho base 42 i (tdV ⟨0, 0, 0, 0, 0, false, false⟩) 7 48 Try.underlying39 hi hz0 hz1 hz2 rfl (by decide) _ _ _ hs hown ⟨b, 0, none⟩ 1 cap2 (tds [t]) hx (by rw [tds_length]; simp) ?_ (tds_one [t]) (by unfold maxLen; omega) (by omega) hbase ?_
  · intro j u hu
    rw [addr_add, Nat.zero_add, cell_of_row w b j _ _ _ hsrc]
    have : (tds [t]) = tdC t := by simp [tds]
    rw [this] at hu
    simpa using hu
  · intro v' w' h1 h2 _
    have e1 : l1.length + 1 = (l1 ++ [t]).length := by simp
    have e2 : tds l1 ++ tds [t] = tds (l1 ++ [t]) := (tds_append l1 [t]).symm
    rw [e1, e2] at h1
    have hv : ∃ a' cap', v' = .slice a' (l1 ++ [t]).length cap' := by
      rcases h1.2 with ⟨hv, hn⟩ | ⟨g, cap, cur, hv, _⟩
      · exact ⟨none, 0, by rw [hv, hn]⟩
      · exact ⟨_, _, hv⟩
    obtain ⟨a', cap', rfl⟩ := hv
    rw [hblk] at h2
    exact h a' cap' (l1 ++ [t]) w' rfl h1 h2
#print axioms wp_appd

set_option maxHeartbeats 4000000 in
theorem tells_any {w0 w : World} {N bm X : Nat} {Mp Mr : Nm} {T : Nat} {Z : Nat → Prop} (h : NQ w0 w N bm X Mp Mr T Z) (hM : Mok Mp) (id : Int) (hid : (Lit.int .i64 id).wf = true) :
    Calls Try.prog 12 #[.pointer (some ⟨N, 0, none⟩), .int .i64 id] w fun e w' => e = .returned (tdV (tdM Mp id)) ∧ Hid (Below w.heap.size w w') := by
  obtain ⟨W, hW⟩ : ∃ W, W = w.alloc (.cells #[.int .i64 0, .int .i64 0, .int .i64 0, .int .i64 0, .int .i64 0, .bool false, .bool false] 42) := ⟨_, rfl⟩
  have hbW : Below w.heap.size w W := by rw [hW]; exact (Below.refl _ _).alloc (Nat.le_refl _) _
  have hrow : W.heap[w.heap.size]? = some (.cells #[.int .i64 0, .int .i64 0, .int .i64 0, .int .i64 0, .int .i64 0, .bool false, .bool false] 42 (0, 0)) := by rw [hW]; exact heap_alloc_new w _
  have hwl : w.heap.size < W.heap.size := (Array.getElem?_eq_some_iff.1 hrow).1
  have HN := hide (h.below hbW)
  have HM := hide hM
  have HBW := hide hbW
  have HROW := hide hrow
  have HTD : Hid (tdM Mp id = ⟨enP Mp id, enQ Mp id, waN Mp id (enP Mp id), waN Mp id (enQ Mp id), cuE Mp id, dnB Mp id (enP Mp id), dnB Mp id (enQ Mp id)⟩) := rfl
  clear h hM hbW hrow
  go_enter Try.func12, Try.ntmps12
  go_wp2_with fail
  rw [← hW]
  clear hW
  refine (np_ends (unhide HN) (unhide HM) id hid).mono ?_
  rintro e w1 ⟨rfl, HB1⟩
  have HN1 := hide ((unhide HN).below (unhide HB1))
  go_wp2_with fail
  refine (np_wait (unhide HN1) (unhide HM) id (enP Mp id) hid).mono ?_
  rintro e w2 ⟨rfl, HB2⟩
  have HN2 := hide ((unhide HN1).below (unhide HB2))
  go_wp2_with fail
  refine (np_wait (unhide HN2) (unhide HM) id (enQ Mp id) hid).mono ?_
  rintro e w3 ⟨rfl, HB3⟩
  have HN3 := hide ((unhide HN2).below (unhide HB3))
  go_wp2_with fail
  refine (np_done (unhide HN3) (unhide HM) id (enP Mp id) hid).mono ?_
  rintro e w4 ⟨rfl, HB4⟩
  have HN4 := hide ((unhide HN3).below (unhide HB4))
  go_wp2_with fail
  refine (np_done (unhide HN4) (unhide HM) id (enQ Mp id) hid).mono ?_
  rintro e w5 ⟨rfl, HB5⟩
  have HBB : Hid (Below W.heap.size W w5) := by
    have g2 := (unhide HB1).trans ((unhide HB2).mono (unhide HB1).size)
    have g3 := g2.trans ((unhide HB3).mono g2.size)
    have g4 := g3.trans ((unhide HB4).mono g3.size)
    exact g4.trans ((unhide HB5).mono g4.size)
  have hr5 := ((unhide HBB).block _ hwl).trans (unhide HROW)
  have f := fun o => frozen_of_row w5 w.heap.size o _ _ hr5
  have f0 := f 0
  have f1 := f 1
  have f2 := f 2
  have f3 := f 3
  have f4 := f 4
  have f5 := f 5
  have f6 := f 6
  have z0 : w5.cell? ⟨w.heap.size, 0, none⟩ = some (.int .i64 0) := by rw [cell_of_row w5 _ 0 _ _ _ hr5]; rfl
  have z1 : w5.cell? ⟨w.heap.size, 1, none⟩ = some (.int .i64 0) := by rw [cell_of_row w5 _ 1 _ _ _ hr5]; rfl
  have z2 : w5.cell? ⟨w.heap.size, 2, none⟩ = some (.int .i64 0) := by rw [cell_of_row w5 _ 2 _ _ _ hr5]; rfl
  have z3 : w5.cell? ⟨w.heap.size, 3, none⟩ = some (.int .i64 0) := by rw [cell_of_row w5 _ 3 _ _ _ hr5]; rfl
  have z4 : w5.cell? ⟨w.heap.size, 4, none⟩ = some (.int .i64 0) := by rw [cell_of_row w5 _ 4 _ _ _ hr5]; rfl
  have z5 : w5.cell? ⟨w.heap.size, 5, none⟩ = some (.bool false) := by rw [cell_of_row w5 _ 5 _ _ _ hr5]; rfl
  have z6 : w5.cell? ⟨w.heap.size, 6, none⟩ = some (.bool false) := by rw [cell_of_row w5 _ 6 _ _ _ hr5]; rfl
  have HW5 := hide ((unhide HBW).trans ((unhide HBB).mono (unhide HBW).size))
  generalize enP Mp id = A at *
  generalize enQ Mp id = B at *
  generalize waN Mp id A = C at *
  generalize waN Mp id B = D at *
  generalize cuE Mp id = E at *
  generalize dnB Mp id A = F at *
  generalize dnB Mp id B = G at *
  clear f hr5
  go_wp2_with fail
  have HBE : Hid (Below w.heap.size w (((((((w5.setCell ⟨w.heap.size, 0, none⟩ (.int .i64 A)).setCell ⟨w.heap.size, 1, none⟩ (.int .i64 B)).setCell ⟨w.heap.size, 2, none⟩ (.int .i64 C)).setCell ⟨w.heap.size, 3, none⟩ (.int .i64 D)).setCell ⟨w.heap.size, 4, none⟩ (.int .i64 E)).setCell ⟨w.heap.size, 5, none⟩ (.bool F)).setCell ⟨w.heap.size, 6, none⟩ (.bool G))) := by
    have st : ∀ (v : World) (o : Nat) (u : Value), Below w.heap.size w v → Below w.heap.size w (v.setCell ⟨w.heap.size, o, none⟩ u) := fun v o u hv => hv.grown (gset' v ⟨w.heap.size, o, none⟩ u) hv.size (fun k hk => by simp at hk; omega)
    exact st _ _ _ (st _ _ _ (st _ _ _ (st _ _ _ (st _ _ _ (st _ _ _ (st _ _ _ (unhide HW5)))))))
  refine bodyPost_ret (v := tdV ⟨A, B, C, D, E, F, G⟩) (by simp [tdV, results, Try.results12, go_sem, z0, z1, z2, z3, z4, z5, z6]) rfl ⟨?_, HBE⟩
  rw [unhide HTD]
#print axioms tells_any
/-- A connection that a call does not name stays. -/
theorem stM_stays {M : Nm} (h : Mok M) (hl : M.last < 1000000) (d : Dl) {c : Cn} (hc : c ∈ M.cs) (h7 : (d.o % 8).toNat ≠ 7) (hn : (d.o % 8).toNat = 0 ∨ (c.id : Int) ≠ d.i) : (stM M d).get (c.id : Int) = M.get (c.id : Int) := by
  have hok := stM_ok h hl d
  rw [h.get hc rfl]
  refine hok.get ?_ rfl
  have hset : ∀ c' : Cn, (c'.id : Int) = d.i → (c.id : Int) ≠ d.i → c ∈ (M.set c').cs := fun c' hi hne => List.mem_map.2 ⟨c, hc, if_neg (by omega)⟩
  have hsd : (c.id : Int) ≠ d.i → c ∈ (sdM M d.i d.a d.l).cs := fun hne => by
    unfold sdM
    split
    · exact hc
    · rename_i c' hg
      split
      · exact hset _ (Nm.get_some hg).2 hne
      · exact hc
  have hcr : (c.id : Int) ≠ d.i → c ∈ (crM M d.i d.a d.b).cs := fun hne => by
    unfold crM
    split
    · exact hc
    · rename_i c' hg
      split
      · exact List.mem_filter.2 ⟨hset _ (Nm.get_some hg).2 hne, h.live c hc⟩
      · exact hc
  unfold stM
  split
  · unfold diM
    split
    · exact List.mem_append.2 (.inl hc)
    · exact hc
  · rename_i e; exact hsd (by omega)
  · rename_i e; exact hsd (by omega)
  · rename_i e; exact hcr (by omega)
  · rename_i e; exact hcr (by omega)
  · rename_i e
    have hne : (c.id : Int) ≠ d.i := by omega
    unfold clM
    split
    · exact hc
    · rename_i c' hg
      split
      · exact List.mem_filter.2 ⟨hset _ (Nm.get_some hg).2 hne, h.live c hc⟩
      · exact hc
  · rename_i e
    have hne : (c.id : Int) ≠ d.i := by omega
    unfold cuM
    split
    · exact hc
    · exact List.mem_filter.2 ⟨hc, by simpa using hne⟩
  · exfalso
    have h8 := (op8e d.o).2
    rcases (by omega : (d.o % 8).toNat = 0 ∨ (d.o % 8).toNat = 1 ∨ (d.o % 8).toNat = 2 ∨ (d.o % 8).toNat = 3 ∨ (d.o % 8).toNat = 4 ∨ (d.o % 8).toNat = 5 ∨ (d.o % 8).toNat = 6) with e | e | e | e | e | e | e <;> simp_all
#print axioms stM_stays
end Go.Proofs.Ytohlmfiicfoimaa
