/-
  kvstore: slices.SortFunc of items.; kvstore: chosen, Since, Scan of a store.
-/
import Derived.Test.YtmcgghjeocnpnaaGreatDoorPkKewsbg
import Derived.Test.YtmcgghjeocnpnaaGreatDoorPkKewsaa
import Derived.Sort.Walk0
section
set_option linter.unusedVariables false
set_option maxRecDepth 1000000
namespace Go.Proofs.YtmcgghjeocnpnaaGreatDoor
open Go.RowKit Go.Shelf Go.Sort

theorem str_toList (a : Nm) : (str a).toList = a := toList_str a
theorem bl_eq (a b : Nm) : bl a b = decide (a < b) := by unfold bl; rw [bytesLess_eq, str_toList, str_toList]
theorem lt_cmI (x y : Im) : ltOf cmI x y = decide (x.k < y.k) := by
  unfold ltOf cmI cmN
  rw [bl_eq]
  by_cases h : x.k < y.k
  · simp [h]
  · rw [decide_eq_false h, if_neg (by simp)]
    split <;> rfl
theorem swo_cmI : SWO (ltOf cmI) := by
  refine ⟨fun x => ?_, fun x y z h1 h2 => ?_, fun x y z h1 h2 => ?_⟩
  · rw [lt_cmI]; simp
  · rw [lt_cmI] at *; simp at *; exact List.lt_trans h1 h2
  · rw [lt_cmI] at *; simp at *; exact List.le_trans h2 h1
instance : Inhabited Im := ⟨zI⟩
theorem cmpLaysI (blk off size : Nat) (w : World) : CmpLays Tryz.prog 90 #[] imC 4 cmI blk off size w := fun m os dk _ x y =>
  (cmp1 x y _).mono fun e w' ⟨h1, h2⟩ => by
    subst h2
    exact ⟨h1, 0, _, by rw [alloc_eq_grow, alloc_eq_grow, grow_grow]; rfl⟩
theorem flat_ims (l : List Im) : (flatK imC 4 l.toArray).toList = ims l := by
  apply List.ext_getElem?
  intro p
  by_cases hp : p < l.length * 4
  · obtain ⟨a, b, hab, hb4⟩ : ∃ a b, p = a * 4 + b ∧ b < 4 := ⟨p / 4, p % 4, by omega, by omega⟩
    have ha : a < l.length := by omega
    have hsz : p < (flatK imC 4 l.toArray).size := by simp; exact hp
    rw [hab, ims_get l a b l[a] (List.getElem?_eq_getElem ha) hb4, ← hab, Array.getElem?_toList, Array.getElem?_eq_getElem hsz]
    have e := get_flatK imC 4 l.toArray p (by simpa using hp)
    rw [getElem!_pos _ p hsz] at e
    rw [e]
    have e1 : p / 4 = a := by omega
    have e2 : p % 4 = b := by omega
    rw [e1, e2]
    have e3 : (l.toArray)[a]! = l[a] := by rw [getElem!_pos _ a (by simpa using ha)]; simp
    rw [e3]
    have hb : b < (imC l[a]).length := hb4
    rw [getElem!_pos _ b hb, List.getElem?_eq_getElem hb]
  · rw [List.getElem?_eq_none (by simp; omega), List.getElem?_eq_none (by rw [ims_length]; omega)]
theorem heap_put (w : World) (G : Nat) (cur : Array Value) (T : TypeId) (F : Array Value) (h : w.heap[G]? = some (.cells cur T (0, 0))) : (putRow id w G 0 F).heap[G]? = some (.cells (putCells id 0 F cur) T (0, 0)) := by
  unfold putRow mapBlock
  simp only
  rw [Array.getElem?_modify, if_pos rfl, h]
  rfl
theorem heap_put_other (w : World) (G k : Nat) (F : Array Value) (h : k ≠ G) : (putRow id w G 0 F).heap[k]? = w.heap[k]? := by
  unfold putRow mapBlock
  simp only
  rw [Array.getElem?_modify, if_neg (Ne.symm h)]
theorem put_take (cur : Array Value) (l l' : List Im) (hs : l'.length * 4 ≤ cur.size) : (putCells id 0 (flatK imC 4 l'.toArray) cur).toList.take (l'.length * 4) = ims l' ∧ (putCells id 0 (flatK imC 4 l'.toArray) cur).size = cur.size := by
  refine ⟨?_, by simp [putCells]⟩
  rw [← flat_ims]
  apply List.ext_getElem?
  intro p
  rw [List.getElem?_take]
  by_cases hp : p < l'.length * 4
  · rw [if_pos hp]
    have hF : p < (flatK imC 4 l'.toArray).size := by simp; exact hp
    unfold putCells
    rw [Array.getElem?_toList, Array.getElem?_mapIdx, Array.getElem?_eq_getElem (by omega : p < cur.size)]
    simp only [Option.map_some, Nat.zero_le, true_and, Nat.zero_add, Nat.sub_zero, id]
    rw [if_pos hF, getElem!_pos _ p hF, Array.getElem?_toList, Array.getElem?_eq_getElem hF]
  · rw [if_neg hp, List.getElem?_eq_none (by simp; omega)]
theorem sortC : SortC := by
  intro a c l u ho nd inj hl
  rcases ho.cases with ⟨rfl, rfl, rfl⟩ | ⟨G, cur, rfl, hg, hle, hm, hs, ht⟩
  · refine (AnyF.slices_SortFunc_none Tryz.sortI none 0 _ u).mono ?_
    rintro e w' ⟨rfl, rfl⟩
    exact ⟨[], rfl, ho, ⟨List.Perm.refl _, List.Pairwise.nil⟩, ⟨rfl, rfl, rfl, Nat.le_refl _, fun _ _ _ => rfl⟩⟩
  · have hblk : G < u.heap.size := (Array.getElem?_eq_some_iff.1 hg).1
    have hH : HoldsK imC 4 u G 0 l.toArray := by
      intro j hj
      refine ⟨?_, frozen_of_row _ _ _ _ _ hg⟩
      rw [cell_of_row _ _ _ _ _ _ hg, Nat.zero_add]
      have hj' : j < l.length * 4 := by simpa using hj
      have e : (cur.toList.take (l.length * 4))[j]? = (flatK imC 4 l.toArray).toList[j]? := by rw [ht, flat_ims]
      rw [List.getElem?_take, if_pos hj', Array.getElem?_toList, Array.getElem?_toList, Array.getElem?_eq_getElem hj] at e
      rw [e, getElem!_pos _ j hj]
      rfl
    refine (AnyQ.slices_SortFunc Tryz.sortI 4 Tryz.isAgg47 Tryz.sizeOf47 imC (fun _ => rfl) (fun x v hv => by simp [imC] at hv; rcases hv with rfl | rfl | rfl | rfl <;> rfl) cmI swo_cmI 90 #[] G 0 c l.toArray u (enters_of Tryz.func90 (by kernel_rfl) rfl) (cmpLaysI _ _ _ _) hH hblk (by simp; omega)).mono ?_
    rintro e w' ⟨rfl, d', n, os, hp, hso, rfl⟩
    obtain ⟨p1, p2, p3⟩ := hp
    have hsz : d'.size = l.length := by simpa using p1
    have hperm : d'.toList.Perm l := by
      have e1 : d'.extract 0 l.toArray.size = d' := by rw [← p1]; simp
      have e2 : l.toArray.extract 0 l.toArray.size = l.toArray := by simp
      rw [e1, e2] at p3
      exact p3
    have hdl : d' = d'.toList.toArray := by simp
    have hlen : d'.toList.length = l.length := hperm.length_eq
    have hlt9 : G < (putRow id (Sort.ahead u n) G 0 (flatK imC 4 d')).heap.size := by simp [Sort.ahead]; exact hblk
    have hgW : ∀ k, k < u.heap.size → (sortWorldK imC 4 u G 0 n d' os).heap[k]? = (putRow id (Sort.ahead u n) G 0 (flatK imC 4 d')).heap[k]? := fun k hk => by
      unfold sortWorldK putRowK
      exact heap_grow_old _ _ (by simp [Sort.ahead]; exact hk)
    obtain ⟨t1, t2⟩ := put_take cur l d'.toList (by rw [hlen, hs]; omega)
    have hrow : (sortWorldK imC 4 u G 0 n d' os).heap[G]? = some (.cells (putCells id 0 (flatK imC 4 d'.toList.toArray) cur) 47 (0, 0)) := by
      rw [hgW G hblk, heap_put (Sort.ahead u n) G cur _ _ hg, ← hdl]
    refine ⟨d'.toList, rfl, ?_, ⟨hperm, ?_⟩, ?_⟩
    · show OwnM _ _ _ _
      refine ⟨by rw [ims_length], .inr ⟨G, c, _, by rw [hlen], Nat.zero_le _, hrow, by rw [hlen]; exact hle, hm, by rw [t2]; exact hs, t1⟩⟩
    · show Rise _
      unfold Rise
      rw [List.pairwise_iff_getElem]
      intro i j hi hj hij
      have hi' : i < d'.size := by simpa using hi
      have hj' : j < d'.size := by simpa using hj
      have h1 := hso i j (Nat.zero_le _) hij (by simp; omega)
      rw [getElem!_pos _ i hi', getElem!_pos _ j hj', lt_cmI] at h1
      have h2 : ¬ d'[j].k < d'[i].k := of_decide_eq_false h1
      rw [bl_eq]
      apply decide_eq_true
      show d'[i].k < d'[j].k
      apply Classical.byContradiction
      intro h3
      have h4 : d'[i].k = d'[j].k := List.le_antisymm (List.not_lt.1 h2) (List.not_lt.1 h3)
      have m1 : d'[i] ∈ l := hperm.mem_iff.1 (by simp)
      have m2 : d'[j] ∈ l := hperm.mem_iff.1 (by simp)
      have h5 := inj _ m1 _ m2 h4
      have nd' : d'.toList.Nodup := hperm.nodup_iff.2 nd
      have h6 := List.pairwise_iff_getElem.1 nd' i j hi hj hij
      exact h6 (by simpa using h5)
    · show u.grownBy _ (some G)
      refine ⟨rfl, rfl, rfl, ?_, fun k hk hne => ?_⟩
      · unfold sortWorldK putRowK grow
        simp [Sort.ahead]
      · rw [hgW k hk]
        exact heap_put_other _ G k _ (fun e => hne (by rw [e]))
#print axioms sortC
end Go.Proofs.YtmcgghjeocnpnaaGreatDoor
end
section
set_option linter.unusedVariables false
set_option maxRecDepth 1000000
namespace Go.Proofs.YtmcgghjeocnpnaaGreatDoor
open Go.RowKit Go.Maps Go.MuLone

theorem cell_lk {w : World} {Q c : Nat} {v x : Value} (h : w.cell? ⟨c, 0, none⟩ = some v) (hne : c ≠ Q) : (w.setCell ⟨Q, 1, none⟩ x).cell? ⟨c, 0, none⟩ = some v :=
  (World.cell?_setCell_other _ _ _ _ (fun e => hne (congrArg Addr.block e).symm)).trans h
set_option maxHeartbeats 1000000 in
theorem chosen7s (w0 : World) (g : Nat → Tg) (Q B D m : Nat) (M : Md) (N : Nat) (S : List Sg) (f : Its) (cnt v y : Nat) (c : Nat) (z : Int) (w : World) (h : KS w0 w g Q B D m 0 M N S f cnt v y) (hc : w.cell? ⟨c, 0, none⟩ = some (.int .i64 z)) (hcQ : c ≠ Q) (hk : KOk f) (hcn : cnt ≤ 1000000) :
    Calls Tryz.prog 39 #[.pointer (some ⟨Q, 0, none⟩), .func (.func 40) #[] #[.pointer (some ⟨c, 0, none⟩)]] w fun e w' => ∃ a cap l, e = .returned (.slice a l.length cap) ∧ Hid (OwnM w' a cap l) ∧ Hid (∀ k, blk a = some k → w.heap.size ≤ k) ∧ Hid (Gth f (fun x => decide (z < (x.t : Int))) (fun _ => false) l ∧ Rise l ∧ l.length ≤ cnt) ∧ Hid (KS w0 w' g Q B D m 0 M N S f cnt v y) ∧ Hid (Fr w w' g g) := by
  obtain ⟨c0, c1, c3, c4, c5, cf⟩ := h.cells
  have HU := hide (unmade6 Q B w c0)
  have HLK := hide (lock_free muLib ⟨Q, 1, none⟩ w c1 (cf 1))
  have H1 := hide h
  have HKK := hide hk
  have HCC := hide hc
  clear hc
  clear h c0 c1 c3 c4 c5 cf hk
  go_enter_defers Tryz.func39, Tryz.ntmps39
  go_wp2_with fail
  refine (unhide HU).mono ?_
  rintro e w' ⟨rfl, hw'⟩
  subst hw'
  clear HU
  go_wp2_with fail
  refine (unhide HLK).mono ?_
  rintro e w2 ⟨rfl, hw2⟩
  have h2 : KS w0 w2 g Q B D m 1 M N S f cnt v y := by rw [hw2]; exact (unhide H1).lock 1
  have HF2 : Hid (Fr w' w2 g g) := by show Fr _ _ _ _; rw [hw2]; exact (unhide H1).frl (Fr.refl _ g) 1 _
  have hsz2 : w2.heap.size = w'.heap.size := by rw [hw2]; simp [World.setCell]
  have HSZ := hide hsz2
  have HCH := hide (chosen6s sortC Q 3 m f cnt c z w2 (cell_of_row _ _ _ _ _ _ h2.row) h2.im (by rw [hw2]; exact cell_lk (unhide HCC) hcQ) (unhide HKK) hcn)
  have H2 := hide h2
  clear h2 hw2 HLK H1 hsz2
  go_wp2_with fail
  refine (unhide HCH).mono ?_
  rintro e w3 ⟨a, cap, l, rfl, HO, HF, HG, HB⟩
  have h3 := (unhide H2).below (unhide HB)
  have HN : Hid (∀ k, blk a = some k → w'.heap.size ≤ k) := fun k hk => by have := unhide HF k hk; rw [unhide HSZ] at this; exact this
  have HO7 : Hid (OwnM (w3.setCell ⟨Q, 1, none⟩ (.int .i32 0)) a cap l) := (unhide HO).same (fun k hk => Below.heap_setCell _ ⟨Q, 1, none⟩ _ k (fun e => by have q1 := unhide HF k hk; have q2 := (unhide H2).lt; have q3 : k = Q := e; omega))
  clear HCH
  go_wp2_with fail
  refine leaves_cons (f := 29) (args := #[.pointer (some ⟨Q, 1, none⟩)]) (by simp) (by simp [go_sem]) ?_
  refine (unlock_deferred muLib ⟨Q, 1, none⟩ .returning _ h3.cells.2.1 (h3.cells.2.2.2.2.2 1)).mono ?_
  rintro e u' w7 ⟨rfl, rfl, rfl⟩
  exact ⟨_, results_tmp rfl _ _ _, a, cap, l, rfl, HO7, HN, HG, h3.lock 0, h3.frl ((unhide HF2).bel (unhide HB)) 1 _⟩
#print axioms chosen7s
set_option maxHeartbeats 1000000 in
theorem chosen7c (w0 : World) (g : Nat → Tg) (Q B D m : Nat) (M : Md) (N : Nat) (S : List Sg) (f : Its) (cnt v y : Nat) (c d : Nat) (pf pt : Nm) (w : World) (h : KS w0 w g Q B D m 0 M N S f cnt v y) (hc : w.cell? ⟨c, 0, none⟩ = some (.string (str pf))) (hd : w.cell? ⟨d, 0, none⟩ = some (.string (str pt))) (hcQ : c ≠ Q) (hdQ : d ≠ Q) (hk : KOk f) (hcn : cnt ≤ 1000000) :
    Calls Tryz.prog 39 #[.pointer (some ⟨Q, 0, none⟩), .func (.func 50) #[] #[.pointer (some ⟨c, 0, none⟩), .pointer (some ⟨d, 0, none⟩)]] w fun e w' => ∃ a cap l, e = .returned (.slice a l.length cap) ∧ Hid (OwnM w' a cap l) ∧ Hid (∀ k, blk a = some k → w.heap.size ≤ k) ∧ Hid (Gth f (fun x => scP pf pt x) (fun _ => false) l ∧ Rise l ∧ l.length ≤ cnt) ∧ Hid (KS w0 w' g Q B D m 0 M N S f cnt v y) ∧ Hid (Fr w w' g g) := by
  obtain ⟨c0, c1, c3, c4, c5, cf⟩ := h.cells
  have HU := hide (unmade6 Q B w c0)
  have HLK := hide (lock_free muLib ⟨Q, 1, none⟩ w c1 (cf 1))
  have H1 := hide h
  have HKK := hide hk
  have HCC := hide hc
  have HDD := hide hd
  clear hc hd
  clear h c0 c1 c3 c4 c5 cf hk
  go_enter_defers Tryz.func39, Tryz.ntmps39
  go_wp2_with fail
  refine (unhide HU).mono ?_
  rintro e w' ⟨rfl, hw'⟩
  subst hw'
  clear HU
  go_wp2_with fail
  refine (unhide HLK).mono ?_
  rintro e w2 ⟨rfl, hw2⟩
  have h2 : KS w0 w2 g Q B D m 1 M N S f cnt v y := by rw [hw2]; exact (unhide H1).lock 1
  have HF2 : Hid (Fr w' w2 g g) := by show Fr _ _ _ _; rw [hw2]; exact (unhide H1).frl (Fr.refl _ g) 1 _
  have hsz2 : w2.heap.size = w'.heap.size := by rw [hw2]; simp [World.setCell]
  have HSZ := hide hsz2
  have HCH := hide (chosen6c sortC Q 3 m f cnt c d pf pt w2 (cell_of_row _ _ _ _ _ _ h2.row) h2.im (by rw [hw2]; exact cell_lk (unhide HCC) hcQ) (by rw [hw2]; exact cell_lk (unhide HDD) hdQ) (unhide HKK) hcn)
  have H2 := hide h2
  clear h2 hw2 HLK H1 hsz2
  go_wp2_with fail
  refine (unhide HCH).mono ?_
  rintro e w3 ⟨a, cap, l, rfl, HO, HF, HG, HB⟩
  have h3 := (unhide H2).below (unhide HB)
  have HN : Hid (∀ k, blk a = some k → w'.heap.size ≤ k) := fun k hk => by have := unhide HF k hk; rw [unhide HSZ] at this; exact this
  have HO7 : Hid (OwnM (w3.setCell ⟨Q, 1, none⟩ (.int .i32 0)) a cap l) := (unhide HO).same (fun k hk => Below.heap_setCell _ ⟨Q, 1, none⟩ _ k (fun e => by have q1 := unhide HF k hk; have q2 := (unhide H2).lt; have q3 : k = Q := e; omega))
  clear HCH
  go_wp2_with fail
  refine leaves_cons (f := 29) (args := #[.pointer (some ⟨Q, 1, none⟩)]) (by simp) (by simp [go_sem]) ?_
  refine (unlock_deferred muLib ⟨Q, 1, none⟩ .returning _ h3.cells.2.1 (h3.cells.2.2.2.2.2 1)).mono ?_
  rintro e u' w7 ⟨rfl, rfl, rfl⟩
  exact ⟨_, results_tmp rfl _ _ _, a, cap, l, rfl, HO7, HN, HG, h3.lock 0, h3.frl ((unhide HF2).bel (unhide HB)) 1 _⟩
#print axioms chosen7c
set_option maxHeartbeats 1000000 in
theorem since6 (w0 : World) (g : Nat → Tg) (Q B D m : Nat) (M : Md) (N : Nat) (S : List Sg) (f : Its) (cnt v y : Nat) (z : Int) (w : World) (h : KS w0 w g Q B D m 0 M N S f cnt v y) (hk : KOk f) (hcn : cnt ≤ 1000000) :
    Calls Tryz.prog 15 #[.pointer (some ⟨Q, 0, none⟩), .int .i64 z] w fun e w' => ∃ a cap l, e = .returned (.slice a l.length cap) ∧ Hid (OwnM w' a cap l) ∧ Hid (∀ k, blk a = some k → w.heap.size ≤ k) ∧ Hid (Gth f (fun x => decide (z < (x.t : Int))) (fun _ => false) l ∧ Rise l ∧ l.length ≤ cnt) ∧ Hid (KS w0 w' g Q B D m 0 M N S f cnt v y) ∧ Hid (Fr w w' g g) := by
  have hmf : ∀ (fn : Fn) (first cap : Array Value) (w : World), (Instr.makeFunc fn first cap).run Tryz.prog w = .ok (.func fn first cap) w := fun _ _ _ _ => rfl
  obtain ⟨W, hW⟩ : ∃ W, W = w.alloc (.cells #[.int .i64 z] 3) := ⟨_, rfl⟩
  obtain ⟨c, hc⟩ : ∃ c, c = w.heap.size := ⟨_, rfl⟩
  have hb : Below w.heap.size w W := by rw [hW]; exact (Below.refl _ _).alloc (Nat.le_refl _) _
  have hr : W.heap[c]? = some (.cells #[.int .i64 z] 3 (0, 0)) := by rw [hc, hW]; exact heap_alloc_new _ _
  have HCH := hide (chosen7s w0 g Q B D m M N S f cnt v y c z W (h.below hb) (cell_of_row _ _ _ _ _ _ hr) (by rw [hc]; exact Nat.ne_of_gt h.lt) hk hcn)
  have HSZ := hide hb.size
  have HF0 : Hid (Fr w W g g) := (Fr.refl w g).bel hb
  clear h hb hr hk
  go_enter Tryz.func15, Tryz.ntmps15
  go_wp2_with fail
  rw [← hW, ← hc]
  clear hW hc
  refine (unhide HCH).mono ?_
  rintro e w3 ⟨a, cap, l, rfl, HO, HF, HG, HK, HFF⟩
  have HFW : Hid (Fr w w3 g g) := (unhide HF0).trans (unhide HFF)
  have HF' : Hid (∀ k, blk a = some k → w.heap.size ≤ k) := fun k hk => Nat.le_trans (unhide HSZ) (unhide HF k hk)
  clear HCH
  go_wp2_with fail
  go_ret
  exact ⟨a, cap, l, rfl, HO, HF', HG, HK, HFW⟩
#print axioms since6
set_option maxHeartbeats 1000000 in
theorem scan6 (w0 : World) (g : Nat → Tg) (Q B D m : Nat) (M : Md) (N : Nat) (S : List Sg) (f : Its) (cnt v y : Nat) (pf pt : Nm) (w : World) (h : KS w0 w g Q B D m 0 M N S f cnt v y) (hk : KOk f) (hcn : cnt ≤ 1000000) :
    Calls Tryz.prog 21 #[.pointer (some ⟨Q, 0, none⟩), .string (str pf), .string (str pt)] w fun e w' => ∃ a cap l, e = .returned (.slice a l.length cap) ∧ Hid (OwnM w' a cap l) ∧ Hid (∀ k, blk a = some k → w.heap.size ≤ k) ∧ Hid (Gth f (fun x => scP pf pt x) (fun _ => false) l ∧ Rise l ∧ l.length ≤ cnt) ∧ Hid (KS w0 w' g Q B D m 0 M N S f cnt v y) ∧ Hid (Fr w w' g g) := by
  have hmf : ∀ (fn : Fn) (first cap : Array Value) (w : World), (Instr.makeFunc fn first cap).run Tryz.prog w = .ok (.func fn first cap) w := fun _ _ _ _ => rfl
  obtain ⟨W1, hW1⟩ : ∃ W1, W1 = w.alloc (.cells #[.string (str pf)] 9) := ⟨_, rfl⟩
  obtain ⟨W, hW⟩ : ∃ W, W = W1.alloc (.cells #[.string (str pt)] 9) := ⟨_, rfl⟩
  obtain ⟨c, hc⟩ : ∃ c, c = w.heap.size := ⟨_, rfl⟩
  obtain ⟨d, hd⟩ : ∃ d, d = c + 1 := ⟨_, rfl⟩
  have hs1 : W1.heap.size = d := by rw [hW1, hd, hc]; simp
  have hb1 : Below w.heap.size w W1 := by rw [hW1]; exact (Below.refl _ _).alloc (Nat.le_refl _) _
  have hb2 : Below W1.heap.size W1 W := by rw [hW]; exact (Below.refl _ _).alloc (Nat.le_refl _) _
  have hb : Below w.heap.size w W := hb1.trans (hb2.mono hb1.size)
  have hr1 : W1.heap[c]? = some (.cells #[.string (str pf)] 9 (0, 0)) := by rw [hc, hW1]; exact heap_alloc_new _ _
  have hr : W.heap[c]? = some (.cells #[.string (str pf)] 9 (0, 0)) := by rw [hb2.block c (Array.getElem?_eq_some_iff.1 hr1).1]; exact hr1
  have hr2 : W.heap[d]? = some (.cells #[.string (str pt)] 9 (0, 0)) := by rw [← hs1, hW]; exact heap_alloc_new _ _
  have HCH := hide (chosen7c w0 g Q B D m M N S f cnt v y c d pf pt W (h.below hb) (cell_of_row _ _ _ _ _ _ hr) (cell_of_row _ _ _ _ _ _ hr2) (by rw [hc]; exact Nat.ne_of_gt h.lt) (by have := h.lt; omega) hk hcn)
  have HSZ := hide hb.size
  have HF0 : Hid (Fr w W g g) := (Fr.refl w g).bel hb
  rw [hW1] at hW
  clear h hb hb1 hb2 hr hr1 hr2 hk hs1 hW1
  go_enter Tryz.func21, Tryz.ntmps21
  go_wp2_with fail
  rw [← hW, ← hc, ← hd]
  clear hW hc hd
  refine (unhide HCH).mono ?_
  rintro e w3 ⟨a, cap, l, rfl, HO, HF, HG, HK, HFF⟩
  have HFW : Hid (Fr w w3 g g) := (unhide HF0).trans (unhide HFF)
  have HF' : Hid (∀ k, blk a = some k → w.heap.size ≤ k) := fun k hk => Nat.le_trans (unhide HSZ) (unhide HF k hk)
  clear HCH
  go_wp2_with fail
  go_ret
  exact ⟨a, cap, l, rfl, HO, HF', HG, HK, HFW⟩
#print axioms scan6
end Go.Proofs.YtmcgghjeocnpnaaGreatDoor
end
