/-
  A JSON VALUE THAT CAME IN: opened.; jsonx's statements: may a value be gone through (small, can)?; jsonx's statements: a value in memory of its own (own): a value in the midst of being copied; slices.Clone of names.
-/
import Derived.Test.YtbnbngmnoffmkaaGreatDoorPkJetsbd
import Derived.SizedLaws
section
set_option linter.unusedVariables false
namespace Go.Proofs.YtbnbngmnoffmkaaGreatDoor
open Go.RowKit Go.WideShapes Go.ChangeShapes

mutual
/-- Numbers of 64 bits, all through. -/
def Ib : Js → Prop
  | .mk k n t ns is => (-9223372036854775808 ≤ k ∧ k ≤ 9223372036854775807) ∧ (-9223372036854775808 ≤ n ∧ n ≤ 9223372036854775807) ∧ t.length ≤ 140737488351232 ∧ ns.length ≤ 140737488351232 ∧ is.length ≤ 140737488351232 ∧ (∀ s ∈ ns, s.length ≤ 140737488351232) ∧ Ibs is
def Ibs : List Js → Prop
  | [] => True
  | j :: r => Ib j ∧ Ibs r
end
theorem ibs_iff : ∀ l : List Js, Ibs l ↔ ∀ j ∈ l, Ib j
  | [] => by simp [Ibs]
  | j :: r => by simp [Ibs, ibs_iff r]
theorem int_wf {n : Int} (h : (Lit.int .i64 n).wf = true) : -9223372036854775808 ≤ n ∧ n ≤ 9223372036854775807 := by
  simp [Lit.wf, IntKind.min, IntKind.max, IntKind.bits, IntKind.signed] at h
  omega
section
variable {H : Type} {enc : TypeId × Value → H} {w : World}
theorem Tryz.cellsJ : Tryz.prog.cellsOf 25 = 5 := by kernel_rfl
theorem Tryz.cellsI4 : Tryz.prog.cellsOf 3 = 1 := by kernel_rfl
theorem Tryz.cellsI6 : Tryz.prog.cellsOf 2 = 1 := by kernel_rfl
theorem Tryz.cellsS4 : Tryz.prog.cellsOf 9 = 1 := by kernel_rfl
theorem Tryz.cellsNs : Tryz.prog.cellsOf 22 = 1 := by kernel_rfl
theorem Tryz.cellsJs : Tryz.prog.cellsOf 23 = 1 := by kernel_rfl
theorem add0 (a : Addr) : a.add 0 = a := by unfold Addr.add; simp
theorem pick_list {α : Type} (d : α) (len : Nat) (p : Nat → α → Prop) (h : ∀ i, i < len → ∃ x, p i x) : ∃ l : List α, l.length = len ∧ ∀ i x, l[i]? = some x → p i x := by
  refine ⟨(List.range len).map (fun i => if h' : i < len then (h i h').choose else d), by simp, fun i x hx => ?_⟩
  have hi : i < len := by have := (List.getElem?_eq_some_iff.1 hx).1; simpa using this
  have e : x = (h i hi).choose := by simpa [hi] using hx.symm
  rw [e]
  exact (h i hi).choose_spec
theorem wAll_mem {H : Type} {P : Program} {e : TypeId} {d : DataW H} : ∀ {l : List (DataW H)}, d ∈ l → ∀ n ∈ d.weights P e, n ∈ DataW.weightsAll P e l
  | [], h, n, hn => by cases h
  | x :: l, h, n, hn => by
    simp only [DataW.weightsAll, List.mem_append]
    rcases List.mem_cons.1 h with rfl | h
    · exact .inl hn
    · exact .inr (wAll_mem h n hn)
/-- A row of texts that came in. -/
theorem names_open {fuel : Nat} {cs : List Value} {x : DataW H × List MemPlace} (h : DataW.trod enc Tryz.prog w 0 (fun _ => true) true fuel 22 cs = some x) (hz : ∀ n ∈ x.1.weights Tryz.prog 22, n ≤ reachBytes) :
    ∃ a c l, cs = [.slice a l.length c] ∧ NsF w (Al w) a l ∧ l.length ≤ c ∧ c ≤ maxLen ∧ (a = none → c = 0) ∧ l.length ≤ 140737488351232 ∧ ∀ s ∈ l, s.length ≤ 140737488351232 := by
  have h4 : reachBytes = 140737488351232 := rfl
  have h16 : Tryz.prog.bytesOf 9 = 16 := by kernel_rfl
  rcases DataW.trod_slice Tryz.underlying22 h with ⟨hcs, _⟩ | ⟨a, len, cap, elems, rest, n, _, rfl, hx, _, hl, hm, hlen, hel, _, _⟩
  · exact ⟨none, 0, [], hcs, fun h => absurd rfl h, Nat.le_refl _, by unfold maxLen; omega, fun _ => rfl, by simp, fun s hs => by cases hs⟩
  · have hw : ∀ n ∈ (elems.length + rest.length) * 16 :: (DataW.weightsAll Tryz.prog 9 (elems.map (·.1)) ++ DataW.weightsAll Tryz.prog 9 (rest.map (·.1))), n ≤ reachBytes := by
      intro n hn
      refine hz n ?_
      rw [hx]
      simp only [DataW.weights, Tryz.underlying22, List.length_map, h16]
      exact hn
    have each : ∀ i, i < len → ∃ s : List UInt8, w.cell? (a.add i) = some (.string (str s)) ∧ s.length ≤ 140737488351232 := by
      intro i hi
      have k := hel i hi
      rw [List.getElem?_eq_getElem (by omega)] at k
      obtain ⟨cs', h1, h2⟩ := Option.bind_eq_some_iff.1 k
      rw [Tryz.cellsS4, Nat.mul_one] at h1
      obtain ⟨s, e1, ed, hs⟩ := DataW.trod_string Tryz.underlying9 h2
      subst e1
      have := (World.cells?_some h1).2.2 0 (by omega)
      have hmem : s.data.toList.length ≤ reachBytes := by
        refine hw _ (List.mem_cons_of_mem _ (List.mem_append.2 (.inl (wAll_mem (d := elems[i].1) (List.mem_map.2 ⟨elems[i], List.getElem_mem _, rfl⟩) _ ?_))))
        rw [ed]
        simp only [DataW.weights, List.mem_singleton]
      refine ⟨s.data.toList, ?_, by omega⟩
      rw [add0] at this
      exact this
    obtain ⟨l, hll, hlp⟩ := pick_list (α := List UInt8) [] len _ each
    have hw0 := hw _ List.mem_cons_self
    refine ⟨some a, cap, l, by rw [hll], fun hne => ?_, by omega, hm, (fun e => by cases e), by omega, fun s hs => ?_⟩
    · have h0 : 0 < len := by
        have := List.length_pos_iff.2 hne
        omega
      obtain ⟨b, off, spot⟩ := a
      have hc0 := (hlp 0 l[0] (List.getElem?_eq_getElem (by omega))).1
      have hspot : spot = Option.none := by simpa [Addr.add] using World.cell?_spot hc0
      subst hspot
      have hbl := World.block_lt_of_cell? w _ hc0
      refine ⟨b, off, rfl, ?_, fun i s hs => ?_⟩
      · rw [addr_add] at hbl; exact hbl
      · have := (hlp i s hs).1
        rwa [addr_add] at this
    · obtain ⟨i, hi⟩ := List.getElem?_of_mem hs
      exact (hlp i s hi).2
set_option maxRecDepth 100000 in
theorem json_open : ∀ (fuel : Nat) {cs : List Value} {x : DataW H × List MemPlace}, DataW.trod enc Tryz.prog w 0 (fun _ => true) true fuel 25 cs = some x → (∀ n ∈ x.1.weights Tryz.prog 25, n ≤ reachBytes) → ∃ j, JV w (Al w) (.agg cs.toArray) j ∧ Ib j
  | fuel, cs, x, h, hz => by
    have hrb : reachBytes = 140737488351232 := rfl
    have h80 : Tryz.prog.bytesOf 25 = 80 := by kernel_rfl
    obtain ⟨xs, k, ef, hx, hl, hlen, hf'⟩ := DataW.trod_struct Tryz.underlying25 h
    rw [Tryz.cellsJ] at hl
    match cs, hl with
    | [v0, v1, v2, v3, v4], _ =>
      have t0 := hf' 0 _ rfl
      have t1 := hf' 1 _ rfl
      have t2 := hf' 2 _ rfl
      have t3 := hf' 3 _ rfl
      have t4 := hf' 4 _ rfl
      simp [Tryz.cellsI4, Tryz.cellsI6, Tryz.cellsS4, Tryz.cellsNs, Tryz.cellsJs] at t0 t1 t2 t3 t4
      match xs, hlen with
      | [y0, y1, y2, y3, y4], _ =>
        simp only [List.getElem?_cons_zero, List.getElem?_cons_succ] at t0 t1 t2 t3 t4
        obtain ⟨o, e0, _, w0⟩ := DataW.trod_int Tryz.underlying3 t0
        obtain ⟨i, e1, _, w1⟩ := DataW.trod_int Tryz.underlying2 t1
        obtain ⟨s, e2, ed2, hs⟩ := DataW.trod_string Tryz.underlying9 t2
        have hin : ∀ n ∈ DataW.weightsEach Tryz.prog [3, 2, 9, 22, 23] [y0.1, y1.1, y2.1, y3.1, y4.1], n ≤ reachBytes := by
          intro n hn
          refine hz n ?_
          rw [hx]
          simp only [DataW.weights, Tryz.underlying25]
          exact hn
        have hz3 : ∀ n ∈ y3.1.weights Tryz.prog 22, n ≤ reachBytes := fun n hn => hin n (DataW.weights_mem_each (j := 3) rfl rfl n hn)
        have hz4 : ∀ n ∈ y4.1.weights Tryz.prog 23, n ≤ reachBytes := fun n hn => hin n (DataW.weights_mem_each (j := 4) rfl rfl n hn)
        have hzs : s.data.toList.length ≤ reachBytes := hin _ (DataW.weights_mem_each (t := 9) (d := y2.1) (j := 2) rfl rfl _ (by rw [ed2]; simp only [DataW.weights, List.mem_singleton]))
        obtain ⟨a1, c1, ns, e3, hN, hn1, hn2, hn3, hn5, hn4⟩ := names_open t3 hz3
        simp only [List.cons.injEq, and_true] at e0 e1 e2 e3
        subst e0 e1 e2 e3
        have hint := int_wf w0
        have hint1 := int_wf w1
        rcases DataW.trod_slice Tryz.underlying23 t4 with ⟨e4, _⟩ | ⟨a, len, cap, elems, rest, n, en, e4, hx4, _, hl4, hm4, hlen4, hel, _, _⟩
        · simp only [List.cons.injEq, and_true] at e4
          subst e4
          refine ⟨.mk o i s.data.toList ns [], ?_, ?_⟩
          · simp only [JV]
            exact ⟨a1, c1, none, 0, rfl, hN, hn1, hn2, hn3, Nat.le_refl _, by unfold maxLen; omega, fun _ => rfl, trivial⟩
          · simp only [Ib, Ibs]
            exact ⟨hint, hint1, by omega, hn5, by simp, hn4, trivial⟩
        · simp only [List.cons.injEq, and_true] at e4
          subst e4
          have hw : ∀ n ∈ (elems.length + rest.length) * 80 :: (DataW.weightsAll Tryz.prog 25 (elems.map (·.1)) ++ DataW.weightsAll Tryz.prog 25 (rest.map (·.1))), n ≤ reachBytes := by
            intro n hn
            refine hz4 n ?_
            rw [hx4]
            simp only [DataW.weights, Tryz.underlying23, List.length_map, h80]
            exact hn
          have hw0 := hw _ List.mem_cons_self
          have each : ∀ q, q < len → ∃ j : Js, (∃ c0 c1 c2 c3 c4, w.cells? 0 (a.add (q * 5)) 5 = some [c0, c1, c2, c3, c4] ∧ JV w (Al w) (.agg #[c0, c1, c2, c3, c4]) j) ∧ Ib j := by
            intro q hq
            have kk := hel q hq
            rw [List.getElem?_eq_getElem (by omega)] at kk
            obtain ⟨cs', h1, h2⟩ := Option.bind_eq_some_iff.1 kk
            rw [Tryz.cellsJ] at h1
            obtain ⟨j, hj, hib⟩ := json_open n h2 (fun z hzz => hw z (List.mem_cons_of_mem _ (List.mem_append.2 (.inl (wAll_mem (d := elems[q].1) (List.mem_map.2 ⟨elems[q], List.getElem_mem _, rfl⟩) z hzz)))))
            have hcl := (World.cells?_some h1).2.1
            match cs', hcl with
            | [c0, c1, c2, c3, c4], _ => exact ⟨j, ⟨c0, c1, c2, c3, c4, h1, hj⟩, hib⟩
          obtain ⟨is, hil, hip⟩ := pick_list (α := Js) Js.nul len _ each
          refine ⟨.mk o i s.data.toList ns is, ?_, ?_⟩
          · simp only [JV]
            refine ⟨a1, c1, some a, cap, by rw [hil]; rfl, hN, hn1, hn2, hn3, by omega, hm4, (fun e => by cases e), (jvs_iff w (Al w) (some a) is 0).2 (fun m j hj => ?_)⟩
            obtain ⟨⟨z0, z1, z2, z3, z4, hc, hv⟩, _⟩ := hip m j hj
            have hcell := (World.cells?_some hc).2.2
            obtain ⟨b, off, spot⟩ := a
            have q0 := hcell 0 (by omega)
            have hm0 := (List.getElem?_eq_some_iff.1 hj).1
            have hspot : spot = Option.none := by
              obtain ⟨⟨y0, y1, y2, y3, y4, hc', _⟩, _⟩ := hip 0 is[0] (List.getElem?_eq_getElem (by omega))
              have q := (World.cells?_some hc').2.2 0 (by omega)
              rw [Nat.zero_mul, add0, add0] at q
              exact World.cell?_spot (show w.cell? ⟨b, off, spot⟩ = some y0 from q)
            subst hspot
            have q1 := hcell 1 (by omega)
            have q2 := hcell 2 (by omega)
            have q3 := hcell 3 (by omega)
            have q4 := hcell 4 (by omega)
            simp only [addr_add, Nat.add_zero, List.getElem?_cons_zero, List.getElem?_cons_succ] at q0 q1 q2 q3 q4
            refine ⟨b, off, z0, z1, z2, z3, z4, rfl, World.block_lt_of_cell? w _ q0, ?_, ?_, ?_, ?_, ?_, hv⟩
            · rw [Nat.zero_add]; exact q0
            · rw [Nat.zero_add]; exact q1
            · rw [Nat.zero_add]; exact q2
            · rw [Nat.zero_add]; exact q3
            · rw [Nat.zero_add]; exact q4
          · simp only [Ib]
            refine ⟨hint, hint1, by omega, hn5, by omega, hn4, (ibs_iff is).2 (fun j hj => ?_)⟩
            obtain ⟨m, hm⟩ := List.getElem?_of_mem hj
            exact (hip m j hm).2
  termination_by fuel => fuel
set_option maxRecDepth 100000 in
theorem json_in {base : Nat} {v : Value} {x : DataW H} {p : List MemPlace} (hv : Value.okWide Tryz.prog w .any base 25 v) (h : DataW.Trod enc Tryz.prog w 0 (fun _ => true) true 25 v x p) {ts : List TypeId} {ds : List (DataW H)} (hz : (DataW.weightsEach Tryz.prog ts ds).all (· ≤ reachBytes) = true) {j : Nat} (h1 : ts[j]? = some 25) (h2 : ds[j]? = some x) :
    ∃ J, JV w (Al w) v J ∧ Ib J := by
  obtain ⟨cs, rfl, hsz⟩ := okWide_struct Tryz.underlying25 hv
  obtain ⟨fuel, hf⟩ := h
  obtain ⟨J, h3, h4⟩ := json_open fuel hf (fun n hn => by simpa using List.all_eq_true.1 hz n (DataW.weights_mem_each h1 h2 n hn))
  exact ⟨J, by simpa [Value.cells] using h3, h4⟩
end
#print axioms json_in
#print axioms json_open
end Go.Proofs.YtbnbngmnoffmkaaGreatDoor
end
section
set_option linter.unusedVariables false
set_option maxRecDepth 1000000
namespace Go.Proofs.YtbnbngmnoffmkaaGreatDoor
open Go.RowKit

def smN (left : Int) : List (List UInt8) → Option Int
  | [] => some left
  | s :: r => if left - ((s.length / 16 : Nat) : Int) < 0 then none else smN (left - ((s.length / 16 : Nat) : Int)) r
mutual
def smJ (deep left : Int) : Js → Option Int
  | .mk k n t ns is =>
    if left - (1 + (ns.length : Int)) < 0 ∨ 40 < deep ∨ 65536 < t.length then none
    else match smN (left - (1 + (ns.length : Int))) ns with
      | none => none
      | some l2 => match smL (deep + 1) (l2 - ((t.length / 16 : Nat) : Int)) is with
        | none => none
        | some l4 => if 0 ≤ l4 then some l4 else none
def smL (deep left : Int) : List Js → Option Int
  | [] => some left
  | j :: r => match smJ deep left j with
    | none => none
    | some l => smL deep l r
end
theorem smN_le : ∀ (ns : List (List UInt8)) (l l' : Int), 0 ≤ l → smN l ns = some l' → 0 ≤ l' ∧ l' ≤ l ∧ ∀ s ∈ ns, ((s.length / 16 : Nat) : Int) ≤ l
  | [], l, l', h0, h => by simp only [smN, Option.some.injEq] at h; subst h; exact ⟨h0, Int.le_refl _, fun s hs => by cases hs⟩
  | s :: r, l, l', h0, h => by
    simp only [smN] at h
    split at h
    · cases h
    · obtain ⟨h1, h2, h3⟩ := smN_le r _ l' (by omega) h
      refine ⟨h1, by omega, fun x hx => ?_⟩
      rcases List.mem_cons.1 hx with rfl | hx
      · omega
      · have := h3 x hx; omega
/-- What is gone through is small. -/
theorem smJ_good : ∀ (N : Nat) (j : Js) (deep l l' : Int), SizeOf.sizeOf j < N → Ib j → l ≤ 5000 → smJ deep l j = some l' → 0 ≤ l' ∧ l' + 1 ≤ l ∧ Sz j
  | 0, j, deep, l, l', hN, hi, hl, h => by omega
  | N + 1, .mk k n t ns is, deep, l, l', hN, hi, hl, h => by
    simp only [smJ] at h
    simp only [Ib] at hi
    split at h
    · cases h
    · rename_i hc
      cases h1 : smN (l - (1 + (ns.length : Int))) ns with
      | none => rw [h1] at h; cases h
      | some l2 =>
        rw [h1] at h
        simp only at h
        obtain ⟨k1, k2, k3⟩ := smN_le ns _ l2 (by omega) h1
        cases h2 : smL (deep + 1) (l2 - ((t.length / 16 : Nat) : Int)) is with
        | none => rw [h2] at h; cases h
        | some l4 =>
          rw [h2] at h
          simp only at h
          split at h
          · rename_i h4
            simp only [Option.some.injEq] at h
            subst h
            have key : ∀ (js : List Js) (x x' : Int), (∀ y ∈ js, y ∈ is) → x ≤ 5000 → smL (deep + 1) x js = some x' → x' + js.length ≤ x ∧ ∀ y ∈ js, Sz y := by
              intro js
              induction js with
              | nil => intro x x' _ _ hx; simp only [smL, Option.some.injEq] at hx; subst hx; exact ⟨by simp, fun y hy => by cases hy⟩
              | cons y r ih =>
                intro x x' hm hx5 hx
                simp only [smL] at hx
                cases hy : smJ (deep + 1) x y with
                | none => rw [hy] at hx; cases hx
                | some z =>
                  rw [hy] at hx
                  have hmem := hm y List.mem_cons_self
                  have hsz : SizeOf.sizeOf y < N := by
                    have h1 := List.sizeOf_lt_of_mem hmem
                    simp only [Js.mk.sizeOf_spec] at hN
                    omega
                  obtain ⟨g1, g2, g3⟩ := smJ_good N y (deep + 1) x z hsz ((ibs_iff is).1 hi.2.2.2.2.2.2 y hmem) hx5 hy
                  obtain ⟨g4, g5⟩ := ih z x' (fun a ha => hm a (List.mem_cons_of_mem _ ha)) (by omega) hx
                  refine ⟨by simp only [List.length_cons]; omega, fun a ha => ?_⟩
                  rcases List.mem_cons.1 ha with rfl | ha
                  · exact g3
                  · exact g5 a ha
            obtain ⟨g1, g2⟩ := key is _ l4 (fun y hy => hy) (by omega) h2
            refine ⟨h4, by omega, ?_⟩
            simp only [Sz]
            refine ⟨hi.2.1, by omega, by omega, by omega, fun s hs => ?_, (szs_iff is).2 g2⟩
            have := k3 s hs
            omega
          · cases h
#print axioms smJ_good
theorem Mv.dr {w u : World} {P : Nat} (h : Mv w u P) : Mv w u.drew P := ⟨h.os, h.tape, h.output, h.size, h.block⟩
/-- small, of a value. -/
def SmP (j : Js) : Prop := ∀ (S : Nat → Prop) (v : Value) (P : Nat) (deep left : Int) (w : World), JV w S v j → (∀ k, S k → k < w.heap.size ∧ k ≠ P) → w.heap[P]? = some (.cells #[.int .i64 left] 3 (0, 0)) → -5000 ≤ left → left ≤ 5000 → 0 ≤ deep → deep ≤ 41 → Ib j →
  Calls Tryz.prog 23 #[v, .pointer (some ⟨P, 0, none⟩), .int .i64 deep] w fun e w' => e = .returned (.bool (smJ deep left j).isSome) ∧ Hid (∀ l, smJ deep left j = some l → w'.heap[P]? = some (.cells #[.int .i64 l] 3 (0, 0))) ∧ Hid (Mv w w' P)
set_option maxHeartbeats 8000000 in
theorem small_core (k n : Int) (t : List UInt8) (ns : List (List UInt8)) (is : List Js) (hrec : ∀ x ∈ is, SmP x) : SmP (.mk k n t ns is) := by
  intro S v P deep left w hJ hS hP hl1 hl2 hd0 hd1 hib
  simp only [JV] at hJ
  obtain ⟨a1, c1, a2, c2, rfl, hN, hnc, hnm, _, hic, him, _, hIt⟩ := hJ
  simp only [Ib] at hib
  obtain ⟨_, _, hit, hgB, hmB, hin, hii⟩ := hib
  obtain ⟨m, hm⟩ : ∃ m, m = is.length := ⟨_, rfl⟩
  obtain ⟨g, hg⟩ : ∃ g, g = ns.length := ⟨_, rfl⟩
  obtain ⟨R, hR⟩ : ∃ R, R = smJ deep left (.mk k n t ns is) := ⟨_, rfl⟩
  rw [← hm] at hic hmB
  rw [← hg] at hnc hgB
  rw [← hm, ← hg, ← hR]
  simp only [smJ] at hR
  rw [← hg] at hR
  have HR := hide hR
  have HM := hide hm
  have HG := hide hg
  obtain ⟨V, hV⟩ : ∃ V, V = w.heap.size := ⟨_, rfl⟩
  obtain ⟨W, hW⟩ : ∃ W, W = w.alloc (.cells #[.int .i64 k, .int .i64 n, .string (str t), .slice a1 g c1, .slice a2 m c2] 25) := ⟨_, rfl⟩
  have bW : Below w.heap.size w W := by rw [hW]; exact (Below.refl _ _).alloc (Nat.le_refl _) _
  have rV : W.heap[V]? = some (.cells #[.int .i64 k, .int .i64 n, .string (str t), .slice a1 g c1, .slice a2 m c2] 25 (0, 0)) := by rw [hW, hV]; exact heap_alloc_new _ _
  have hPl : P < w.heap.size := (Array.getElem?_eq_some_iff.1 hP).1
  have hVP : V ≠ P := by omega
  have rP := (bW.block P hPl).trans hP
  have sW : W.heap.size = w.heap.size + 1 := by rw [hW]; simp
  have HKV : Hid (∀ u, Mv W u P → u.heap[V]? = some (.cells #[.int .i64 k, .int .i64 n, .string (str t), .slice a1 g c1, .slice a2 m c2] 25 (0, 0))) := fun u hu => (hu.block V (by omega) (fun e => hVP (Option.some.inj e))).trans rV
  have HF : Hid (∀ u, Mv W u P → Mv w u P) := fun u hu => (Mv.ofB bW).trans hu
  have HSK : Hid (∀ u, Mv W u P → ∀ q, S q → S q ∧ u.heap[q]? = w.heap[q]?) := fun u hu q hq => ⟨hq, (hu.block q (by have := (hS q hq).1; omega) (fun e => (hS q hq).2 (Option.some.inj e))).trans (bW.block q (hS q hq).1)⟩
  have HSL : Hid (∀ u, Mv W u P → ∀ q, S q → q < u.heap.size ∧ q ≠ P) := fun u hu q hq => ⟨by have := (hS q hq).1; have := hu.size; omega, (hS q hq).2⟩
  have HN := hide hN
  have HI := hide hIt
  have HREC := hide hrec
  have HIN := hide hin
  have HII := hide hii
  obtain ⟨p0, p1, p2, p3, p4⟩ := cells5 rV
  have z0 := cell_of_row _ _ 0 _ _ _ rP
  simp only [List.getElem?_toArray, List.getElem?_cons_zero] at z0
  have f0 := frozen_of_row W P 0 _ _ rP
  have HRP := hide rP
  have HPW : Hid (P < W.heap.size) := by show _ < _; omega
  clear hN hIt hrec hS hP bW rV hR hm hg hin hii sW rP hPl hnm him
  go_enter Tryz.func23, Tryz.ntmps23
  go_upto_region 1 with fail
  rw [← hW, ← hV]
  clear hW hV
  go_region
  obtain ⟨L1, hL1⟩ : ∃ L1 : Int, L1 = left - (1 + (g : Int)) := ⟨_, rfl⟩
  rw [← hL1]
  rw [← hL1] at HR
  obtain ⟨w3, hw3⟩ : ∃ w3, w3 = (W.setCell ⟨P, 0, none⟩ (.int .i64 L1)).drew := ⟨_, rfl⟩
  have HMV3 : Hid (Mv W w3 P) := by show Mv _ _ _; rw [hw3]; exact (Mv.set W P 0 _).dr
  have HR3 : Hid (w3.heap[P]? = some (.cells #[.int .i64 L1] 3 (0, 0))) := by show _ = _; rw [hw3]; exact heap_setCell_same _ _ _ _ _ _ (unhide HRP)
  rw [← hw3]
  have hL1b : -140737488360000 ≤ L1 ∧ L1 ≤ 5000 := by omega
  clear hw3 hL1 p0 p1 p2 p3 p4 z0 f0 HRP
  obtain ⟨p0, p1, p2, p3, p4⟩ := cells5 (unhide HKV w3 (unhide HMV3))
  have z0 := cell_of_row _ _ 0 _ _ _ (unhide HR3)
  simp only [List.getElem?_toArray, List.getElem?_cons_zero] at z0
  have hsz : (str t).size = t.length := str_size t
  by_cases hbad : L1 < 0 ∨ 40 < deep ∨ 65536 < t.length
  · have HRn : Hid (R = none) := by show _ = _; rw [unhide HR, if_pos hbad]
    have HFF := hide (unhide HF w3 (unhide HMV3))
    clear HR
    by_cases hA : L1 < 0
    · clear hbad
      go_wp2_with fail
      go_ret
      rw [unhide HRn]
      exact ⟨rfl, fun l e => (by cases e), HFF⟩
    · by_cases hB : 40 < deep
      · clear hbad
        go_wp2_with fail
        go_ret
        rw [unhide HRn]
        exact ⟨rfl, fun l e => (by cases e), HFF⟩
      · have hC : (65536 : Int) < (t.length : Int) := by omega
        clear hbad
        go_wp2_with fail
        go_ret
        rw [unhide HRn]
        exact ⟨rfl, fun l e => (by cases e), HFF⟩
  · rw [not_or, not_or] at hbad
    obtain ⟨hA, hB, hC⟩ := hbad
    have hC' : ¬ (65536 : Int) < (t.length : Int) := by omega
    have HR2 : Hid (R = match smN L1 ns with | none => none | some l2 => match smL (deep + 1) (l2 - ((t.length / 16 : Nat) : Int)) is with | none => none | some l4 => if 0 ≤ l4 then some l4 else none) := by
      show _ = _
      rw [unhide HR, if_neg (by omega)]
    clear HR
    go_wp2_with fail
    clear p0 p1 p2 p3 p4 z0
    go_loopw [37] (fun v wr => ∃ (i : Nat) (li : Int), i ≤ g ∧ v = .int .i64 (i : Int) ∧ 0 ≤ li ∧ li ≤ 5000 ∧ Hid (smN L1 ns = smN li (ns.drop i)) ∧ Hid (wr.heap[P]? = some (.cells #[.int .i64 li] 3 (0, 0))) ∧ Hid (Mv W wr P)) (fun v _ => g - (intOf v).toNat)
    case atStart => exact ⟨0, L1, Nat.zero_le _, rfl, by omega, by omega, by show _ = _; rw [List.drop_zero], HR3, HMV3⟩
    case round =>
      obtain ⟨i, li, hi, rfl, hl0, hl5, HQ, HRi, HMi⟩ := hrel
      have z0 := cell_of_row _ _ 0 _ _ _ (unhide HRi)
      simp only [List.getElem?_toArray, List.getElem?_cons_zero] at z0
      by_cases hlt : i < g
      · have hlt' : (i : Int) < (g : Int) := by omega
        obtain ⟨s, hs⟩ : ∃ s, ns[i]? = some s := ⟨_, List.getElem?_eq_getElem (by rw [← unhide HG]; exact hlt)⟩
        have hne : ns ≠ [] := fun e => by rw [e] at hs; simp at hs
        obtain ⟨B, ob, rfl, hSB, hBc⟩ := ((unhide HN).keep (unhide HSK wr (unhide HMi))) hne
        have c0 := hBc i s hs
        have hsl := unhide HIN s (List.mem_of_getElem? hs)
        have hss : (str s).size = s.length := str_size s
        obtain ⟨Q, hQe⟩ : ∃ Q, Q = s.length / 16 := ⟨_, rfl⟩
        have hQ : ((s.length : Nat) : Int).tdiv 16 = (Q : Int) := by rw [hQe]; exact (Int.ofNat_tdiv s.length 16).symm
        have hQb : Q ≤ 140737488351232 := by omega
        have f0 := frozen_of_row wr P 0 _ _ (unhide HRi)
        have HQ2 : Hid (smN L1 ns = if li - (Q : Int) < 0 then none else smN (li - (Q : Int)) (ns.drop (i + 1))) := by
          show _ = _
          have e1 : ns.drop i = s :: ns.drop (i + 1) := by
            have hl2 := (List.getElem?_eq_some_iff.1 hs).1
            rw [List.drop_eq_getElem_cons hl2]; congr 1; exact (List.getElem?_eq_some_iff.1 hs).2
          rw [unhide HQ, e1, hQe]
          rfl
        obtain ⟨w5, hw5⟩ : ∃ w5, w5 = wr.setCell ⟨P, 0, none⟩ (.int .i64 (li - (Q : Int))) := ⟨_, rfl⟩
        have HM5 : Hid (Mv W w5 P) := by show Mv _ _ _; rw [hw5]; exact (unhide HMi).trans (Mv.set wr P 0 _)
        have HR5 : Hid (w5.heap[P]? = some (.cells #[.int .i64 (li - (Q : Int))] 3 (0, 0))) := by show _ = _; rw [hw5]; exact heap_setCell_same _ _ _ _ _ _ (unhide HRi)
        clear hs hne hSB hBc HQ hQe
        go_upto_region 8 with fail
        rw [← hw5]
        clear hw5 z0 f0 c0
        have z1 := cell_of_row _ _ 0 _ _ _ (unhide HR5)
        simp only [List.getElem?_toArray, List.getElem?_cons_zero] at z1
        by_cases hneg : li - (Q : Int) < 0
        · have HRn : Hid (R = none) := by show _ = _; rw [unhide HR2, unhide HQ2, if_pos hneg]
          have HFF := hide (unhide HF w5 (unhide HM5))
          go_wp2_with fail
          go_ret
          rw [unhide HRn]
          exact ⟨rfl, fun l e => (by cases e), HFF⟩
        · have HQ3 : Hid (smN L1 ns = smN (li - (Q : Int)) (ns.drop (i + 1))) := by show _ = _; rw [unhide HQ2, if_neg hneg]
          go_wp2_with fail
          go_roundw
          case rel => exact ⟨i + 1, li - (Q : Int), by omega, by go_num, by omega, by omega, HQ3, HR5, HM5⟩
          case measure => simp [intOf]; omega
      · have hlt' : ¬ (i : Int) < (g : Int) := by omega
        obtain ⟨p0, p1, p2, p3, p4⟩ := cells5 (unhide HKV wr (unhide HMi))
        have HQe : Hid (smN L1 ns = some li) := by show _ = _; rw [unhide HQ, List.drop_eq_nil_of_le (by rw [← unhide HG]; omega)]; rfl
        obtain ⟨Q, hQe⟩ : ∃ Q, Q = t.length / 16 := ⟨_, rfl⟩
        have hQ : ((t.length : Nat) : Int).tdiv 16 = (Q : Int) := by rw [hQe]; exact (Int.ofNat_tdiv t.length 16).symm
        have hQb : Q ≤ 4096 := by omega
        obtain ⟨L3, hL3⟩ : ∃ L3 : Int, L3 = li - (Q : Int) := ⟨_, rfl⟩
        have HR4 : Hid (R = match smL (deep + 1) L3 is with | none => none | some l4 => if 0 ≤ l4 then some l4 else none) := by show _ = _; rw [unhide HR2, unhide HQe, hL3, hQe]
        have f0 := frozen_of_row wr P 0 _ _ (unhide HRi)
        have HRi' := hide (unhide HRi)
        clear hQe HQ HQe HR2 hlt
        go_wp2_with fail
        go_region
        rw [← hL3]
        obtain ⟨u0, hu0⟩ : ∃ u0, u0 = (wr.setCell ⟨P, 0, none⟩ (.int .i64 L3)).drew := ⟨_, rfl⟩
        have HM6 : Hid (Mv W u0 P) := by show Mv _ _ _; rw [hu0]; exact ((unhide HMi).trans (Mv.set wr P 0 _)).dr
        have HR6 : Hid (u0.heap[P]? = some (.cells #[.int .i64 L3] 3 (0, 0))) := by show _ = _; rw [hu0]; exact heap_setCell_same _ _ _ _ _ _ (unhide HRi')
        rw [← hu0]
        have hL3b : -5000 ≤ L3 ∧ L3 ≤ 5000 := by omega
        clear hu0 hL3 p0 p1 p2 p3 p4 z0 f0 HRi HRi' HMi
        obtain ⟨p0, p1, p2, p3, p4⟩ := cells5 (unhide HKV u0 (unhide HM6))
        go_wp2_with fail
        clear p0 p1 p2 p3 p4
        go_loopw [66] (fun v wr => ∃ (q : Nat) (lq : Int), q ≤ m ∧ v = .int .i64 (q : Int) ∧ -5000 ≤ lq ∧ lq ≤ 5000 ∧ Hid (smL (deep + 1) L3 is = smL (deep + 1) lq (is.drop q)) ∧ Hid (wr.heap[P]? = some (.cells #[.int .i64 lq] 3 (0, 0))) ∧ Hid (Mv W wr P)) (fun v _ => m - (intOf v).toNat)
        case atStart => exact ⟨0, L3, Nat.zero_le _, rfl, hL3b.1, hL3b.2, by show _ = _; rw [List.drop_zero], HR6, HM6⟩
        case round =>
          obtain ⟨q, lq, hq, rfl, hl0', hl5', HQ, HRq, HMq⟩ := hrel
          by_cases hlt2 : q < m
          · have hlt3 : (q : Int) < (m : Int) := by omega
            obtain ⟨x, hx⟩ : ∃ x, is[q]? = some x := ⟨_, List.getElem?_eq_getElem (by rw [← unhide HM]; exact hlt2)⟩
            have hmem := List.mem_of_getElem? hx
            have ex := ((jvs_iff w S a2 is 0).1 (unhide HI) q x hx).keep (S' := S) (w' := wr) (unhide HSK wr (unhide HMq))
            rw [Nat.zero_add] at ex
            obtain ⟨B, off, v0, v1, v2, v3, v4, rfl, hSb, g0, g1, g2, g3, g4, hj⟩ := ex
            obtain ⟨jk, jn, jt, ja1, jn1, jc1, ja2, jn2, jc2, e⟩ := hj.form
            simp only [Value.agg.injEq, Array.mk.injEq, List.cons.injEq, and_true] at e
            obtain ⟨rfl, rfl, rfl, rfl, rfl⟩ := e
            have HQ2 : Hid (smL (deep + 1) L3 is = match smJ (deep + 1) lq x with | none => none | some l => smL (deep + 1) l (is.drop (q + 1))) := by
              show _ = _
              have e1 : is.drop q = x :: is.drop (q + 1) := by
                have hl2 := (List.getElem?_eq_some_iff.1 hx).1
                rw [List.drop_eq_getElem_cons hl2]; congr 1; exact (List.getElem?_eq_some_iff.1 hx).2
              rw [unhide HQ, e1, smL]
            obtain ⟨Z, hZ⟩ : ∃ Z, Z = wr.heap.size := ⟨_, rfl⟩
            obtain ⟨U, hU⟩ : ∃ U, U = wr.alloc (.cells #[.int .i64 jk, .int .i64 jn, .string (str jt), .slice ja1 jn1 jc1, .slice ja2 jn2 jc2] 25) := ⟨_, rfl⟩
            have bU : Below wr.heap.size wr U := by rw [hU]; exact (Below.refl _ _).alloc (Nat.le_refl _) _
            have HMU : Hid (Mv W U P) := (unhide HMq).trans (Mv.ofB bU)
            have rU : U.heap[Z]? = some (.cells #[.int .i64 jk, .int .i64 jn, .string (str jt), .slice ja1 jn1 jc1, .slice ja2 jn2 jc2] 25 (0, 0)) := by rw [hU, hZ]; exact heap_alloc_new _ _
            have hib := (ibs_iff is).1 (unhide HII) x hmem
            have HC := hide (unhide HREC x hmem S _ P (deep + 1) lq U (JV.keep (fun y hy => ⟨hy, bU.block y (unhide HSL wr (unhide HMq) y hy).1⟩) _ _ hj) (unhide HSL U (unhide HMU)) ((bU.block P (Array.getElem?_eq_some_iff.1 (unhide HRq)).1).trans (unhide HRq)) hl0' hl5' (by omega) (by omega) hib)
            have HGD : Hid (∀ l, smJ (deep + 1) lq x = some l → 0 ≤ l ∧ l + 1 ≤ lq) := fun l e => by
              obtain ⟨h1, h2, _⟩ := smJ_good _ x (deep + 1) lq l (Nat.lt_succ_self _) hib hl5' e
              exact ⟨h1, h2⟩
            generalize smJ (deep + 1) lq x = E at HC HQ2 HGD
            obtain ⟨d0, d1, d2, d3, d4⟩ := cells5 rU
            clear hx hmem hSb hj bU rU hib HQ
            go_upto_region 15 with fail
            rw [← hU, ← hZ]
            clear hU hZ g0 g1 g2 g3 g4
            go_wp2_with fail
            refine (unhide HC).mono ?_
            rintro e w7 ⟨rfl, h7, h8⟩
            have HM7 : Hid (Mv W w7 P) := (unhide HMU).trans (unhide h8)
            clear HC h8 d0 d1 d2 d3 d4
            cases E with
            | none =>
              have HRn : Hid (R = none) := by show _ = _; rw [unhide HR4, unhide HQ2]
              have HFF := hide (unhide HF w7 (unhide HM7))
              simp only [Option.isSome_none]
              go_wp2_with fail
              go_ret
              rw [unhide HRn]
              exact ⟨rfl, fun l e => (by cases e), HFF⟩
            | some l =>
              have HQ3 : Hid (smL (deep + 1) L3 is = smL (deep + 1) l (is.drop (q + 1))) := by show _ = _; rw [unhide HQ2]
              obtain ⟨k1, k2⟩ := unhide HGD l rfl
              have HR7 := hide (unhide h7 l rfl)
              simp only [Option.isSome_some]
              go_wp2_with fail
              go_roundw
              case rel => exact ⟨q + 1, l, by omega, by go_num, by omega, by omega, HQ3, HR7, HM7⟩
              case measure => simp [intOf]; omega
          · have hlt3 : ¬ (q : Int) < (m : Int) := by omega
            have z0 := cell_of_row _ _ 0 _ _ _ (unhide HRq)
            simp only [List.getElem?_toArray, List.getElem?_cons_zero] at z0
            have HQe : Hid (R = if 0 ≤ lq then some lq else none) := by show _ = _; rw [unhide HR4, unhide HQ, List.drop_eq_nil_of_le (by rw [← unhide HM]; omega)]; rfl
            have HFF := hide (unhide HF wr (unhide HMq))
            clear hlt2
            by_cases hpos : 0 ≤ lq
            · have HRs : Hid (R = some lq) := by show _ = _; rw [unhide HQe, if_pos hpos]
              go_wp2_with fail
              go_ret
              rw [unhide HRs]
              exact ⟨rfl, fun l e => by cases e; exact unhide HRq, HFF⟩
            · have HRs : Hid (R = none) := by show _ = _; rw [unhide HQe, if_neg hpos]
              go_wp2_with fail
              go_ret
              rw [unhide HRs]
              exact ⟨rfl, fun l e => (by cases e), HFF⟩
#print axioms small_core
theorem small_any : ∀ (N : Nat) (j : Js), SizeOf.sizeOf j < N → SmP j
  | 0, j, h => by omega
  | N + 1, .mk k n t ns is, h => small_core k n t ns is (fun x hx => small_any N x (by
      have h1 := List.sizeOf_lt_of_mem hx
      simp only [Js.mk.sizeOf_spec] at h
      omega))
/-- May a value be gone through? -/
def canM (j : Js) : Bool := (smJ 0 5000 j).isSome
theorem canM_sz (j : Js) (hi : Ib j) (h : canM j = true) : Sz j := by
  unfold canM at h
  cases e : smJ 0 5000 j with
  | none => rw [e] at h; cases h
  | some l => exact (smJ_good _ j 0 5000 l (Nat.lt_succ_self _) hi (by omega) e).2.2
set_option maxHeartbeats 4000000 in
theorem can_any (j : Js) (S : Nat → Prop) (v : Value) (w : World) (hJ : JV w S v j) (hS : ∀ k, S k → k < w.heap.size) (hi : Ib j) :
    Calls Tryz.prog 10 #[v] w fun e w' => e = .returned (.bool (canM j)) ∧ Hid (Below w.heap.size w w') := by
  obtain ⟨k, n, t, a1, n1, c1, a2, n2, c2, rfl⟩ := hJ.form
  obtain ⟨V, hV⟩ : ∃ V, V = w.heap.size := ⟨_, rfl⟩
  obtain ⟨P, hP⟩ : ∃ P, P = w.heap.size + 1 := ⟨_, rfl⟩
  obtain ⟨W, hW⟩ : ∃ W, W = (w.alloc (.cells #[.int .i64 k, .int .i64 n, .string (str t), .slice a1 n1 c1, .slice a2 n2 c2] 25)).alloc (.cells #[.int .i64 5000] 3) := ⟨_, rfl⟩
  have bW : Below w.heap.size w W := by rw [hW]; exact below2 w _ _
  have rV : W.heap[V]? = some (.cells #[.int .i64 k, .int .i64 n, .string (str t), .slice a1 n1 c1, .slice a2 n2 c2] 25 (0, 0)) := by rw [hW, hV, heap_alloc_old _ _ (by simp)]; exact heap_alloc_new _ _
  have rP : W.heap[P]? = some (.cells #[.int .i64 5000] 3 (0, 0)) := by rw [hW, hP]; exact heap_alloc2_new _ _ _
  have HC := hide (small_any _ j (Nat.lt_succ_self _) S _ P 0 5000 W (JV.keep (fun q hq => ⟨hq, bW.block q (hS q hq)⟩) _ _ hJ) (fun q hq => ⟨Nat.lt_of_lt_of_le (hS q hq) bW.size, by have := hS q hq; omega⟩) rP (by omega) (by omega) (by omega) (by omega) hi)
  have HF : Hid (∀ u, Mv W u P → Below w.heap.size w u) := fun u hu => ⟨hu.os.trans bW.os, hu.tape.trans bW.tape, hu.output.trans bW.output, Nat.le_trans bW.size hu.size, fun q hq => (hu.block q (Nat.lt_of_lt_of_le hq bW.size) (fun e => by have := Option.some.inj e; omega)).trans (bW.block q hq)⟩
  have hR : canM j = (smJ 0 5000 j).isSome := rfl
  rw [hR]
  generalize smJ 0 5000 j = E at HC ⊢
  obtain ⟨p0, p1, p2, p3, p4⟩ := cells5 rV
  clear hJ hS hi bW rV rP hR
  go_enter Tryz.func10, Tryz.ntmps10
  go_upto_region 2 with fail
  rw [← hW, ← hP, ← hV]
  clear hW hP hV
  go_wp2_with fail
  refine (unhide HC).mono ?_
  rintro e w1 ⟨rfl, _, h1⟩
  have HF1 := hide (unhide HF w1 (unhide h1))
  clear HC h1 p0 p1 p2 p3 p4
  go_wp2_with fail
  go_ret
  exact ⟨rfl, HF1⟩
#print axioms can_any
end Go.Proofs.YtbnbngmnoffmkaaGreatDoor
end
section
set_option linter.unusedVariables false
set_option maxRecDepth 1000000
namespace Go.Proofs.YtbnbngmnoffmkaaGreatDoor
open Go.RowKit

theorem owns_low {w : World} {base base' : Nat} {ty : TypeId} {z : Nat} {a : Option Addr} {cap n : Nat} {xs : List Value} (h : w.ownsRow base ty z (.slice a n cap) n xs) (hb : base' ≤ base) : w.ownsRow base' ty z (.slice a n cap) n xs := by
  refine ⟨h.1, ?_⟩
  rcases h.2 with hn | ⟨g, cap, cur, hv, hbb, rest⟩
  · exact .inl hn
  · exact .inr ⟨g, cap, cur, hv, Nat.le_trans hb hbb, rest⟩
theorem OwnT.nsf {w : World} {base : Nat} {a : Option Addr} {cap : Nat} {l : List (List UInt8)} (h : OwnT w base a cap l) {S : Nat → Prop} (hS : ∀ k, blk a = some k → S k) : NsF w S a l := by
  intro hne
  rcases owns_cases h with ⟨_, _, h3, _⟩ | ⟨g, cur, rfl, hb, hg, hle, hm, hs, ht, hl⟩
  · exact absurd (List.eq_nil_of_length_eq_zero h3) hne
  · refine ⟨g, 0, rfl, hS g rfl, fun i s hs => ?_⟩
    rw [Nat.zero_add]
    exact (owns_cell h i _ (nsv_get l i s hs)).1
/-- slices.Clone of names. -/
theorem nclone_any (a : Option Addr) (cp : Nat) (l : List (List UInt8)) (S : Nat → Prop) (w : World) (hr : NsF w S a l) (ha : a = none → cp = 0) (hlc : l.length ≤ cp) (hl : l.length ≤ 1000000) :
    Calls Tryz.prog 24 #[.slice a l.length cp] w fun e w' => ∃ a' c', e = .returned (.slice a' l.length c') ∧ Hid (OwnT w' w.heap.size a' c' l) ∧ Hid (Below w.heap.size w w') := by
  have hq := fun (wx : World) (a : Option Addr) (n c : Nat) => Lib.run_eql_slice_nil (P := Tryz.prog) wx 22 9 a n c 0 0 Tryz.underlying22
  cases a with
  | none =>
    have hc0 := ha rfl
    have hl0 : l = [] := List.eq_nil_of_length_eq_zero (by omega)
    subst hl0
    subst hc0
    have HO : Hid (OwnT w w.heap.size none 0 []) := ⟨rfl, .inl ⟨rfl, rfl⟩⟩
    go_enter Tryz.func24, Tryz.ntmps24
    go_wp2
    go_ret
    exact ⟨none, 0, rfl, HO, Below.refl _ _⟩
  | some ad =>
    have HSR : Hid (∀ o j u, (nsv l)[j]? = some u → (w.alloc o).cell? (ad.add j) = some u) := fun o j u hu => by
      obtain ⟨b, off, hh, _, hc⟩ := hr (by intro e; subst e; simp [nsv] at hu)
      obtain rfl : ad = ⟨b, off, none⟩ := by simpa using hh
      rw [addr_add]
      obtain ⟨s, hs, rfl⟩ : ∃ s, l[j]? = some s ∧ u = .string (str s) := by
        simp only [nsv, List.getElem?_map] at hu
        cases hx : l[j]? with
        | none => rw [hx] at hu; cases hu
        | some s => rw [hx] at hu; simp at hu; exact ⟨s, rfl, hu.symm⟩
      exact Lib.cell?_alloc_some o (hc j s hs)
    obtain ⟨i, hi, hz0, hz1, hz2⟩ := info_parts Tryz.infoT4
    have hnl : (nsv l).length = l.length := by simp [nsv]
    have HEM : Hid ((w.alloc (.cells #[] 9)).ownsRow w.heap.size 9 1 (.slice (some ⟨w.heap.size, 0, none⟩) 0 0) 0 []) := World.ownsRow_made w #[] 0 (Nat.le_refl _) (by unfold maxLen; omega) rfl
    clear hr ha
    go_enter Tryz.func24, Tryz.ntmps24
    go_wp2_with (at_builtin; refine wpList_append_own _ rfl _ _ 22 rfl w.heap.size 9 i (.string ByteArray.empty) 1 16 Tryz.underlying22 hi hz0 hz1 hz2 rfl (by decide) _ _ _ rfl (unhide HEM) ad l.length cp (nsv l) rfl (by rw [hnl]; omega) (unhide HSR _) (nsv_one l) ?k1 ?k2 ?k3 ?_)
    case k1 => unfold maxLen; omega
    case k2 => omega
    case k3 => simp
    intro v2 w2 ho2 hg2 _
    have HB : Hid (Below w.heap.size w w2) := below_grown (a := some ⟨w.heap.size, 0, none⟩) ((Below.refl _ _).alloc (Nat.le_refl _) _) hg2 (Nat.le_refl _) (fun k hk => by simp [blk] at hk; omega)
    obtain ⟨a', c', rfl⟩ : ∃ a' c', v2 = .slice a' l.length c' := by
      rcases ho2.2 with ⟨hv, hn⟩ | ⟨g, cap, cur, hv, _⟩
      · have : l.length = 0 := by omega
        exact ⟨none, 0, by rw [hv, this]⟩
      · exact ⟨some ⟨g, 0, none⟩, cap, by rw [hv]⟩
    have HO : Hid (OwnT w2 w.heap.size a' c' l) := by show OwnT _ _ _ _ _; simpa [OwnT] using ho2
    clear ho2 hg2
    go_wp2
    go_ret
    exact ⟨a', c', rfl, HO, HB⟩
#print axioms nclone_any
/-! ### A value in the midst of being copied -/
structure Bw (w : World) (V lo : Nat) (k n : Int) (t : List UInt8) (ns : List (List UInt8)) (is : List Js) (a1 : Option Addr) (c1 : Nat) (a2 : Option Addr) (c2 : Nat) (xs : List Value) : Prop where
  row : w.heap[V]? = some (.cells #[.int .i64 k, .int .i64 n, .string (str t), .slice a1 ns.length c1, .slice a2 is.length c2] 25 (0, 0))
  nm : OwnT w lo a1 c1 ns
  it : OwnJ w lo a2 c2 is.length xs
  el : ∀ m j, is[m]? = some j → ∃ v, At5 xs m v ∧ JV w (Fp lo w.heap.size V a1 a2) v j
  v1 : blk a1 ≠ some V
  v2 : blk a2 ≠ some V
  v3 : ∀ k, blk a1 = some k → blk a2 ≠ some k
theorem Bw.lt {w : World} {V lo : Nat} {k n : Int} {t : List UInt8} {ns : List (List UInt8)} {is : List Js} {a1 : Option Addr} {c1 : Nat} {a2 : Option Addr} {c2 : Nat} {xs : List Value} (h : Bw w V lo k n t ns is a1 c1 a2 c2 xs) : V < w.heap.size := (Array.getElem?_eq_some_iff.1 h.row).1
theorem Bw.cells {w : World} {V lo : Nat} {k n : Int} {t : List UInt8} {ns : List (List UInt8)} {is : List Js} {a1 : Option Addr} {c1 : Nat} {a2 : Option Addr} {c2 : Nat} {xs : List Value} (h : Bw w V lo k n t ns is a1 c1 a2 c2 xs) : w.cell? ⟨V, 3, none⟩ = some (.slice a1 ns.length c1) ∧ w.cell? ⟨V, 4, none⟩ = some (.slice a2 is.length c2) ∧ (∀ j, w.frozen? ⟨V, j, none⟩ = false) :=
  ⟨cell_of_row _ _ _ _ _ _ h.row, cell_of_row _ _ _ _ _ _ h.row, fun j => frozen_of_row _ _ _ _ _ h.row⟩
/-- All from lo on stays. -/
theorem Bw.keep {w w' : World} {V lo : Nat} {k n : Int} {t : List UInt8} {ns : List (List UInt8)} {is : List Js} {a1 : Option Addr} {c1 : Nat} {a2 : Option Addr} {c2 : Nat} {xs : List Value} (h : Bw w V lo k n t ns is a1 c1 a2 c2 xs) (e : ∀ k, lo ≤ k ∨ k = V → k < w.heap.size → w'.heap[k]? = w.heap[k]?) (hs : w.heap.size ≤ w'.heap.size) : Bw w' V lo k n t ns is a1 c1 a2 c2 xs :=
  { h with
    row := (e V (.inr rfl) h.lt).trans h.row
    nm := owns_same h.nm (fun k hk => e k (.inl (owns_lt h.nm k hk).1) (owns_lt h.nm k hk).2)
    it := owns_same h.it (fun k hk => e k (.inl (owns_lt h.it k hk).1) (owns_lt h.it k hk).2)
    el := fun m j hj => by
      obtain ⟨v, h1, h2⟩ := h.el m j hj
      exact ⟨v, h1, JV.keep (fun k hk => ⟨⟨hk.1, by have := hk.2.1; omega, hk.2.2⟩, e k (.inl hk.1) hk.2.1⟩) j v h2⟩ }
theorem Bw.below {w w' : World} {V lo : Nat} {k n : Int} {t : List UInt8} {ns : List (List UInt8)} {is : List Js} {a1 : Option Addr} {c1 : Nat} {a2 : Option Addr} {c2 : Nat} {xs : List Value} (h : Bw w V lo k n t ns is a1 c1 a2 c2 xs) (m : Below w.heap.size w w') : Bw w' V lo k n t ns is a1 c1 a2 c2 xs :=
  h.keep (fun k hk hl => m.block k hl) m.size
/-- One item more. -/
theorem Bw.push {u w2 w4 : World} {V lo old : Nat} {k n : Int} {t : List UInt8} {ns : List (List UInt8)} {is : List Js} {a1 : Option Addr} {c1 : Nat} {a2 : Option Addr} {c2 : Nat} {xs : List Value} (h : Bw u V lo k n t ns is a1 c1 a2 c2 xs) {v0 v1 v2 v3 v4 : Value} {j : Js} (hj : JV u (fun k => old ≤ k ∧ k < u.heap.size) (.agg #[v0, v1, v2, v3, v4]) j) (hold : lo ≤ old) (hV : V < old) (h1 : ∀ k, blk a1 = some k → k < old) (h2 : ∀ k, blk a2 = some k → k < old)
    {g cap : Nat} (hg : u.grownBy w2 (blk a2)) (hat : blk a2 = some g ∨ g = u.heap.size) (hgl : g < w2.heap.size)
    (hr : w4.heap[V]? = some (.cells #[.int .i64 k, .int .i64 n, .string (str t), .slice a1 ns.length c1, .slice (some ⟨g, 0, none⟩) (is.length + 1) cap] 25 (0, 0)))
    (ho : OwnJ w4 lo (some ⟨g, 0, none⟩) cap (is.length + 1) (xs ++ [v0, v1, v2, v3, v4])) (hk : ∀ k, k ≠ V → k ≠ g → w4.heap[k]? = w2.heap[k]?) (hs : w4.heap.size = w2.heap.size) :
    Bw w4 V lo k n t ns (is ++ [j]) a1 c1 (some ⟨g, 0, none⟩) cap (xs ++ [v0, v1, v2, v3, v4]) := by
  have hxl : xs.length = is.length * 5 := h.it.1
  have hbg : blk (some (⟨g, 0, none⟩ : Addr)) = some g := rfl
  have hgV : g ≠ V := by
    rintro rfl
    rcases hat with e | e
    · exact h.v2 e
    · have := h.lt; omega
  have hg1 : ∀ m, blk a1 = some m → m ≠ g := by
    rintro m hm rfl
    rcases hat with e | e
    · exact h.v3 m hm e
    · have := (owns_lt h.nm m hm).2; omega
  have blkU : ∀ m, m < u.heap.size → m ≠ V → m ≠ g → blk a2 ≠ some m → w4.heap[m]? = u.heap[m]? := fun m hm n1 n2 n3 => (hk m n1 n2).trans (hg.block m hm (fun e => n3 e.symm))
  refine ⟨by rw [List.length_append]; exact hr, owns_same h.nm (fun m hm => blkU m (owns_lt h.nm m hm).2 (fun e => h.v1 (by rw [hm, e])) (hg1 m hm) (h.v3 m hm)), ?_, ?_, h.v1, by rw [hbg]; exact fun e => hgV (Option.some.inj e), fun m hm e => hg1 m hm (Option.some.inj (hbg.symm.trans e)).symm⟩
  · rw [List.length_append]; exact ho
  · intro m x hx
    have sz : u.heap.size ≤ w4.heap.size := by rw [hs]; exact hg.size
    by_cases hm : m < is.length
    · rw [List.getElem?_append_left hm] at hx
      obtain ⟨v, ⟨z0, z1, z2, z3, z4, e0, q0, q1, q2, q3, q4⟩, hv⟩ := h.el m x hx
      refine ⟨v, ⟨z0, z1, z2, z3, z4, e0, ?_, ?_, ?_, ?_, ?_⟩, JV.keep (fun b hb => ?_) x v hv⟩
      · rw [List.getElem?_append_left (by omega)]; exact q0
      · rw [List.getElem?_append_left (by omega)]; exact q1
      · rw [List.getElem?_append_left (by omega)]; exact q2
      · rw [List.getElem?_append_left (by omega)]; exact q3
      · rw [List.getElem?_append_left (by omega)]; exact q4
      · have hbn : b ≠ g := by
          rintro rfl
          rcases hat with e | e
          · exact hb.2.2.2.2 e
          · have := hb.2.1; omega
        exact ⟨⟨hb.1, by have := hb.2.1; omega, hb.2.2.1, hb.2.2.2.1, by rw [hbg]; exact fun e => hbn (Option.some.inj e).symm⟩, blkU b hb.2.1 hb.2.2.1 hbn hb.2.2.2.2⟩
    · have hlt := (List.getElem?_eq_some_iff.1 hx).1
      simp at hlt
      obtain rfl : m = is.length := by omega
      simp at hx
      subst hx
      refine ⟨_, ⟨v0, v1, v2, v3, v4, rfl, ?_, ?_, ?_, ?_, ?_⟩, JV.keep (fun b hb => ?_) j _ hj⟩
      · rw [List.getElem?_append_right (by omega), show is.length * 5 - xs.length = 0 by omega]; rfl
      · rw [List.getElem?_append_right (by omega), show is.length * 5 + 1 - xs.length = 1 by omega]; rfl
      · rw [List.getElem?_append_right (by omega), show is.length * 5 + 2 - xs.length = 2 by omega]; rfl
      · rw [List.getElem?_append_right (by omega), show is.length * 5 + 3 - xs.length = 3 by omega]; rfl
      · rw [List.getElem?_append_right (by omega), show is.length * 5 + 4 - xs.length = 4 by omega]; rfl
      · have n2 : blk a2 ≠ some b := fun e => by have := h2 b e; omega
        have n1 : blk a1 ≠ some b := fun e => by have := h1 b e; omega
        have hbn : b ≠ g := by
          rintro rfl
          rcases hat with e | e
          · exact n2 e
          · omega
        exact ⟨⟨by omega, by omega, by omega, n1, by rw [hbg]; exact fun e => hbn (Option.some.inj e).symm⟩, blkU b hb.2 (by omega) hbn n2⟩
/-- append(items, one item), as a step of a region that draws its order. -/
theorem stp_app5 (w : World) {ops : Array Oper} {o : Oper} {a : Act} {K : Act → World → Prop} {Q : Exit → Act → World → Prop} {E : Prop} (hgd : o.guard = none) (s x : Operand)
    (ho : o.op = .call { callee := .builtin .append, args := #[s, x], argTypes := #[23, 23] })
    (base : Nat) (a1 : Option Addr) (cap1 n1 : Nat) (xs : List Value) (hs : a.eval s = .slice a1 n1 cap1) (hown : OwnJ w base a1 cap1 n1 xs)
    (B c2 : Nat) (hx : a.eval x = .slice (some ⟨B, 0, none⟩) 1 c2) (zs : List Value) (hz5 : zs.length = 5) (hz1 : ∀ u ∈ zs, u.oneCell' = true) (hsrc : w.heap[B]? = some (.cells zs.toArray 25 (0, 0))) (hlen : n1 ≤ 1000000) (hb : base ≤ w.heap.size)
    (h : ∀ g cap w', Hid (OwnJ w' base (some ⟨g, 0, none⟩) cap (n1 + 1) (xs ++ zs)) → Hid (w.grownBy w' (blk a1)) → Hid (blk a1 = some g ∨ g = w.heap.size) → Hid (g < w'.heap.size) → K (a.put o.dst (.slice (some ⟨g, 0, none⟩) (n1 + 1) cap)) w') :
    if Region.wanted o (yielded ops a.tmps) = true then Oper.wp Tryz.prog o a w K Q else E := by
  obtain ⟨i, hi, hz0, hz1', hz2⟩ := info_parts Tryz.infoJ
  refine step_append_lies w hgd s x 23 ho base 25 i _ 5 80 Tryz.underlying23 hi hz0 hz1' hz2 rfl (by decide) _ _ _ hs hown ⟨B, 0, none⟩ 1 c2 zs hx (by rw [hz5]) ?_ hz1 (by decide) (by unfold maxLen; omega) (by omega) hb _ rfl ?_
  · intro j u hu
    rw [addr_add, Nat.zero_add, cell_of_row w B j _ _ _ hsrc]
    simpa using hu
  · intro g cap w' h1 h2 h3 h4
    have hblk : (Value.slice a1 n1 cap1).ownBlock = blk a1 := by cases a1 <;> rfl
    rw [hblk] at h2 h3
    exact h g cap w' h1 h2 h3 h4
/-- Blocks of what lies in a value, none of them its own two rows. -/
def Fq (lo hi : Nat) (a1 a2 : Option Addr) (k : Nat) : Prop := lo ≤ k ∧ k < hi ∧ blk a1 ≠ some k ∧ blk a2 ≠ some k
/-- A copy: its rows its own. -/
def CpJ (lo : Nat) (w : World) (v : Value) : Js → Prop
  | .mk k n t ns is => ∃ a1 c1 a2 c2 xs, v = .agg #[.int .i64 k, .int .i64 n, .string (str t), .slice a1 ns.length c1, .slice a2 is.length c2] ∧ OwnT w lo a1 c1 ns ∧ OwnJ w lo a2 c2 is.length xs ∧ (∀ m j, is[m]? = some j → ∃ v, At5 xs m v ∧ JV w (Fq lo w.heap.size a1 a2) v j) ∧ (∀ k, blk a1 = some k → blk a2 ≠ some k)
theorem owns_cap {w : World} {base : Nat} {ty : TypeId} {z : Nat} {a : Option Addr} {cap n : Nat} {xs : List Value} (h : w.ownsRow base ty z (.slice a n cap) n xs) : n ≤ cap ∧ cap ≤ maxLen ∧ (a = none → cap = 0) := by
  rcases owns_cases h with ⟨h1, h2, h3, _⟩ | ⟨g, cur, h1, _, _, h4, h5, _⟩
  · exact ⟨by omega, by unfold maxLen; omega, fun _ => h2⟩
  · exact ⟨h4, h5, fun e => by rw [h1] at e; cases e⟩
theorem CpJ.jv {lo : Nat} {w : World} {v : Value} {j : Js} (h : CpJ lo w v j) {S : Nat → Prop} (hS : ∀ k, lo ≤ k → k < w.heap.size → S k) : JV w S v j := by
  cases j with
  | mk k n t ns is =>
  obtain ⟨a1, c1, a2, c2, xs, rfl, hT, hJ, hel, _⟩ := h
  simp only [JV]
  obtain ⟨t1, t2, t3⟩ := owns_cap hT
  obtain ⟨j1, j2, j3⟩ := owns_cap hJ
  refine ⟨a1, c1, a2, c2, rfl, hT.nsf (fun k hk => hS k (owns_lt hT k hk).1 (owns_lt hT k hk).2), t1, t2, t3, j1, j2, j3, (jvs_iff _ _ _ _ _).2 (fun m j hj => ?_)⟩
  obtain ⟨v, ⟨v0, v1, v2, v3, v4, rfl, q0, q1, q2, q3, q4⟩, hv⟩ := hel m j hj
  have hm := (List.getElem?_eq_some_iff.1 hj).1
  rcases owns_cases hJ with ⟨_, _, h3, _⟩ | ⟨g, cur, rfl, hb, hg, _⟩
  · omega
  · refine ⟨g, 0, v0, v1, v2, v3, v4, rfl, hS g hb (Array.getElem?_eq_some_iff.1 hg).1, ?_, ?_, ?_, ?_, ?_, JV.keep (fun k hk => ⟨hS k hk.1 hk.2.1, rfl⟩) _ _ hv⟩
    · rw [Nat.zero_add, Nat.zero_add]; exact (owns_cell hJ _ _ q0).1
    · rw [Nat.zero_add, Nat.zero_add]; exact (owns_cell hJ _ _ q1).1
    · rw [Nat.zero_add, Nat.zero_add]; exact (owns_cell hJ _ _ q2).1
    · rw [Nat.zero_add, Nat.zero_add]; exact (owns_cell hJ _ _ q3).1
    · rw [Nat.zero_add, Nat.zero_add]; exact (owns_cell hJ _ _ q4).1
theorem Bw.cp {w : World} {V lo : Nat} {k n : Int} {t : List UInt8} {ns : List (List UInt8)} {is : List Js} {a1 : Option Addr} {c1 : Nat} {a2 : Option Addr} {c2 : Nat} {xs : List Value} (h : Bw w V lo k n t ns is a1 c1 a2 c2 xs) : CpJ lo w (.agg #[.int .i64 k, .int .i64 n, .string (str t), .slice a1 ns.length c1, .slice a2 is.length c2]) (.mk k n t ns is) :=
  ⟨a1, c1, a2, c2, xs, rfl, h.nm, h.it, fun m j hj => by
    obtain ⟨v, h1, h2⟩ := h.el m j hj
    exact ⟨v, h1, JV.keep (fun k hk => ⟨⟨hk.1, hk.2.1, hk.2.2.2.1, hk.2.2.2.2⟩, rfl⟩) _ _ h2⟩, h.v3⟩
#print axioms Bw.cp
end Go.Proofs.YtbnbngmnoffmkaaGreatDoor
end
