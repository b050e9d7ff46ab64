/-
  link, the program's net: Drop by the model.
-/
import Derived.Test.YtohlmfiicfoimaaLpE
set_option linter.unusedVariables false
namespace Go.Proofs.Ytohlmfiicfoimaa
open Go.RowKit Go.Maps Go.Sort Go.Shelf Go.WideElems

/-- How an element of link's map reads, if it points to one of these blocks. -/
def selElem (Cs : List Nat) : Value → Option (DataW Unit × List MemPlace)
  | .pointer (some ⟨b, 0, none⟩) => if b ∈ Cs then some (.lit (.int .i64 (b : Int)), []) else none
  | _ => none
theorem sel_inv {Cs : List Nat} {v : Value} {d : DataW Unit} {ps : List MemPlace} (h : selElem Cs v = some (d, ps)) : ∃ b, b ∈ Cs ∧ v = .pointer (some ⟨b, 0, none⟩) ∧ d = .lit (.int .i64 (b : Int)) ∧ ps = [] := by
  unfold selElem at h
  split at h
  · rename_i b
    split at h
    · rename_i hb
      simp at h
      exact ⟨b, hb, rfl, h.1.symm, h.2⟩
    · cases h
  · cases h
theorem own_unsel {w : World} {Cs : List Nat} {bm n : Nat} {D : DataW Unit} (h : w.ownsMap Try.prog 3 (selElem Cs) bm n D) : w.ownsMap Try.prog 3 ptrElem bm n D := by
  obtain ⟨es, clock, h1, F, h3, rfl⟩ := h
  obtain ⟨F', e, _⟩ := F.stay (R' := ptrElem) (fun x _ z hz => by
    obtain ⟨d, ps⟩ := z
    obtain ⟨b, hb, hv, rfl, rfl⟩ := sel_inv hz
    rw [hv]; rfl)
  exact ⟨es, clock, h1, F', h3, by rw [e]⟩
theorem own_sel {w : World} {Cs : List Nat} {bm n : Nat} {D : DataW Unit} (h : w.ownsMap Try.prog 3 ptrElem bm n D) (hall : ∀ id : Int, Maps.has D (.int .i64 id) = true → ∃ b, b ∈ Cs ∧ D.atKey (.int .i64 id) .nil = .lit (.int .i64 (b : Int))) : w.ownsMap Try.prog 3 (selElem Cs) bm n D := by
  obtain ⟨es0, hD0, hpw, hkl⟩ := h.entries law
  obtain ⟨es1, hD1, hko⟩ := h.keysOf
  obtain ⟨es, clock, h1, F, h3, hD⟩ := h
  obtain ⟨F', e, _⟩ := F.stay (R' := selElem Cs) (fun x hx z hz => by
    obtain ⟨y, hy⟩ := F.reads x hx
    obtain ⟨z', hz', hy2⟩ := rd_val hy
    have hmem : y ∈ es0 := by
      have h4 : DataW.map es0 = .map ((es.toList.map (rg Try.prog 3 ptrElem)).foldr DataW.insert []) := hD0.symm.trans hD
      have h5 : es0 = (es.toList.map (rg Try.prog 3 ptrElem)).foldr DataW.insert [] := by simpa using h4
      rw [h5, mem_sorted]
      exact List.mem_map.2 ⟨x, hx, rg_of hy⟩
    obtain rfl : es0 = es1 := by have := hD0.symm.trans hD1; simpa using this
    obtain ⟨v, hv⟩ := hko y hmem
    obtain ⟨a, _, ha, _⟩ := Maps.keyOf_i64 Try.underlying3 hv
    have hhas : Maps.has D (.int .i64 a) = true := by
      rw [hD0, has_eq, List.any_eq_true]
      exact ⟨y, hmem, by rw [ha]; simp [Lit.sameKey]⟩
    obtain ⟨b, hb, hat⟩ := hall a hhas
    have hat2 : D.atKey (.int .i64 a) .nil = y.2 := by
      rw [hD0]
      exact WideAt.atKey_mem .nil (by trivial) hpw (by rw [← ha]; exact hmem)
    rw [hz'] at hz
    obtain rfl := Option.some.inj hz
    obtain ⟨d, ps⟩ := z'
    have hd : d = .lit (.int .i64 (b : Int)) := by
      have : y.2 = d := hy2
      rw [← this, ← hat2, hat]
    subst hd
    have hv2 := ptrElem_inv hz'
    rw [hv2] at hz' ⊢
    have hps : ps = [] := by
      unfold ptrElem at hz'
      simp at hz'
      exact hz'
    rw [hps]
    unfold selElem
    simp [hb])
  exact ⟨es, clock, h1, F', h3, by rw [e]; exact hD⟩

set_option maxHeartbeats 1000000 in
theorem clos_side (C : Nat) (p q : Int) (c : Nat → Bool) (A : Nat → Option Addr) (K : Nat → Nat) (L : Nat → List UInt8) (node r : Int) (bx : Nat) (key : Value) (w : World) (hx : w.cell? ⟨bx, 0, none⟩ = some (.int .i64 node)) (hc : Con w C p q c A K L) (Hr : Hid (r = if p = node then 0 else if q = node then 1 else -1)) :
    Calls Try.prog 41 (#[key, .pointer (some ⟨C, 0, none⟩)] ++ #[.pointer (some ⟨bx, 0, none⟩)]) w fun e w' => e = .returned (.bool (decide (0 ≤ r))) ∧ Below w.heap.size w w' := by
  show Calls Try.prog 41 #[key, .pointer (some ⟨C, 0, none⟩), .pointer (some ⟨bx, 0, none⟩)] w _
  go_enter Try.func41, Try.ntmps41
  go_wp2_with fail
  refine (side_any C p q (c 0) (c 1) (A 0) (L 0).length (K 0) (A 1) (L 1).length (K 1) node r w hc Hr).mono ?_
  rintro e w2 ⟨rfl, hb⟩
  go_wp2
  go_ret
  exact ⟨rfl, hb⟩

/-- Which entries go. -/
def dropD (M : Nm) (P : Nat → Pg) (node : Int) (_ : Lit) : DataW Unit → Bool
  | .lit (.int _ b) => M.cs.any fun c => decide (((P c.id).C : Int) = b) && decide (0 ≤ c.side node)
  | _ => false
theorem dropD_at {w : World} {g : Nat → Tag} {N bm base : Nat} {M : Nm} {P : Nat → Pg} {n : Nat} {D : DataW Unit} (h : PNL w g N bm base M P n D) (hM : Mok M) (node : Int) (kl : Lit) {c : Cn} (hc : c ∈ M.cs) : dropD M P node kl (.lit (.int .i64 ((P c.id).C : Int))) = decide (0 ≤ c.side node) := by
  unfold dropD
  simp only
  cases hs : decide (0 ≤ c.side node) with
  | true => exact List.any_eq_true.2 ⟨c, hc, by rw [hs]; simp⟩
  | false =>
    rw [List.any_eq_false]
    intro d hd
    by_cases e : ((P d.id).C : Int) = ((P c.id).C : Int)
    · have e2 : (P d.id).C = (P c.id).C := by omega
      have h1 := (h.con d hd).tC
      rw [e2, (h.con c hc).tC] at h1
      have h2 : c.id = d.id := by simpa using h1
      obtain rfl := hM.inj hc hd h2
      rw [hs]; simp
    · simp [e]
theorem PNL.dropped {w w' : World} {g : Nat → Tag} {N bm base : Nat} {M : Nm} {P : Nat → Pg} {n : Nat} {D : DataW Unit} (h : PNL w g N bm base M P n D) (hM : Mok M) (node : Int) (hown : w'.ownsMap Try.prog 3 ptrElem bm n (Lib.deleteFuncD (dropD M P node) D)) (hk : Kp w w' (fun k => k = bm)) : PNL w' g N bm base (drM M node) P n (Lib.deleteFuncD (dropD M P node) D) := by
  obtain ⟨es, hD, hpw, hkl⟩ := h.nt.own.entries law
  have hy3 : Ty w w' g g (fun t => t = (3, 0)) := Ty.ofKp hk (fun k e => by rw [e]; exact h.tM)
  have hmem : ∀ c ∈ M.cs, ((Lit.int .i64 (c.id : Int)), DataW.lit (.int .i64 ((P c.id).C : Int))) ∈ es := fun c hc => by
    obtain ⟨h1, h2⟩ := h.at_ c hc
    rw [hD] at h1 h2
    rw [has_eq, List.any_eq_true] at h2
    obtain ⟨p, hp, hs⟩ := h2
    have e1 := WideAt.sameKey_eq hs
    have e2 := WideAt.atKey_mem .nil (k := .int .i64 (c.id : Int)) (d := p.2) (by trivial) hpw (by rw [← e1]; exact hp)
    rw [h1] at e2
    rw [e2, ← e1]
    exact hp
  have hD' : Lib.deleteFuncD (dropD M P node) D = .map (es.filter fun p => !dropD M P node p.1 p.2) := by rw [hD]; rfl
  refine ⟨⟨(hk.block N h.nt.ltN (fun e => h.nt.neNM e)).trans h.nt.net, hown⟩, h.hn, fun c hc => ?_, fun id hid => ?_, h.tN, h.tM, fun c hc => (h.con c (List.mem_filter.1 hc).1).ty hy3 (by simp)⟩
  · obtain ⟨hc1, hc2⟩ := List.mem_filter.1 hc
    have hm : ((Lit.int .i64 (c.id : Int)), DataW.lit (.int .i64 ((P c.id).C : Int))) ∈ es.filter fun p => !dropD M P node p.1 p.2 := List.mem_filter.2 ⟨hmem c hc1, by rw [dropD_at h hM node _ hc1]; simp at hc2 ⊢; omega⟩
    rw [hD']
    refine ⟨WideAt.atKey_mem .nil (by trivial) (hpw.filter _) hm, ?_⟩
    rw [has_eq, List.any_eq_true]
    exact ⟨_, hm, by simp [Lit.sameKey]⟩
  · unfold OffC
    rw [hD', has_eq, List.any_eq_false]
    intro p hp hs
    obtain ⟨hp1, hp2⟩ := List.mem_filter.1 hp
    have e1 := WideAt.sameKey_eq hs
    have hhas : Maps.has D (.int .i64 id) = true := by rw [hD, has_eq, List.any_eq_true]; exact ⟨p, hp1, hs⟩
    cases hg : M.get id with
    | none => have := h.off id hg; unfold OffC at this; rw [this] at hhas; cases hhas
    | some c =>
      obtain ⟨hc, hi⟩ := Nm.get_some hg
      subst hi
      have hf := get_filter hid hc rfl
      have hp3 : p.2 = DataW.lit (.int .i64 ((P c.id).C : Int)) := by
        have a1 := WideAt.atKey_mem .nil (k := .int .i64 (c.id : Int)) (d := p.2) (by trivial) hpw (by rw [← e1]; exact hp1)
        have a2 := WideAt.atKey_mem .nil (by trivial) hpw (hmem c hc)
        rw [← a1, a2]
      rw [hp3, dropD_at h hM node _ hc] at hp2
      simp at hf hp2
      omega

set_option maxRecDepth 100000 in
set_option maxHeartbeats 4000000 in
theorem pdrop_all {w : World} {g : Nat → Tag} {N bm base : Nat} {M : Nm} {P : Nat → Pg} (h : PN w g N bm base M P) (hM : Mok M) (node : Int) :
    Calls Try.prog 14 #[.pointer (some ⟨N, 0, none⟩), .int .i64 node] w fun e w' => e = .returned (.int .i64 (drN M node)) ∧ Hid (PEnd w w' g N bm base (drM M node)) := by
  obtain ⟨n, D, h⟩ := h
  obtain ⟨W, hW⟩ : ∃ W, W = w.alloc (.cells #[.int .i64 node] 3) := ⟨_, rfl⟩
  have hbW : Below w.heap.size w W := by rw [hW]; exact (Below.refl _ _).alloc (Nat.le_refl _) _
  have hx : W.cell? ⟨w.heap.size, 0, none⟩ = some (.int .i64 node) := by rw [hW]; simp
  have hxl : w.heap.size < W.heap.size := by rw [hW]; simp
  have h1 := h.below hbW
  have e0 := h1.nt.n0
  have hsz := h1.size hM
  have hown := h1.nt.own
  have hfew := hM.few
  have eg := enters_of Try.func41 (by kernel_rfl) rfl
  have hsel := own_sel (Cs := M.cs.map fun c : Cn => (P c.id).C) hown (fun id hid => by
    cases hg : M.get id with
    | none => have := h1.off id hg; unfold OffC at this; rw [this] at hid; cases hid
    | some c =>
      obtain ⟨hc, hi⟩ := Nm.get_some hg
      subst hi
      exact ⟨(P c.id).C, List.mem_map.2 ⟨c, hc, rfl⟩, (h1.at_ c hc).1⟩)
  have hcon : Calls Try.prog 40 #[.map (some bm), .func (.func 41) #[] #[.pointer (some ⟨w.heap.size, 0, none⟩)]] W (fun e w' => e = .returned (.tuple #[]) ∧ w'.ownsMap Try.prog 3 (selElem (M.cs.map fun c : Cn => (P c.id).C)) bm n (Lib.deleteFuncD (dropD M P node) D) ∧ W.grownBy w' (some bm)) :=
    AnyDf.maps_DeleteFunc Try.delF law (selElem (M.cs.map fun c : Cn => (P c.id).C)) (dropD M P node) 41 #[.pointer (some ⟨w.heap.size, 0, none⟩)] bm n D W eg hsel (fun V key val kl yd yp hg hkey hv => by
      obtain ⟨b, hb, rfl, rfl, rfl⟩ := sel_inv hv
      obtain ⟨c, hc, rfl⟩ := List.mem_map.1 hb
      have hpc := h1.con c hc
      have hcm : (P c.id).C ≠ bm := fun e => (h1.nt.neC hpc.con).2 e.symm
      have hcV : Con V (P c.id).C c.p c.q c.c (P c.id).A (P c.id).K c.L := hpc.con.move (hg.block _ hpc.con.lt (by simp; exact hcm))
      have hxV : V.cell? ⟨w.heap.size, 0, none⟩ = some (.int .i64 node) := hg.cell hx (by simp; have := h.nt.own.lt; omega)
      refine (clos_side (P c.id).C c.p c.q c.c _ _ _ node (c.side node) w.heap.size key V hxV hcV rfl).mono ?_
      rintro e w' ⟨rfl, hb⟩
      refine ⟨by rw [dropD_at h1 hM node kl hc], ⟨hb.os, hb.tape, hb.output, hb.size, fun k hk _ => hb.block k hk⟩⟩)
  have HC := hide hcon
  have HH := hide h1
  have HBW := hide hbW
  have hle : (M.cs.filter fun c => decide (c.side node < 0)).length ≤ M.cs.length := List.length_filter_le _ _
  clear hcon h1 hsel eg hbW hx
  go_enter Try.func14, Try.ntmps14
  go_wp2_with fail
  rw [← hW]
  clear hW
  refine (unmade_not N bm W e0).mono ?_
  rintro e w1 ⟨rfl, hw1⟩
  have hw1 := hw1.symm
  subst hw1
  go_wp2_with (at_len; refine wpList_len_own _ rfl _ 57 rfl 3 68 Try.underlying57 _ bm n D rfl hown ?_)
  refine (unhide HC).mono ?_
  rintro e w2 ⟨rfl, hown2, hg2⟩
  have hk2 : Kp W w2 (fun k => k = bm) := Kp.ofG hg2 (fun k hk => by simp at hk; exact hk.symm)
  have hdr := (unhide HH).dropped hM node (own_unsel hown2) hk2
  have e2 := hdr.nt.n0
  have hsz2 := hdr.size (drM_ok hM node)
  have hown3 := hdr.nt.own
  have HD := hide hdr
  have hy : Ty w w2 g g Sp := (Ty.of g (unhide HBW)).trans (Ty.ofKp hk2 (fun k e => by rw [e, (unhide HH).tM]; exact sp3))
  have HY := hide hy
  have hsz3 : Maps.size (Lib.deleteFuncD (dropD M P node) D) = (M.cs.filter fun c => decide (c.side node < 0)).length := hsz2
  clear hdr hy hk2 hg2 hown2 hsz2
  go_wp2_with (at_len; refine wpList_len_own _ rfl _ 57 rfl 3 68 Try.underlying57 _ bm n _ rfl hown3 ?_)
  go_ret
  exact ⟨rfl, g, P, ⟨n, _, unhide HD⟩, unhide HY⟩
#print axioms pdrop_all
end Go.Proofs.Ytohlmfiicfoimaa
