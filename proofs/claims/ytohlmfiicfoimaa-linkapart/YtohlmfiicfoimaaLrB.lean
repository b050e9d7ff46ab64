/-
  link, the document's own net whole: its connections, tags; Find, keep, Cut, Drop.
-/
import Derived.Test.YtohlmfiicfoimaaLtA
set_option linter.unusedVariables false
namespace Go.Proofs.Ytohlmfiicfoimaa
open Go.RowKit Go.Maps

/-- Where a connection of the document's net lies: its block, all that each end sent, how much of that was carried. -/
structure Rg where
  C : Nat
  x : Nat → Option Addr
  k : Nat → Nat
  S : Nat → List UInt8
  m : Nat → Nat
structure RCon (w : World) (g : Nat → Tag) (r : Rg) (c : Cn) (T : Nat) : Prop where
  cells : RC w r.C c.id c.p c.q (r.x 0) (r.S 0).length (r.k 0) (r.x 1) (r.S 1).length (r.k 1) (r.m 0) (r.m 1) (c.c 0) (c.c 1)
  b0 : Bs w (r.x 0) (r.k 0) (r.S 0)
  b1 : Bs w (r.x 1) (r.k 1) (r.S 1)
  m0 : r.m 0 ≤ (r.S 0).length
  m1 : r.m 1 ≤ (r.S 1).length
  d0 : c.L 1 = (r.S 0).drop (r.m 0)
  d1 : c.L 0 = (r.S 1).drop (r.m 1)
  t0 : (r.S 0).length ≤ T
  t1 : (r.S 1).length ≤ T
  tC : g r.C = (2, c.id)
  g0 : ∀ b, blk (r.x 0) = some b → r.S 0 ≠ [] → g b = (2, c.id)
  g1 : ∀ b, blk (r.x 1) = some b → r.S 1 ≠ [] → g b = (2, c.id)
theorem Bs.kpn {w w' : World} {S : Nat → Prop} {a : Option Addr} {cap : Nat} {l : List UInt8} (h : Bs w a cap l) (k : Kp w w' S) (hs : l ≠ [] → ∀ b, blk a = some b → ¬ S b) : Bs w' a cap l := by
  refine ⟨fun hne => ?_, h.le, h.most, h.nz⟩
  obtain ⟨b, off, rfl, hc⟩ := h.row hne
  exact ⟨b, off, rfl, fun i hi => k.cell (hc i hi) (hs hne b rfl)⟩
theorem RCon.ty {w w' : World} {g g' : Nat → Tag} {r : Rg} {c : Cn} {T : Nat} {S : Tag → Prop} (h : RCon w g r c T) (hy : Ty w w' g g' S) (hs : ¬ S (2, c.id)) : RCon w' g' r c T := by
  refine ⟨h.cells.move (hy.kp.block r.C h.cells.lt (by rw [h.tC]; exact hs)), h.b0.kpn hy.kp (fun hn b hb => by rw [h.g0 b hb hn]; exact hs), h.b1.kpn hy.kp (fun hn b hb => by rw [h.g1 b hb hn]; exact hs), h.m0, h.m1, h.d0, h.d1, h.t0, h.t1, ?_, fun b hb hn => ?_, fun b hb hn => ?_⟩
  · rw [hy.tag _ (.inl h.cells.lt)]; exact h.tC
  · rw [hy.tag _ (.inl (h.b0.row.lt hn b hb))]; exact h.g0 b hb hn
  · rw [hy.tag _ (.inl (h.b1.row.lt hn b hb))]; exact h.g1 b hb hn
theorem RCon.up {w : World} {g : Nat → Tag} {r : Rg} {c : Cn} {T T' : Nat} (h : RCon w g r c T) (ht : T ≤ T') : RCon w g r c T' := ⟨h.cells, h.b0, h.b1, h.m0, h.m1, h.d0, h.d1, Nat.le_trans h.t0 ht, Nat.le_trans h.t1 ht, h.tC, h.g0, h.g1⟩

/-- The document's net in block X. -/
structure RNL (w : World) (g : Nat → Tag) (X base : Nat) (M : Nm) (R : Nat → Rg) (T : Nat) (la : Option Addr) (lc : Nat) : Prop where
  net : w.heap[X]? = some (.cells #[.slice la M.cs.length lc, .int .i64 (M.last : Nat)] 30 (0, 0))
  own : OwnQ w base la lc (M.cs.map fun c => (R c.id).C)
  tX : g X = (4, 0)
  tL : ∀ b, blk la = some b → g b = (4, 0)
  con : ∀ c ∈ M.cs, RCon w g (R c.id) c T
def RN (w : World) (g : Nat → Tag) (X base : Nat) (M : Nm) (R : Nat → Rg) (T : Nat) : Prop := ∃ la lc, RNL w g X base M R T la lc
theorem RNL.lt {w : World} {g : Nat → Tag} {X base : Nat} {M : Nm} {R : Nat → Rg} {T : Nat} {la : Option Addr} {lc : Nat} (h : RNL w g X base M R T la lc) : X < w.heap.size := (Array.getElem?_eq_some_iff.1 h.net).1
theorem RNL.rt {w : World} {g : Nat → Tag} {X base : Nat} {M : Nm} {R : Nat → Rg} {T : Nat} {la : Option Addr} {lc : Nat} (h : RNL w g X base M R T la lc) : RT w X la lc (M.cs.map fun c => (R c.id).C) (M.last : Nat) :=
  ⟨by rw [List.length_map]; exact h.net, h.own.toRow, h.own.le.1⟩
theorem RNL.n0 {w : World} {g : Nat → Tag} {X base : Nat} {M : Nm} {R : Nat → Rg} {T : Nat} {la : Option Addr} {lc : Nat} (h : RNL w g X base M R T la lc) : w.cell? ⟨X, 0, none⟩ = some (.slice la M.cs.length lc) := by rw [cell_of_row w X 0 _ _ _ h.net]; rfl
theorem RNL.n1 {w : World} {g : Nat → Tag} {X base : Nat} {M : Nm} {R : Nat → Rg} {T : Nat} {la : Option Addr} {lc : Nat} (h : RNL w g X base M R T la lc) : w.cell? ⟨X, 1, none⟩ = some (.int .i64 (M.last : Nat)) := by rw [cell_of_row w X 1 _ _ _ h.net]; rfl
theorem RNL.ty {w w' : World} {g g' : Nat → Tag} {X base : Nat} {M : Nm} {R : Nat → Rg} {T : Nat} {la : Option Addr} {lc : Nat} {S : Tag → Prop} (h : RNL w g X base M R T la lc) (hy : Ty w w' g g' S) (h4 : ¬ S (4, 0)) (h2 : ∀ i, ¬ S (2, i)) : RNL w' g' X base M R T la lc := by
  refine ⟨(hy.kp.block X h.lt (by rw [h.tX]; exact h4)).trans h.net, h.own.kp hy.kp (fun b hb => by rw [h.tL b hb]; exact h4), ?_, fun b hb => ?_, fun c hc => (h.con c hc).ty hy (h2 _)⟩
  · rw [hy.tag _ (.inl h.lt)]; exact h.tX
  · rw [hy.tag _ (.inl (h.own.lt b hb).2)]; exact h.tL b hb
theorem RNL.below {w w' : World} {g : Nat → Tag} {X base : Nat} {M : Nm} {R : Nat → Rg} {T : Nat} {la : Option Addr} {lc : Nat} (h : RNL w g X base M R T la lc) (hb : Below w.heap.size w w') : RNL w' g X base M R T la lc := h.ty (Ty.of g (S := fun _ => False) hb) id (fun _ => id)
theorem RN.ty {w w' : World} {g g' : Nat → Tag} {X base : Nat} {M : Nm} {R : Nat → Rg} {T : Nat} {S : Tag → Prop} (h : RN w g X base M R T) (hy : Ty w w' g g' S) (h4 : ¬ S (4, 0)) (h2 : ∀ i, ¬ S (2, i)) : RN w' g' X base M R T := by
  obtain ⟨la, lc, h⟩ := h
  exact ⟨la, lc, h.ty hy h4 h2⟩
theorem RN.up {w : World} {g : Nat → Tag} {X base : Nat} {M : Nm} {R : Nat → Rg} {T T' : Nat} (h : RN w g X base M R T) (ht : T ≤ T') : RN w g X base M R T' := by
  obtain ⟨la, lc, h⟩ := h
  exact ⟨la, lc, h.net, h.own, h.tX, h.tL, fun c hc => (h.con c hc).up ht⟩

/-! ### Find -/
theorem rfind_some {w : World} {g : Nat → Tag} {X base : Nat} {M : Nm} {R : Nat → Rg} {T : Nat} {la : Option Addr} {lc : Nat} (h : RNL w g X base M R T la lc) (hn : M.cs.length ≤ 1000000) {id : Int} {c : Cn} (hg : M.get id = some c) :
    Calls Try.prog 49 #[.pointer (some ⟨X, 0, none⟩), .int .i64 id] w fun e w' => e = .returned (.pointer (some ⟨(R c.id).C, 0, none⟩)) ∧ w' = w := by
  obtain ⟨h0, i, hi, hic, hbef⟩ := List.find?_eq_some_iff_getElem.1 hg
  refine rfind_at X la lc _ _ (M.cs.map fun c => (c.id : Int)) id i _ w h.rt (by simpa using hn) ?_ (by simp) ?_ ?_ ?_
  · intro j b z hb hz
    rw [List.getElem?_map] at hb hz
    obtain ⟨d, hd, rfl⟩ := Option.map_eq_some_iff.1 hb
    rw [hd] at hz
    simp at hz
    rw [← hz]
    exact (h.con d (List.mem_of_getElem? hd)).cells.cells.1
  · rw [List.getElem?_map, List.getElem?_eq_getElem hi, hic]
    simpa using h0
  · intro j hj e
    have := hbef j hj
    rw [List.getElem?_map, List.getElem?_eq_getElem (by omega)] at e
    simp at e this
    exact this e
  · rw [List.getElem?_map, List.getElem?_eq_getElem hi, hic]; rfl
theorem rfind_none {w : World} {g : Nat → Tag} {X base : Nat} {M : Nm} {R : Nat → Rg} {T : Nat} {la : Option Addr} {lc : Nat} (h : RNL w g X base M R T la lc) (hn : M.cs.length ≤ 1000000) {id : Int} (hg : M.get id = none) :
    Calls Try.prog 49 #[.pointer (some ⟨X, 0, none⟩), .int .i64 id] w fun e w' => e = .returned (.pointer none) ∧ w' = w := by
  refine rfind_off X la lc _ _ (M.cs.map fun c => (c.id : Int)) id w h.rt (by simpa using hn) ?_ (by simp) ?_
  · intro j b z hb hz
    rw [List.getElem?_map] at hb hz
    obtain ⟨d, hd, rfl⟩ := Option.map_eq_some_iff.1 hb
    rw [hd] at hz
    simp at hz
    rw [← hz]
    exact (h.con d (List.mem_of_getElem? hd)).cells.cells.1
  · intro hm
    obtain ⟨d, hd, e⟩ := List.mem_map.1 hm
    exact Nm.get_none hg d hd e

theorem OwnQ.base {w : World} {base base' : Nat} {a : Option Addr} {cap : Nat} {l : List Nat} (h : OwnQ w base a cap l) (hb : base' ≤ base) : OwnQ w base' a cap l := by
  refine ⟨h.1, ?_⟩
  rcases h.2 with hn | ⟨g, cap, cur, hv, hbb, rest⟩
  · exact .inl hn
  · exact .inr ⟨g, cap, cur, hv, by omega, rest⟩
theorem filt_yes {α β : Type} (l : List α) (f : α → Bool) (h : α → β) (c : α) (hf : f c = true) : ((l ++ [c]).filter f).map h = (l.filter f).map h ++ [h c] := by simp [hf]
theorem filt_no {α β : Type} (l : List α) (f : α → Bool) (h : α → β) (c : α) (hf : f c = false) : ((l ++ [c]).filter f).map h = (l.filter f).map h := by simp [hf]
/-- The list is another one: some of those that were in it. -/
theorem RNL.refill {w wr : World} {g : Nat → Tag} {X base : Nat} {M : Nm} {R : Nat → Rg} {T : Nat} {la : Option Addr} {lc : Nat} (h : RNL w g X base M R T la lc) (hb : Below w.heap.size w wr) (f : Cn → Bool) {a2 : Option Addr} {c2 : Nat} {r : List Nat} (hr : r = (M.cs.filter f).map fun c => (R c.id).C) (ho : OwnQ wr w.heap.size a2 c2 r) (hbase : base ≤ w.heap.size) :
    ∃ g', RNL (wr.setCell ⟨X, 0, none⟩ (.slice a2 r.length c2)) g' X base { M with cs := M.cs.filter f } R T a2 c2 ∧ Ty w (wr.setCell ⟨X, 0, none⟩ (.slice a2 r.length c2)) g g' (fun t => t = (4, 0)) := by
  have hX := h.lt
  have hne : blk a2 ≠ some X := fun e => by have := (ho.lt X e).1; omega
  have hgr := gset' wr ⟨X, 0, none⟩ (.slice a2 r.length c2)
  have hk : Kp w (wr.setCell ⟨X, 0, none⟩ (.slice a2 r.length c2)) (fun k => g k = (4, 0)) := (Kp.of hb).trans (Kp.ofG hgr (fun k hk => by simp at hk; rw [← hk]; exact h.tX))
  have hsz : (wr.setCell ⟨X, 0, none⟩ (.slice a2 r.length c2)).heap.size = wr.heap.size := by simp [World.setCell]
  have hy : Ty w (wr.setCell ⟨X, 0, none⟩ (.slice a2 r.length c2)) g (tagO g a2 (4, 0)) (fun t => t = (4, 0)) := by
    refine ⟨hk, fun k hk => tagO_other g _ (fun e => ?_)⟩
    have := ho.lt k e
    rw [hsz] at hk
    omega
  refine ⟨_, ⟨?_, ?_, ?_, fun b hb => tagO_same g _ hb, fun c hc => (h.con c (List.mem_filter.1 hc).1).ty hy (by simp)⟩, hy⟩
  · rw [heap_setCell_same wr X 0 _ _ _ ((hb.block X hX).trans h.net), hr, List.length_map]; rfl
  · show OwnQ _ base a2 c2 ((M.cs.filter f).map fun c => (R c.id).C)
    rw [← hr]
    exact (ho.kept hgr (.inr (by simpa using hne))).base hbase
  · rw [tagO_other g _ hne]; exact h.tX

set_option maxHeartbeats 4000000 in
theorem rkeep {w : World} {g : Nat → Tag} {X base : Nat} {M : Nm} {R : Nat → Rg} {T : Nat} {la : Option Addr} {lc : Nat} (h : RNL w g X base M R T la lc) (hn : M.cs.length ≤ 1000000) (hT : T ≤ 240000000) (hbase : base ≤ w.heap.size) :
    Calls Try.prog 51 #[.pointer (some ⟨X, 0, none⟩)] w fun e w' => e = .returned (.tuple #[]) ∧ ∃ g' la' lc', Hid (RNL w' g' X base { M with cs := M.cs.filter Cn.live } R T la' lc') ∧ Hid (Ty w w' g g' (fun t => t = (4, 0))) := by
  have e0 := h.n0
  have HH := hide h
  have hX := h.lt
  have hnet := h.net
  clear h
  go_enter Try.func51, Try.ntmps51
  go_wp2
  go_loopw [2, 10] (fun v i wr => ∃ (k : Nat) (a2 : Option Addr) (c2 : Nat) (r : List Nat), k ≤ M.cs.length ∧ i = .int .i64 (k : Int) ∧ v = .slice a2 r.length c2 ∧ Hid (r = ((M.cs.take k).filter Cn.live).map fun c => (R c.id).C) ∧ Hid (OwnQ wr w.heap.size a2 c2 r) ∧ Hid (Below w.heap.size w wr)) (fun _ i _ => M.cs.length - (intOf i).toNat)
  case atStart => exact ⟨0, none, 0, [], Nat.zero_le _, rfl, rfl, rfl, OwnQ.nil _ _, Below.refl _ _⟩
  case round =>
    obtain ⟨k, a2, c2, r, hk, rfl, rfl, HR, HO, HB⟩ := hrel
    have hbs := (unhide HB).size
    have hrl : r.length ≤ 1000000 := by
      rw [unhide HR, List.length_map]
      have h1 := List.length_filter_le Cn.live (M.cs.take k)
      have h2 := List.length_take_le k M.cs
      omega
    by_cases hlt : k < M.cs.length
    · obtain ⟨c, hc⟩ : ∃ c, M.cs[k]? = some c := ⟨M.cs[k]'hlt, List.getElem?_eq_getElem hlt⟩
      have hmem := List.mem_of_getElem? hc
      obtain ⟨b, hla, _, hbl, hcell⟩ := (unhide HH).own.some (by rw [List.length_map]; omega)
      subst hla
      have ck : wr.cell? ⟨b, k, none⟩ = some (.pointer (some ⟨(R c.id).C, 0, none⟩)) := by
        rw [(unhide HB).cell hbl, hcell k (by rw [List.length_map]; omega), List.getD_eq_getElem?_getD, List.getElem?_map, hc]
        rfl
      have hcon := (unhide HH).con c hmem
      have hrc := hcon.cells.below (unhide HB)
      obtain ⟨z0, z1, z2, z3, z4, z5, z6, z7, z8⟩ := hrc.cells
      have hkl : (k : Int) < (M.cs.length : Int) := by omega
      have HTk : Hid (M.cs.take (k + 1) = M.cs.take k ++ [c]) := by
        show _ = _
        rw [List.take_add_one, hc]; rfl
      clear hcell hbl
      cases hf : Cn.live c with
      | true =>
        have HF := hide hf
        clear hf
        have hl1 : (c.L 1).length ≤ 240000000 := by have := hcon.t0; rw [hcon.d0, List.length_drop]; omega
        have hl0 : (c.L 0).length ≤ 240000000 := by have := hcon.t1; rw [hcon.d1, List.length_drop]; omega
        have HWA : Hid (∀ v : World, Below w.heap.size w v → Calls Try.prog 50 #[.pointer (some ⟨(R c.id).C, 0, none⟩), .int .i64 0] v fun e w' => e = .returned (.int .i64 ((c.L 1).length : Int)) ∧ Below v.heap.size v w') := fun v hv => way_0 _ _ _ _ _ _ _ _ _ _ _ _ _ _ (c.L 1).length v (hcon.cells.below hv) (by have := hcon.m0; rw [hcon.d0, List.length_drop]; omega) (by omega) (by have := hcon.t0; omega)
        have HWB : Hid (∀ v : World, Below w.heap.size w v → Calls Try.prog 50 #[.pointer (some ⟨(R c.id).C, 0, none⟩), .int .i64 1] v fun e w' => e = .returned (.int .i64 ((c.L 0).length : Int)) ∧ Below v.heap.size v w') := fun v hv => way_1 _ _ _ _ _ _ _ _ _ _ _ _ _ _ (c.L 0).length v (hcon.cells.below hv) (by have := hcon.m1; rw [hcon.d1, List.length_drop]; omega) (by omega) (by have := hcon.t1; omega)
        clear hcon hrc hmem hc
        cases h0 : c.c 0 with
        | false =>
          rw [h0] at z7
          go_wp2_with (at_builtin; refine wp_appq _ rfl _ _ rfl w.heap.size a2 c2 r rfl ((unhide HO).alloc _) wr.heap.size 1 (R c.id).C rfl (cell_litq _ _) ?c5 ?c6 ?_)
          case c5 => omega
          case c6 => first | omega | (simp; omega)
          intro a3 c3 r3 w5 hr3 ho5 hg5
          have HB5 : Hid (Below w.heap.size w w5) := below_grown ((unhide HB).alloc (unhide HB).size _) hg5 (Nat.le_refl _) (fun j hj => ((unhide HO).lt j hj).1)
          have HR5 : Hid (r3 = ((M.cs.take (k + 1)).filter Cn.live).map fun c => (R c.id).C) := by
            show _ = _
            rw [unhide hr3, unhide HR, unhide HTk, filt_yes _ _ _ c (unhide HF)]
          have HO5 := hide ho5
          clear hr3 ho5 hg5 HO HB HR z0 z1 z2 z3 z4 z5 z6 z7 z8 ck
          go_wp2
          go_roundw
          case rel => exact ⟨k + 1, a3, c3, r3, by omega, by go_num, rfl, HR5, HO5, HB5⟩
          case measure => simp [intOf]; omega
        | true =>
          rw [h0] at z7
          cases h1 : c.c 1 with
          | false =>
            rw [h1] at z8
            go_wp2_with (at_builtin; refine wp_appq _ rfl _ _ rfl w.heap.size a2 c2 r rfl ((unhide HO).alloc _) wr.heap.size 1 (R c.id).C rfl (cell_litq _ _) ?c5 ?c6 ?_)
            case c5 => omega
            case c6 => first | omega | (simp; omega)
            intro a3 c3 r3 w5 hr3 ho5 hg5
            have HB5 : Hid (Below w.heap.size w w5) := below_grown ((unhide HB).alloc (unhide HB).size _) hg5 (Nat.le_refl _) (fun j hj => ((unhide HO).lt j hj).1)
            have HR5 : Hid (r3 = ((M.cs.take (k + 1)).filter Cn.live).map fun c => (R c.id).C) := by
              show _ = _
              rw [unhide hr3, unhide HR, unhide HTk, filt_yes _ _ _ c (unhide HF)]
            have HO5 := hide ho5
            clear hr3 ho5 hg5 HO HB HR z0 z1 z2 z3 z4 z5 z6 z7 z8 ck
            go_wp2
            go_roundw
            case rel => exact ⟨k + 1, a3, c3, r3, by omega, by go_num, rfl, HR5, HO5, HB5⟩
            case measure => simp [intOf]; omega
          | true =>
            rw [h1] at z8
            have hpos : (0 : Int) < ((c.L 1).length : Int) + ((c.L 0).length : Int) := by
              have := unhide HF
              unfold Cn.live at this
              rw [h0, h1] at this
              simp at this
              have h3 : 0 < (c.L 0).length ∨ 0 < (c.L 1).length := by
                rcases this with h | h
                · left; exact List.length_pos_iff.2 h
                · right; exact List.length_pos_iff.2 h
              omega
            go_wp2_with fail
            refine (unhide HWA wr (unhide HB)).mono ?_
            rintro e w1 ⟨rfl, hw1⟩
            have HB1 : Hid (Below w.heap.size w w1) := (unhide HB).trans (hw1.mono (unhide HB).size)
            have hbs1 := hw1.size
            go_wp2_with fail
            refine (unhide HWB w1 (unhide HB1)).mono ?_
            rintro e w2 ⟨rfl, hw2⟩
            have HB2 : Hid (Below w.heap.size w w2) := (unhide HB1).trans (hw2.mono (unhide HB1).size)
            have hbs2 := hw2.size
            have HO2 := hide (((unhide HO).below hw1 (Nat.le_refl _)).below hw2 (Nat.le_refl _))
            clear hw1 hw2
            go_wp2_with (at_builtin; refine wp_appq _ rfl _ _ rfl w.heap.size a2 c2 r rfl ((unhide HO2).alloc _) w2.heap.size 1 (R c.id).C rfl (cell_litq _ _) ?c5 ?c6 ?_)
            case c5 => omega
            case c6 => first | omega | (simp; omega)
            intro a3 c3 r3 w5 hr3 ho5 hg5
            have HB5 : Hid (Below w.heap.size w w5) := below_grown ((unhide HB2).alloc (unhide HB2).size _) hg5 (Nat.le_refl _) (fun j hj => ((unhide HO2).lt j hj).1)
            have HR5 : Hid (r3 = ((M.cs.take (k + 1)).filter Cn.live).map fun c => (R c.id).C) := by
              show _ = _
              rw [unhide hr3, unhide HR, unhide HTk, filt_yes _ _ _ c (unhide HF)]
            have HO5 := hide ho5
            clear hr3 ho5 hg5 HO HB HR z0 z1 z2 z3 z4 z5 z6 z7 z8 ck
            go_wp2
            go_roundw
            case rel => exact ⟨k + 1, a3, c3, r3, by omega, by go_num, rfl, HR5, HO5, HB5⟩
            case measure => simp [intOf]; omega
      | false =>
        have HF := hide hf
        clear hf
        have HR5 : Hid (r = ((M.cs.take (k + 1)).filter Cn.live).map fun c => (R c.id).C) := by
          show _ = _
          rw [unhide HR, unhide HTk, filt_no _ _ _ c (unhide HF)]
        have hl1 : (c.L 1).length ≤ 240000000 := by have := hcon.t0; rw [hcon.d0, List.length_drop]; omega
        have hl0 : (c.L 0).length ≤ 240000000 := by have := hcon.t1; rw [hcon.d1, List.length_drop]; omega
        have HWA : Hid (∀ v : World, Below w.heap.size w v → Calls Try.prog 50 #[.pointer (some ⟨(R c.id).C, 0, none⟩), .int .i64 0] v fun e w' => e = .returned (.int .i64 ((c.L 1).length : Int)) ∧ Below v.heap.size v w') := fun v hv => way_0 _ _ _ _ _ _ _ _ _ _ _ _ _ _ (c.L 1).length v (hcon.cells.below hv) (by have := hcon.m0; rw [hcon.d0, List.length_drop]; omega) (by omega) (by have := hcon.t0; omega)
        have HWB : Hid (∀ v : World, Below w.heap.size w v → Calls Try.prog 50 #[.pointer (some ⟨(R c.id).C, 0, none⟩), .int .i64 1] v fun e w' => e = .returned (.int .i64 ((c.L 0).length : Int)) ∧ Below v.heap.size v w') := fun v hv => way_1 _ _ _ _ _ _ _ _ _ _ _ _ _ _ (c.L 0).length v (hcon.cells.below hv) (by have := hcon.m1; rw [hcon.d1, List.length_drop]; omega) (by omega) (by have := hcon.t1; omega)
        clear hcon hrc hmem hc
        have h00 : c.c 0 = true ∧ c.c 1 = true ∧ c.L 0 = [] ∧ c.L 1 = [] := by
          have := unhide HF
          unfold Cn.live at this
          simp at this
          exact ⟨this.1.1.1, this.1.1.2, this.1.2, this.2⟩
        have h0 := h00.1
        have h1 := h00.2.1
        have e1 : (c.L 0).length = 0 := by rw [h00.2.2.1]; rfl
        have e2 : (c.L 1).length = 0 := by rw [h00.2.2.2]; rfl
        rw [h0] at z7
        rw [h1] at z8
        clear h00 hl0 hl1
        rw [e1] at HWB
        rw [e2] at HWA
        go_wp2_with fail
        refine (unhide HWA wr (unhide HB)).mono ?_
        rintro e w1 ⟨rfl, hw1⟩
        have HB1 : Hid (Below w.heap.size w w1) := (unhide HB).trans (hw1.mono (unhide HB).size)
        have hbs1 := hw1.size
        go_wp2_with fail
        refine (unhide HWB w1 (unhide HB1)).mono ?_
        rintro e w2 ⟨rfl, hw2⟩
        have HB2 : Hid (Below w.heap.size w w2) := (unhide HB1).trans (hw2.mono (unhide HB1).size)
        have hbs2 := hw2.size
        have HO2 := hide (((unhide HO).below hw1 (Nat.le_refl _)).below hw2 (Nat.le_refl _))
        clear hw1 hw2
        go_wp2
        go_roundw
        case rel => exact ⟨k + 1, a2, c2, r, by omega, by go_num, rfl, HR5, HO2, HB2⟩
        case measure => simp [intOf]; omega
    · obtain rfl : k = M.cs.length := by omega
      have HR5 : Hid (r = (M.cs.filter Cn.live).map fun c => (R c.id).C) := by
        show _ = _
        rw [unhide HR, List.take_length]
      have hfr : wr.frozen? ⟨X, 0, none⟩ = false := frozen_of_row wr X 0 _ _ (((unhide HB).block X hX).trans hnet)
      have hce : wr.cell? ⟨X, 0, none⟩ = some (.slice la M.cs.length lc) := ((unhide HB).cell hX).trans e0
      clear hlt hk
      go_wp2
      obtain ⟨g', h1, h2⟩ := (unhide HH).refill (unhide HB) Cn.live (unhide HR5) (unhide HO) hbase
      go_end0
      exact ⟨rfl, g', a2, c2, h1, h2⟩
#print axioms rkeep

set_option maxHeartbeats 4000000 in
theorem rcut_at (id : Int) {w : World} {g : Nat → Tag} {X base : Nat} {M : Nm} {R : Nat → Rg} {T : Nat} {la : Option Addr} {lc : Nat} (h : RNL w g X base M R T la lc) (hn : M.cs.length ≤ 1000000) (hT : T ≤ 240000000) (hbase : base ≤ w.heap.size) {d : Cn} (HG : Hid (M.get id = some d)) :
    Calls Try.prog 29 #[.pointer (some ⟨X, 0, none⟩), .int .i64 id] w fun e w' => e = .returned (.int .i64 0) ∧ ∃ g' la' lc', Hid (RNL w' g' X base { M with cs := M.cs.filter (fun c => decide ((c.id : Int) ≠ id)) } R T la' lc') ∧ Hid (Ty w w' g g' (fun t => t = (4, 0))) := by
  have e0 := h.n0
  have HH := hide h
  have hX := h.lt
  have hnet := h.net
  clear h
  go_enter Try.func29, Try.ntmps29
  go_wp2_with fail
  refine (rfind_some (unhide HH) hn (unhide HG)).mono ?_
  rintro e w1 ⟨rfl, hw1⟩
  have hw1 := hw1.symm
  subst hw1
  go_wp2
  go_loopw [5, 17] (fun v i wr => ∃ (k : Nat) (a2 : Option Addr) (c2 : Nat) (r : List Nat), k ≤ M.cs.length ∧ i = .int .i64 (k : Int) ∧ v = .slice a2 r.length c2 ∧ Hid (r = ((M.cs.take k).filter (fun c => decide ((c.id : Int) ≠ id))).map fun c => (R c.id).C) ∧ Hid (OwnQ wr w.heap.size a2 c2 r) ∧ Hid (Below w.heap.size w wr)) (fun _ i _ => M.cs.length - (intOf i).toNat)
  case atStart => exact ⟨0, none, 0, [], Nat.zero_le _, rfl, rfl, rfl, OwnQ.nil _ _, Below.refl _ _⟩
  case round =>
    obtain ⟨k, a2, c2, r, hk, rfl, rfl, HR, HO, HB⟩ := hrel
    have hbs := (unhide HB).size
    have hrl : r.length ≤ 1000000 := by
      rw [unhide HR, List.length_map]
      have h1 := List.length_filter_le (fun c => decide ((c.id : Int) ≠ id)) (M.cs.take k)
      have h2 := List.length_take_le k M.cs
      omega
    by_cases hlt : k < M.cs.length
    · obtain ⟨c, hc⟩ : ∃ c, M.cs[k]? = some c := ⟨M.cs[k]'hlt, List.getElem?_eq_getElem hlt⟩
      have hmem := List.mem_of_getElem? hc
      obtain ⟨b, hla, _, hbl, hcell⟩ := (unhide HH).own.some (by rw [List.length_map]; omega)
      subst hla
      have ck : wr.cell? ⟨b, k, none⟩ = some (.pointer (some ⟨(R c.id).C, 0, none⟩)) := by
        rw [(unhide HB).cell hbl, hcell k (by rw [List.length_map]; omega), List.getD_eq_getElem?_getD, List.getElem?_map, hc]
        rfl
      have hcon := (unhide HH).con c hmem
      have hrc := hcon.cells.below (unhide HB)
      obtain ⟨z0, z1, z2, z3, z4, z5, z6, z7, z8⟩ := hrc.cells
      have hkl : (k : Int) < (M.cs.length : Int) := by omega
      have HTk : Hid (M.cs.take (k + 1) = M.cs.take k ++ [c]) := by
        show _ = _
        rw [List.take_add_one, hc]; rfl
      clear hcell hbl
      cases hf : (fun c => decide ((c.id : Int) ≠ id)) c with
      | true =>
        have HF := hide hf
        clear hf
        have hd : ((c.id : Int) != id) = true := by have := unhide HF; simpa using this
        clear hcon hrc hmem hc
        go_wp2_with (at_builtin; refine wp_appq _ rfl _ _ rfl w.heap.size a2 c2 r rfl ((unhide HO).alloc _) wr.heap.size 1 (R c.id).C rfl (cell_litq _ _) ?c5 ?c6 ?_)
        case c5 => omega
        case c6 => first | omega | (simp; omega)
        intro a3 c3 r3 w5 hr3 ho5 hg5
        have HB5 : Hid (Below w.heap.size w w5) := below_grown ((unhide HB).alloc (unhide HB).size _) hg5 (Nat.le_refl _) (fun j hj => ((unhide HO).lt j hj).1)
        have HR5 : Hid (r3 = ((M.cs.take (k + 1)).filter (fun c => decide ((c.id : Int) ≠ id))).map fun c => (R c.id).C) := by
          show _ = _
          rw [unhide hr3, unhide HR, unhide HTk, filt_yes _ _ _ c (unhide HF)]
        have HO5 := hide ho5
        clear hr3 ho5 hg5 HO HB HR z0 z1 z2 z3 z4 z5 z6 z7 z8 ck
        go_wp2
        go_roundw
        case rel => exact ⟨k + 1, a3, c3, r3, by omega, by go_num, rfl, HR5, HO5, HB5⟩
        case measure => simp [intOf]; omega
      | false =>
        have HF := hide hf
        clear hf
        have HR5 : Hid (r = ((M.cs.take (k + 1)).filter (fun c => decide ((c.id : Int) ≠ id))).map fun c => (R c.id).C) := by
          show _ = _
          rw [unhide HR, unhide HTk, filt_no _ _ _ c (unhide HF)]
        have hd : ((c.id : Int) != id) = false := by have := unhide HF; simpa using this
        clear hcon hrc hmem hc
        go_wp2
        go_roundw
        case rel => exact ⟨k + 1, a2, c2, r, by omega, by go_num, rfl, HR5, HO, HB⟩
        case measure => simp [intOf]; omega
    · obtain rfl : k = M.cs.length := by omega
      have HR5 : Hid (r = (M.cs.filter (fun c => decide ((c.id : Int) ≠ id))).map fun c => (R c.id).C) := by
        show _ = _
        rw [unhide HR, List.take_length]
      have hfr : wr.frozen? ⟨X, 0, none⟩ = false := frozen_of_row wr X 0 _ _ (((unhide HB).block X hX).trans hnet)
      have hce : wr.cell? ⟨X, 0, none⟩ = some (.slice la M.cs.length lc) := ((unhide HB).cell hX).trans e0
      clear hlt hk
      go_wp2
      obtain ⟨g', h1, h2⟩ := (unhide HH).refill (unhide HB) (fun c => decide ((c.id : Int) ≠ id)) (unhide HR5) (unhide HO) hbase
      go_ret
      exact ⟨rfl, g', a2, c2, h1, h2⟩
#print axioms rcut_at

set_option maxHeartbeats 4000000 in
theorem rdrop (node : Int) {w : World} {g : Nat → Tag} {X base : Nat} {M : Nm} {R : Nat → Rg} {T : Nat} {la : Option Addr} {lc : Nat} (h : RNL w g X base M R T la lc) (hn : M.cs.length ≤ 1000000) (hT : T ≤ 240000000) (hbase : base ≤ w.heap.size) :
    Calls Try.prog 15 #[.pointer (some ⟨X, 0, none⟩), .int .i64 node] w fun e w' => e = .returned (.int .i64 ((M.cs.length : Int) - ((M.cs.filter (fun c => decide (c.side node < 0))).length : Int))) ∧ ∃ g' la' lc', Hid (RNL w' g' X base { M with cs := M.cs.filter (fun c => decide (c.side node < 0)) } R T la' lc') ∧ Hid (Ty w w' g g' (fun t => t = (4, 0))) := by
  have e0 := h.n0
  have HH := hide h
  have hX := h.lt
  have hnet := h.net
  clear h
  go_enter Try.func15, Try.ntmps15
  go_wp2
  go_loopw [5, 14] (fun v i wr => ∃ (k : Nat) (a2 : Option Addr) (c2 : Nat) (r : List Nat), k ≤ M.cs.length ∧ i = .int .i64 (k : Int) ∧ v = .slice a2 r.length c2 ∧ Hid (r = ((M.cs.take k).filter (fun c => decide (c.side node < 0))).map fun c => (R c.id).C) ∧ Hid (OwnQ wr w.heap.size a2 c2 r) ∧ Hid (Below w.heap.size w wr)) (fun _ i _ => M.cs.length - (intOf i).toNat)
  case atStart => exact ⟨0, none, 0, [], Nat.zero_le _, rfl, rfl, rfl, OwnQ.nil _ _, Below.refl _ _⟩
  case round =>
    obtain ⟨k, a2, c2, r, hk, rfl, rfl, HR, HO, HB⟩ := hrel
    have hbs := (unhide HB).size
    have hrl : r.length ≤ 1000000 := by
      rw [unhide HR, List.length_map]
      have h1 := List.length_filter_le (fun c => decide (c.side node < 0)) (M.cs.take k)
      have h2 := List.length_take_le k M.cs
      omega
    by_cases hlt : k < M.cs.length
    · obtain ⟨c, hc⟩ : ∃ c, M.cs[k]? = some c := ⟨M.cs[k]'hlt, List.getElem?_eq_getElem hlt⟩
      have hmem := List.mem_of_getElem? hc
      obtain ⟨b, hla, _, hbl, hcell⟩ := (unhide HH).own.some (by rw [List.length_map]; omega)
      subst hla
      have ck : wr.cell? ⟨b, k, none⟩ = some (.pointer (some ⟨(R c.id).C, 0, none⟩)) := by
        rw [(unhide HB).cell hbl, hcell k (by rw [List.length_map]; omega), List.getD_eq_getElem?_getD, List.getElem?_map, hc]
        rfl
      have hcon := (unhide HH).con c hmem
      have hrc := hcon.cells.below (unhide HB)
      obtain ⟨z0, z1, z2, z3, z4, z5, z6, z7, z8⟩ := hrc.cells
      have hkl : (k : Int) < (M.cs.length : Int) := by omega
      have HTk : Hid (M.cs.take (k + 1) = M.cs.take k ++ [c]) := by
        show _ = _
        rw [List.take_add_one, hc]; rfl
      clear hcell hbl
      cases hf : (fun c => decide (c.side node < 0)) c with
      | true =>
        have HF := hide hf
        clear hf
        have hd : decide (c.side node < 0) = true := unhide HF
        have hsd : Hid (c.side node = if c.p = node then 0 else if c.q = node then 1 else -1) := rfl
        go_wp2_with fail
        refine (end_r _ _ _ _ _ _ _ _ _ _ _ _ _ _ node (c.side node) wr hrc hsd).mono ?_
        rintro e w1 ⟨rfl, hw1⟩
        have hw1 := hw1.symm
        subst hw1
        clear hcon hrc hmem hc
        go_wp2_with (at_builtin; refine wp_appq _ rfl _ _ rfl w.heap.size a2 c2 r rfl ((unhide HO).alloc _) wr.heap.size 1 (R c.id).C rfl (cell_litq _ _) ?c5 ?c6 ?_)
        case c5 => omega
        case c6 => first | omega | (simp; omega)
        intro a3 c3 r3 w5 hr3 ho5 hg5
        have HB5 : Hid (Below w.heap.size w w5) := below_grown ((unhide HB).alloc (unhide HB).size _) hg5 (Nat.le_refl _) (fun j hj => ((unhide HO).lt j hj).1)
        have HR5 : Hid (r3 = ((M.cs.take (k + 1)).filter (fun c => decide (c.side node < 0))).map fun c => (R c.id).C) := by
          show _ = _
          rw [unhide hr3, unhide HR, unhide HTk, filt_yes _ _ _ c (unhide HF)]
        have HO5 := hide ho5
        clear hr3 ho5 hg5 HO HB HR z0 z1 z2 z3 z4 z5 z6 z7 z8 ck
        go_wp2
        go_roundw
        case rel => exact ⟨k + 1, a3, c3, r3, by omega, by go_num, rfl, HR5, HO5, HB5⟩
        case measure => simp [intOf]; omega
      | false =>
        have HF := hide hf
        clear hf
        have HR5 : Hid (r = ((M.cs.take (k + 1)).filter (fun c => decide (c.side node < 0))).map fun c => (R c.id).C) := by
          show _ = _
          rw [unhide HR, unhide HTk, filt_no _ _ _ c (unhide HF)]
        have hd : decide (c.side node < 0) = false := unhide HF
        have hsd : Hid (c.side node = if c.p = node then 0 else if c.q = node then 1 else -1) := rfl
        go_wp2_with fail
        refine (end_r _ _ _ _ _ _ _ _ _ _ _ _ _ _ node (c.side node) wr hrc hsd).mono ?_
        rintro e w1 ⟨rfl, hw1⟩
        have hw1 := hw1.symm
        subst hw1
        clear hcon hrc hmem hc
        go_wp2
        go_roundw
        case rel => exact ⟨k + 1, a2, c2, r, by omega, by go_num, rfl, HR5, HO, HB⟩
        case measure => simp [intOf]; omega
    · obtain rfl : k = M.cs.length := by omega
      have HR5 : Hid (r = (M.cs.filter (fun c => decide (c.side node < 0))).map fun c => (R c.id).C) := by
        show _ = _
        rw [unhide HR, List.take_length]
      have hfr : wr.frozen? ⟨X, 0, none⟩ = false := frozen_of_row wr X 0 _ _ (((unhide HB).block X hX).trans hnet)
      have hce : wr.cell? ⟨X, 0, none⟩ = some (.slice la M.cs.length lc) := ((unhide HB).cell hX).trans e0
      clear hlt hk
      have hrn : r.length ≤ M.cs.length := by rw [unhide HR5, List.length_map]; exact List.length_filter_le _ _
      go_wp2
      obtain ⟨g', h1, h2⟩ := (unhide HH).refill (unhide HB) (fun c => decide (c.side node < 0)) (unhide HR5) (unhide HO) hbase
      go_ret
      refine ⟨?_, g', a2, c2, h1, h2⟩
      rw [unhide HR5, List.length_map]
      rfl
#print axioms rdrop
end Go.Proofs.Ytohlmfiicfoimaa
