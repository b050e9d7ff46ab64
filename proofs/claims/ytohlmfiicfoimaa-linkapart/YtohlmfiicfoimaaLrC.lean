/-
  link, the document's own net: Send.
-/
import Derived.Test.YtohlmfiicfoimaaLrB
import Derived.Test.YtohlmfiicfoimaaLtM
import Derived.Deep.RegionHeld3
import Derived.Deep.DeepCutAuto
import Derived.Deep.Upon
import Derived.Deep.RegionLaw
set_option linter.unusedVariables false
namespace Go.Proofs.Ytohlmfiicfoimaa
open Go.RowKit Go.Maps

theorem RC.s3 {w : World} {C : Nat} {id p q : Int} {x0 : Option Addr} {n0 k0 : Nat} {x1 : Option Addr} {n1 k1 : Nat} {m0 m1 : Int} {c0 c1 : Bool} (h : RC w C id p q x0 n0 k0 x1 n1 k1 m0 m1 c0 c1) (x : Option Addr) (n k : Nat) : RC (w.setCell ⟨C, 3, none⟩ (.slice x n k)) C id p q x n k x1 n1 k1 m0 m1 c0 c1 := by
  unfold RC at *
  simp only [World.setCell, Array.getElem?_modify]
  rw [if_pos trivial, h]
  rfl
theorem RC.s4 {w : World} {C : Nat} {id p q : Int} {x0 : Option Addr} {n0 k0 : Nat} {x1 : Option Addr} {n1 k1 : Nat} {m0 m1 : Int} {c0 c1 : Bool} (h : RC w C id p q x0 n0 k0 x1 n1 k1 m0 m1 c0 c1) (x : Option Addr) (n k : Nat) : RC (w.setCell ⟨C, 4, none⟩ (.slice x n k)) C id p q x0 n0 k0 x n k m0 m1 c0 c1 := by
  unfold RC at *
  simp only [World.setCell, Array.getElem?_modify]
  rw [if_pos trivial, h]
  rfl
theorem RC.s5 {w : World} {C : Nat} {id p q : Int} {x0 : Option Addr} {n0 k0 : Nat} {x1 : Option Addr} {n1 k1 : Nat} {m0 m1 : Int} {c0 c1 : Bool} (h : RC w C id p q x0 n0 k0 x1 n1 k1 m0 m1 c0 c1) (v : Int) : RC (w.setCell ⟨C, 5, none⟩ (.int .i64 v)) C id p q x0 n0 k0 x1 n1 k1 v m1 c0 c1 := by
  unfold RC at *
  simp only [World.setCell, Array.getElem?_modify]
  rw [if_pos trivial, h]
  rfl
theorem RC.s6 {w : World} {C : Nat} {id p q : Int} {x0 : Option Addr} {n0 k0 : Nat} {x1 : Option Addr} {n1 k1 : Nat} {m0 m1 : Int} {c0 c1 : Bool} (h : RC w C id p q x0 n0 k0 x1 n1 k1 m0 m1 c0 c1) (v : Int) : RC (w.setCell ⟨C, 6, none⟩ (.int .i64 v)) C id p q x0 n0 k0 x1 n1 k1 m0 v c0 c1 := by
  unfold RC at *
  simp only [World.setCell, Array.getElem?_modify]
  rw [if_pos trivial, h]
  rfl
theorem RC.s7 {w : World} {C : Nat} {id p q : Int} {x0 : Option Addr} {n0 k0 : Nat} {x1 : Option Addr} {n1 k1 : Nat} {m0 m1 : Int} {c0 c1 : Bool} (h : RC w C id p q x0 n0 k0 x1 n1 k1 m0 m1 c0 c1) (v : Bool) : RC (w.setCell ⟨C, 7, none⟩ (.bool v)) C id p q x0 n0 k0 x1 n1 k1 m0 m1 v c1 := by
  unfold RC at *
  simp only [World.setCell, Array.getElem?_modify]
  rw [if_pos trivial, h]
  rfl
theorem RC.s8 {w : World} {C : Nat} {id p q : Int} {x0 : Option Addr} {n0 k0 : Nat} {x1 : Option Addr} {n1 k1 : Nat} {m0 m1 : Int} {c0 c1 : Bool} (h : RC w C id p q x0 n0 k0 x1 n1 k1 m0 m1 c0 c1) (v : Bool) : RC (w.setCell ⟨C, 8, none⟩ (.bool v)) C id p q x0 n0 k0 x1 n1 k1 m0 m1 c0 v := by
  unfold RC at *
  simp only [World.setCell, Array.getElem?_modify]
  rw [if_pos trivial, h]
  rfl

/-- One connection is another one, and lies where it lay. -/
theorem RNL.set1 {w w' : World} {g g' : Nat → Tag} {X base : Nat} {M : Nm} {R : Nat → Rg} {T T' : Nat} {la : Option Addr} {lc : Nat} (h : RNL w g X base M R T la lc) {c' : Cn} {r' : Rg} (hC : r'.C = (R c'.id).C) (hy : Ty w w' g g' (fun t => t = (2, c'.id))) (hr : RCon w' g' r' c' T') (hT : T ≤ T') :
    RNL w' g' X base (M.set c') (upd R c'.id r') T' la lc := by
  have hl : (M.set c').cs.map (fun d => (upd R c'.id r' d.id).C) = M.cs.map fun d => (R d.id).C := by
    show ((M.cs.map _).map _) = _
    rw [List.map_map]
    apply List.map_congr_left
    intro d hd
    show (upd R c'.id r' (if d.id = c'.id then c' else d).id).C = (R d.id).C
    by_cases e : d.id = c'.id
    · rw [if_pos e, upd_same, hC, e]
    · rw [if_neg e, upd_other _ _ _ e]
  refine ⟨?_, ?_, ?_, fun b hb => ?_, fun d hd => ?_⟩
  · rw [hy.kp.block X h.lt (by rw [h.tX]; simp), h.net]
    show some (Obj.cells #[.slice la M.cs.length lc, _] _ _) = some (Obj.cells #[.slice la (M.cs.map _).length lc, _] _ _)
    rw [List.length_map]
    rfl
  · rw [hl]
    exact h.own.kp hy.kp (fun b hb => by rw [h.tL b hb]; simp)
  · rw [hy.tag _ (.inl h.lt)]; exact h.tX
  · rw [hy.tag _ (.inl (h.own.lt b hb).2)]; exact h.tL b hb
  · rcases Nm.mem_set hd with ⟨rfl, _⟩ | ⟨hd, hne⟩
    · rw [upd_same]; exact hr
    · rw [upd_other _ _ _ hne]
      exact ((h.con d hd).ty hy (by simp; exact hne)).up hT

/-- What a connection is behind the row that an end sent has grown. -/
theorem rsent_0 {w v : World} {g : Nat → Tag} {r : Rg} {c : Cn} {T B : Nat} {x' : Option Addr} {k' : Nat} {l' lb : List UInt8} (h : RCon w g r c T) (hb : Below w.heap.size w v) (hl : l' = r.S 0 ++ lb) (ho : Cmg v B x' k' l') (hB : w.heap.size ≤ B) :
    ∃ g' r', Hid (r'.C = r.C) ∧ Hid (RCon (v.setCell ⟨r.C, 3, none⟩ (.slice x' l'.length k')) g' r' (c.rows 1 (c.L 1 ++ lb)) (T + lb.length)) ∧ Hid (Ty w (v.setCell ⟨r.C, 3, none⟩ (.slice x' l'.length k')) g g' (fun t => t = (2, c.id))) := by
  have hC := h.cells.lt
  have hgr := gset' v ⟨r.C, 3, none⟩ (.slice x' l'.length k')
  have hsz : (v.setCell ⟨r.C, 3, none⟩ (.slice x' l'.length k')).heap.size = v.heap.size := by simp [World.setCell]
  have hy : Ty w (v.setCell ⟨r.C, 3, none⟩ (.slice x' l'.length k')) g (tagO g x' (2, c.id)) (fun t => t = (2, c.id)) := by
    refine ⟨(Kp.of hb).trans (Kp.ofG hgr (fun k hk => by simp at hk; rw [← hk]; exact h.tC)), fun k hk => tagO_other g _ (fun e => ?_)⟩
    have := ho.lt k e
    rw [hsz] at hk
    omega
  have hne : blk x' ≠ some r.C := fun e => by have := (ho.lt _ e).1; omega
  refine ⟨_, ⟨r.C, upd r.x 0 x', upd r.k 0 k', upd r.S 0 l', r.m⟩, rfl, ?_, hy⟩
  have hcl := (h.cells.below hb).s3 x' l'.length k'
  have hbx : Bs (v.setCell ⟨r.C, 3, none⟩ (.slice x' l'.length k')) x' k' l' := (ho.kept hgr (fun b hb e => hne (by simp at e; rw [hb, e]))).toBs
  have hby : Bs (v.setCell ⟨r.C, 3, none⟩ (.slice x' l'.length k')) (r.x 1) (r.k 1) (r.S 1) := (h.b1.below hb (Nat.le_refl _)).kpn (Kp.ofG (S := fun k => k = r.C) hgr (fun k hk => by simp at hk; exact hk.symm)) (fun hn b hb' e => by
    obtain ⟨b', off, e1, hc⟩ := h.b1.row hn
    have hpos : 0 < (r.S 1).length := List.length_pos_iff.2 hn
    have hc0 := hc 0 hpos
    rw [e1] at hb'
    simp [blk] at hb'
    subst hb'
    subst e
    have := cell_of_row w _ (off + 0) _ _ _ h.cells
    rw [this] at hc0
    have h3 := (Array.getElem?_eq_some_iff.1 hc0).1
    have h4 := h.g1 r.C (by rw [e1]; rfl) hn
    simp at h3
    rcases (by omega : off = 0 ∨ off = 1 ∨ off = 2 ∨ off = 3 ∨ off = 4 ∨ off = 5 ∨ off = 6 ∨ off = 7 ∨ off = 8) with rfl | rfl | rfl | rfl | rfl | rfl | rfl | rfl | rfl <;> simp at hc0)
  have hli : l'.length = (r.S 0).length + lb.length := by rw [hl, List.length_append]
  have p0 : Bs (v.setCell ⟨r.C, 3, none⟩ (.slice x' l'.length k')) (upd r.x 0 x' 0) (upd r.k 0 k' 0) (upd r.S 0 l' 0) := hbx
  have p1 : Bs (v.setCell ⟨r.C, 3, none⟩ (.slice x' l'.length k')) (upd r.x 0 x' 1) (upd r.k 0 k' 1) (upd r.S 0 l' 1) := hby
  have q0 : r.m 0 ≤ (upd r.S 0 l' 0).length := by rw [upd_same, hli]; have := h.m0; omega
  have q1 : r.m 1 ≤ (upd r.S 0 l' 1).length := h.m1
  have d0 : (c.rows 1 (c.L 1 ++ lb)).L 1 = (upd r.S 0 l' 0).drop (r.m 0) := by
    show upd c.L 1 (c.L 1 ++ lb) 1 = _
    rw [upd_same, upd_same, hl, List.drop_append_of_le_length h.m0, ← h.d0]
  have d1 : (c.rows 1 (c.L 1 ++ lb)).L 0 = (upd r.S 0 l' 1).drop (r.m 1) := h.d1
  have t0 : (upd r.S 0 l' 0).length ≤ T + lb.length := by rw [upd_same, hli]; have := h.t0; omega
  have t1 : (upd r.S 0 l' 1).length ≤ T + lb.length := Nat.le_trans h.t1 (Nat.le_add_right _ _)
  have g0 : ∀ b, blk (upd r.x 0 x' 0) = some b → upd r.S 0 l' 0 ≠ [] → tagO g x' (2, c.id) b = (2, c.id) := fun b hb _ => tagO_same g _ hb
  have g1 : ∀ b, blk (upd r.x 0 x' 1) = some b → upd r.S 0 l' 1 ≠ [] → tagO g x' (2, c.id) b = (2, c.id) := fun b hb hn => by
    have hb' : blk (r.x 1) = some b := hb
    have hn' : r.S 1 ≠ [] := hn
    rw [tagO_other g _ (fun e => by have h1 := (ho.lt b e).1; have h2 := h.b1.row.lt hn' b hb'; omega)]
    exact h.g1 b hb' hn'
  exact ⟨hcl, p0, p1, q0, q1, d0, d1, t0, t1, by rw [tagO_other g _ hne]; exact h.tC, g0, g1⟩

set_option maxHeartbeats 4000000 in
theorem rsend_0 {w : World} {g : Nat → Tag} {X base : Nat} {M : Nm} {R : Nat → Rg} {T : Nat} {la : Option Addr} {lc : Nat} (h : RNL w g X base M R T la lc) (hM : Mok M) (hT : T ≤ 120000000) (id node : Int) (a : Option Addr) (cap : Nat) (lb : List UInt8) (hs : Bs w a cap lb) (hlb : lb.length ≤ 120000000) {c : Cn} (hg : M.get id = some c) (hsd : c.side node = 0) (hcl : c.c 0 = false) (hfit : (c.L 1).length + lb.length ≤ 131072) (hbase : base ≤ w.heap.size) :
    Calls Try.prog 25 #[.pointer (some ⟨X, 0, none⟩), .int .i64 id, .int .i64 node, .slice a lb.length cap] w fun e w' => e = .returned (.int .i64 0) ∧ ∃ g' r', Hid (r'.C = (R c.id).C) ∧ Hid (RCon w' g' r' (c.rows 1 (c.L 1 ++ lb)) (T + lb.length)) ∧ Hid (Ty w w' g g' (fun t => t = (2, c.id))) := by
  obtain ⟨hmem, hid⟩ := Nm.get_some hg
  have hcon := h.con c hmem
  have HG := hide hg
  have HH := hide h
  have hn : M.cs.length ≤ 1000000 := Nat.le_trans hM.few (by omega)
  have hld : (c.L 1).length = ((R c.id).S 0).length - (R c.id).m 0 := by rw [hcon.d0, List.length_drop]
  have hm := hcon.m0
  have ht := hcon.t0
  obtain ⟨l1, hl1⟩ : ∃ l1, l1 = (c.L 1).length := ⟨_, rfl⟩
  have HW : Hid (∀ v : World, Below w.heap.size w v → Calls Try.prog 50 #[.pointer (some ⟨(R c.id).C, 0, none⟩), .int .i64 0] v fun e w' => e = .returned (.int .i64 (l1 : Int)) ∧ Below v.heap.size v w') := fun v hv => way_0 _ _ _ _ _ _ _ _ _ _ _ _ _ _ l1 v (hcon.cells.below hv) (by omega) (by omega) (by omega)
  have hfit' : ¬ ((131072 : Int) - (l1 : Int) < (lb.length : Int)) := by omega
  have hl2 : l1 ≤ 131072 := by omega
  obtain ⟨z0, z1, z2, z3, z4, z5, z6, z7, z8⟩ := hcon.cells.cells
  rw [hcl] at z7
  have HCN := hide hcon
  have HHM := hide hm
  have HHT := hide ht
  clear hl1 hld hm ht hg h hcon
  go_enter Try.func25, Try.ntmps25
  go_wp2_with fail
  refine (rfind_some (unhide HH) hn (unhide HG)).mono ?_
  rintro e w1 ⟨rfl, hw1⟩
  have hw1 := hw1.symm
  subst hw1
  go_wp2_with fail
  refine (end_r _ _ _ _ _ _ _ _ _ _ _ _ _ _ node 0 w (unhide HCN).cells (by show _ = _; have := hsd; unfold Cn.side at this; exact this.symm)).mono ?_
  rintro e w1 ⟨rfl, hw1⟩
  have hw1 := hw1.symm
  subst hw1
  go_wp2_with fail
  refine (unhide HW w (Below.refl _ _)).mono ?_
  rintro e w2 ⟨rfl, hb2⟩
  have hrc := (unhide HCN).cells.below hb2
  obtain ⟨y0, y1, y2, y3, y4, y5, y6, y7, y8⟩ := hrc.cells
  rw [hcl] at y7
  clear z0 z1 z2 z3 z4 z5 z6 z7 z8
  go_upto_region 11 with fail
  have hbA : Below w2.heap.size w2 (w2.alloc (.cells #[] 5)).drew := ((Below.refl _ w2).alloc (Nat.le_refl _) _).drew
  have ya : (w2.alloc (.cells #[] 5)).drew.cell? ⟨(R c.id).C, 3, none⟩ = some (.slice ((R c.id).x 0) ((R c.id).S 0).length ((R c.id).k 0)) := (hbA.cell hrc.lt).trans y3
  have HE : Hid (Cmg (w2.alloc (.cells #[] 5)).drew w2.heap.size (some ⟨w2.heap.size, 0, none⟩) 0 []) := ((own_empty w2 w2.heap.size (Nat.le_refl _)).toCmg).below ((Below.refl _ _).drew) (Nat.le_refl _)
  have HBi := hide (((unhide HCN).b0.below hb2 (Nat.le_refl _)).below hbA (Nat.le_refl _))
  have HBA := hide hbA
  have HB2 := hide hb2
  have HRC := hide hrc
  have HS2 := hide (hs.below hb2 (Nat.le_refl _))
  have HSZ : Hid (w2.heap.size ≤ (w2.alloc (.cells #[] 5)).drew.heap.size) := hbA.size
  have hlt2 := unhide HHM
  have hlt3 := unhide HHT
  clear hbA hb2 hrc hs
  go_region_law (first
    | (refine stp_appc _ rfl _ _ rfl w2.heap.size (some ⟨w2.heap.size, 0, none⟩) 0 [] _ rfl rfl (unhide HE) ((R c.id).x 0) ((R c.id).k 0) ((R c.id).S 0) _ rfl rfl (unhide HBi).row (unhide HBi).nz (by simp; omega) (unhide HSZ) ?_; intro x3 k3 r3 w3 hr3 ho3 hg3 hf3; have HB3 : Hid (Below w2.heap.size w2 w3) := (unhide HBA).grown (unhide hg3) (unhide HSZ) (fun k hk => by simp [blk] at hk; omega); have HS3 := hide ((unhide HS2).below (unhide HB3) (Nat.le_refl _)); have hr3l : r3.length = ((R c.id).S 0).length := (by rw [unhide hr3]; simp); have HR3 := hide hr3l; have hz3 : r3.length ≤ 120000000 := (by omega); clear hr3l)
    | (refine stp_appc _ rfl _ _ rfl w2.heap.size x3 k3 r3 _ rfl rfl (unhide ho3) a cap lb _ rfl rfl (unhide HS3).row (unhide HS3).nz (by omega) (unhide HB3).size ?_; intro x4 k4 r4 w4 hr4 ho4 hg4 hf4; have HB4 : Hid (Below w2.heap.size w2 w4) := (unhide HB3).grown (unhide hg4) (unhide HB3).size (fun k hk => ((unhide ho3).lt k hk).1); have y4 : w4.cell? ⟨(R c.id).C, 3, none⟩ = some (.slice ((R c.id).x 0) ((R c.id).S 0).length ((R c.id).k 0)) := ((unhide HB4).cell (unhide HRC).lt).trans y3; have f4 : w4.frozen? ⟨(R c.id).C, 3, none⟩ = false := ((unhide HRC).below (unhide HB4)).fr _))
  all_goals
    go_wp2
    go_ret
    have hr : r4 = (R c.id).S 0 ++ lb := by rw [unhide hr4, unhide hr3, List.nil_append]
    exact ⟨rfl, rsent_0 (unhide HCN) ((unhide HB2).trans ((unhide HB4).mono (unhide HB2).size)) hr (unhide ho4) (unhide HB2).size⟩


/-- What a connection is behind the row that an end sent has grown. -/
theorem rsent_1 {w v : World} {g : Nat → Tag} {r : Rg} {c : Cn} {T B : Nat} {x' : Option Addr} {k' : Nat} {l' lb : List UInt8} (h : RCon w g r c T) (hb : Below w.heap.size w v) (hl : l' = r.S 1 ++ lb) (ho : Cmg v B x' k' l') (hB : w.heap.size ≤ B) :
    ∃ g' r', Hid (r'.C = r.C) ∧ Hid (RCon (v.setCell ⟨r.C, 4, none⟩ (.slice x' l'.length k')) g' r' (c.rows 0 (c.L 0 ++ lb)) (T + lb.length)) ∧ Hid (Ty w (v.setCell ⟨r.C, 4, none⟩ (.slice x' l'.length k')) g g' (fun t => t = (2, c.id))) := by
  have hC := h.cells.lt
  have hgr := gset' v ⟨r.C, 4, none⟩ (.slice x' l'.length k')
  have hsz : (v.setCell ⟨r.C, 4, none⟩ (.slice x' l'.length k')).heap.size = v.heap.size := by simp [World.setCell]
  have hy : Ty w (v.setCell ⟨r.C, 4, none⟩ (.slice x' l'.length k')) g (tagO g x' (2, c.id)) (fun t => t = (2, c.id)) := by
    refine ⟨(Kp.of hb).trans (Kp.ofG hgr (fun k hk => by simp at hk; rw [← hk]; exact h.tC)), fun k hk => tagO_other g _ (fun e => ?_)⟩
    have := ho.lt k e
    rw [hsz] at hk
    omega
  have hne : blk x' ≠ some r.C := fun e => by have := (ho.lt _ e).1; omega
  refine ⟨_, ⟨r.C, upd r.x 1 x', upd r.k 1 k', upd r.S 1 l', r.m⟩, rfl, ?_, hy⟩
  have hcl := (h.cells.below hb).s4 x' l'.length k'
  have hbx : Bs (v.setCell ⟨r.C, 4, none⟩ (.slice x' l'.length k')) x' k' l' := (ho.kept hgr (fun b hb e => hne (by simp at e; rw [hb, e]))).toBs
  have hby : Bs (v.setCell ⟨r.C, 4, none⟩ (.slice x' l'.length k')) (r.x 0) (r.k 0) (r.S 0) := (h.b0.below hb (Nat.le_refl _)).kpn (Kp.ofG (S := fun k => k = r.C) hgr (fun k hk => by simp at hk; exact hk.symm)) (fun hn b hb' e => by
    obtain ⟨b', off, e1, hc⟩ := h.b0.row hn
    have hpos : 0 < (r.S 0).length := List.length_pos_iff.2 hn
    have hc0 := hc 0 hpos
    rw [e1] at hb'
    simp [blk] at hb'
    subst hb'
    subst e
    have := cell_of_row w _ (off + 0) _ _ _ h.cells
    rw [this] at hc0
    have h3 := (Array.getElem?_eq_some_iff.1 hc0).1
    have h4 := h.g0 r.C (by rw [e1]; rfl) hn
    simp at h3
    rcases (by omega : off = 0 ∨ off = 1 ∨ off = 2 ∨ off = 3 ∨ off = 4 ∨ off = 5 ∨ off = 6 ∨ off = 7 ∨ off = 8) with rfl | rfl | rfl | rfl | rfl | rfl | rfl | rfl | rfl <;> simp at hc0)
  have hli : l'.length = (r.S 1).length + lb.length := by rw [hl, List.length_append]
  have p1 : Bs (v.setCell ⟨r.C, 4, none⟩ (.slice x' l'.length k')) (upd r.x 1 x' 1) (upd r.k 1 k' 1) (upd r.S 1 l' 1) := hbx
  have p0 : Bs (v.setCell ⟨r.C, 4, none⟩ (.slice x' l'.length k')) (upd r.x 1 x' 0) (upd r.k 1 k' 0) (upd r.S 1 l' 0) := hby
  have q1 : r.m 1 ≤ (upd r.S 1 l' 1).length := by rw [upd_same, hli]; have := h.m1; omega
  have q0 : r.m 0 ≤ (upd r.S 1 l' 0).length := h.m0
  have d1 : (c.rows 0 (c.L 0 ++ lb)).L 0 = (upd r.S 1 l' 1).drop (r.m 1) := by
    show upd c.L 0 (c.L 0 ++ lb) 0 = _
    rw [upd_same, upd_same, hl, List.drop_append_of_le_length h.m1, ← h.d1]
  have d0 : (c.rows 0 (c.L 0 ++ lb)).L 1 = (upd r.S 1 l' 0).drop (r.m 0) := h.d0
  have t1 : (upd r.S 1 l' 1).length ≤ T + lb.length := by rw [upd_same, hli]; have := h.t1; omega
  have t0 : (upd r.S 1 l' 0).length ≤ T + lb.length := Nat.le_trans h.t0 (Nat.le_add_right _ _)
  have g1 : ∀ b, blk (upd r.x 1 x' 1) = some b → upd r.S 1 l' 1 ≠ [] → tagO g x' (2, c.id) b = (2, c.id) := fun b hb _ => tagO_same g _ hb
  have g0 : ∀ b, blk (upd r.x 1 x' 0) = some b → upd r.S 1 l' 0 ≠ [] → tagO g x' (2, c.id) b = (2, c.id) := fun b hb hn => by
    have hb' : blk (r.x 0) = some b := hb
    have hn' : r.S 0 ≠ [] := hn
    rw [tagO_other g _ (fun e => by have h1 := (ho.lt b e).1; have h2 := h.b0.row.lt hn' b hb'; omega)]
    exact h.g0 b hb' hn'
  exact ⟨hcl, p0, p1, q0, q1, d0, d1, t0, t1, by rw [tagO_other g _ hne]; exact h.tC, g0, g1⟩

set_option maxHeartbeats 4000000 in
theorem rsend_1 {w : World} {g : Nat → Tag} {X base : Nat} {M : Nm} {R : Nat → Rg} {T : Nat} {la : Option Addr} {lc : Nat} (h : RNL w g X base M R T la lc) (hM : Mok M) (hT : T ≤ 120000000) (id node : Int) (a : Option Addr) (cap : Nat) (lb : List UInt8) (hs : Bs w a cap lb) (hlb : lb.length ≤ 120000000) {c : Cn} (hg : M.get id = some c) (hsd : c.side node = 1) (hcl : c.c 1 = false) (hfit : (c.L 0).length + lb.length ≤ 131072) (hbase : base ≤ w.heap.size) :
    Calls Try.prog 25 #[.pointer (some ⟨X, 0, none⟩), .int .i64 id, .int .i64 node, .slice a lb.length cap] w fun e w' => e = .returned (.int .i64 0) ∧ ∃ g' r', Hid (r'.C = (R c.id).C) ∧ Hid (RCon w' g' r' (c.rows 0 (c.L 0 ++ lb)) (T + lb.length)) ∧ Hid (Ty w w' g g' (fun t => t = (2, c.id))) := by
  obtain ⟨hmem, hid⟩ := Nm.get_some hg
  have hcon := h.con c hmem
  have HG := hide hg
  have HH := hide h
  have hn : M.cs.length ≤ 1000000 := Nat.le_trans hM.few (by omega)
  have hld : (c.L 0).length = ((R c.id).S 1).length - (R c.id).m 1 := by rw [hcon.d1, List.length_drop]
  have hm := hcon.m1
  have ht := hcon.t1
  obtain ⟨l1, hl1⟩ : ∃ l1, l1 = (c.L 0).length := ⟨_, rfl⟩
  have HW : Hid (∀ v : World, Below w.heap.size w v → Calls Try.prog 50 #[.pointer (some ⟨(R c.id).C, 0, none⟩), .int .i64 1] v fun e w' => e = .returned (.int .i64 (l1 : Int)) ∧ Below v.heap.size v w') := fun v hv => way_1 _ _ _ _ _ _ _ _ _ _ _ _ _ _ l1 v (hcon.cells.below hv) (by omega) (by omega) (by omega)
  have hfit' : ¬ ((131072 : Int) - (l1 : Int) < (lb.length : Int)) := by omega
  have hl2 : l1 ≤ 131072 := by omega
  obtain ⟨z0, z1, z2, z3, z4, z5, z6, z7, z8⟩ := hcon.cells.cells
  rw [hcl] at z8
  have HCN := hide hcon
  have HHM := hide hm
  have HHT := hide ht
  clear hl1 hld hm ht hg h hcon
  go_enter Try.func25, Try.ntmps25
  go_wp2_with fail
  refine (rfind_some (unhide HH) hn (unhide HG)).mono ?_
  rintro e w1 ⟨rfl, hw1⟩
  have hw1 := hw1.symm
  subst hw1
  go_wp2_with fail
  refine (end_r _ _ _ _ _ _ _ _ _ _ _ _ _ _ node 1 w (unhide HCN).cells (by show _ = _; have := hsd; unfold Cn.side at this; exact this.symm)).mono ?_
  rintro e w1 ⟨rfl, hw1⟩
  have hw1 := hw1.symm
  subst hw1
  go_wp2_with fail
  refine (unhide HW w (Below.refl _ _)).mono ?_
  rintro e w2 ⟨rfl, hb2⟩
  have hrc := (unhide HCN).cells.below hb2
  obtain ⟨y0, y1, y2, y3, y4, y5, y6, y7, y8⟩ := hrc.cells
  rw [hcl] at y8
  clear z0 z1 z2 z3 z4 z5 z6 z7 z8
  go_upto_region 11 with fail
  have hbA : Below w2.heap.size w2 (w2.alloc (.cells #[] 5)).drew := ((Below.refl _ w2).alloc (Nat.le_refl _) _).drew
  have ya : (w2.alloc (.cells #[] 5)).drew.cell? ⟨(R c.id).C, 4, none⟩ = some (.slice ((R c.id).x 1) ((R c.id).S 1).length ((R c.id).k 1)) := (hbA.cell hrc.lt).trans y4
  have HE : Hid (Cmg (w2.alloc (.cells #[] 5)).drew w2.heap.size (some ⟨w2.heap.size, 0, none⟩) 0 []) := ((own_empty w2 w2.heap.size (Nat.le_refl _)).toCmg).below ((Below.refl _ _).drew) (Nat.le_refl _)
  have HBi := hide (((unhide HCN).b1.below hb2 (Nat.le_refl _)).below hbA (Nat.le_refl _))
  have HBA := hide hbA
  have HB2 := hide hb2
  have HRC := hide hrc
  have HS2 := hide (hs.below hb2 (Nat.le_refl _))
  have HSZ : Hid (w2.heap.size ≤ (w2.alloc (.cells #[] 5)).drew.heap.size) := hbA.size
  have hlt2 := unhide HHM
  have hlt3 := unhide HHT
  clear hbA hb2 hrc hs
  go_region_law (first
    | (refine stp_appc _ rfl _ _ rfl w2.heap.size (some ⟨w2.heap.size, 0, none⟩) 0 [] _ rfl rfl (unhide HE) ((R c.id).x 1) ((R c.id).k 1) ((R c.id).S 1) _ rfl rfl (unhide HBi).row (unhide HBi).nz (by simp; omega) (unhide HSZ) ?_; intro x3 k3 r3 w3 hr3 ho3 hg3 hf3; have HB3 : Hid (Below w2.heap.size w2 w3) := (unhide HBA).grown (unhide hg3) (unhide HSZ) (fun k hk => by simp [blk] at hk; omega); have HS3 := hide ((unhide HS2).below (unhide HB3) (Nat.le_refl _)); have hr3l : r3.length = ((R c.id).S 1).length := (by rw [unhide hr3]; simp); have HR3 := hide hr3l; have hz3 : r3.length ≤ 120000000 := (by omega); clear hr3l)
    | (refine stp_appc _ rfl _ _ rfl w2.heap.size x3 k3 r3 _ rfl rfl (unhide ho3) a cap lb _ rfl rfl (unhide HS3).row (unhide HS3).nz (by omega) (unhide HB3).size ?_; intro x4 k4 r4 w4 hr4 ho4 hg4 hf4; have HB4 : Hid (Below w2.heap.size w2 w4) := (unhide HB3).grown (unhide hg4) (unhide HB3).size (fun k hk => ((unhide ho3).lt k hk).1); have y4 : w4.cell? ⟨(R c.id).C, 4, none⟩ = some (.slice ((R c.id).x 1) ((R c.id).S 1).length ((R c.id).k 1)) := ((unhide HB4).cell (unhide HRC).lt).trans y4; have f4 : w4.frozen? ⟨(R c.id).C, 4, none⟩ = false := ((unhide HRC).below (unhide HB4)).fr _))
  all_goals
    go_wp2
    go_ret
    have hr : r4 = (R c.id).S 1 ++ lb := by rw [unhide hr4, unhide hr3, List.nil_append]
    exact ⟨rfl, rsent_1 (unhide HCN) ((unhide HB2).trans ((unhide HB4).mono (unhide HB2).size)) hr (unhide ho4) (unhide HB2).size⟩

#print axioms rsend_1
end Go.Proofs.Ytohlmfiicfoimaa
