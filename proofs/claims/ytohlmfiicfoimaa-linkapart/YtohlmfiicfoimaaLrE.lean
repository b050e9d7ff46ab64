/-
  link, the document's own net: Carry to end 0.
-/
import Derived.Test.YtohlmfiicfoimaaLrD
set_option linter.unusedVariables false
namespace Go.Proofs.Ytohlmfiicfoimaa
open Go.RowKit Go.Maps

set_option maxHeartbeats 4000000 in
theorem rcarry_0 {w : World} {g : Nat → Tag} {X base : Nat} {M : Nm} {R : Nat → Rg} {T : Nat} {la : Option Addr} {lc : Nat} (h : RNL w g X base M R T la lc) (hM : Mok M) (hT : T ≤ 120000000) (hfr : Fr g w) (id node m : Int) {c : Cn} (hg : M.get id = some c) (hsd : c.side node = 0) (hm0 : 0 ≤ m) (hbase : base ≤ w.heap.size) (K : Nat) (HK : Hid (K = min m.toNat (c.L 0).length)) :
    Calls Try.prog 26 #[.pointer (some ⟨X, 0, none⟩), .int .i64 id, .int .i64 node, .int .i64 m] w fun e w' => ∃ x' k' r, e = .returned (.tuple #[.slice x' r.length k', .int .i64 0]) ∧ Hid (r = (c.L 0).take K) ∧ Hid (Bs w' x' k' r) ∧ ∃ g' R', Hid (RN w' g' X base (M.set (c.rows 0 ((c.L 0).drop K))).keep R' T) ∧ Hid (Ty w w' g g' (fun t => t = (2, c.id) ∨ t = (4, 0))) := by
  obtain ⟨hmem, hid⟩ := Nm.get_some hg
  have hcon := h.con c hmem
  have HG := hide hg
  have HH := hide h
  have hn : M.cs.length ≤ 1000000 := Nat.le_trans hM.few (by omega)
  have hld : (c.L 0).length = ((R c.id).S 1).length - (R c.id).m 1 := by rw [hcon.d1, List.length_drop]
  have hm := hcon.m1
  have ht := hcon.t1
  obtain ⟨l1, hl1⟩ : ∃ l1, l1 = (c.L 0).length := ⟨_, rfl⟩
  have HW : Hid (∀ v : World, Below w.heap.size w v → Calls Try.prog 50 #[.pointer (some ⟨(R c.id).C, 0, none⟩), .int .i64 1] v fun e w' => e = .returned (.int .i64 (l1 : Int)) ∧ Below v.heap.size v w') := fun v hv => way_1 _ _ _ _ _ _ _ _ _ _ _ _ _ _ l1 v (hcon.cells.below hv) (by omega) (by omega) (by omega)
  have hKl : K ≤ l1 := by rw [unhide HK]; omega
  have hmin : (if (l1 : Int) < m then (l1 : Int) else m) = (K : Int) := by rw [unhide HK]; split <;> omega
  have hmneg : ¬ m < 0 := by omega
  have HJ1 : Hid (l1 = ((R c.id).S 1).length - (R c.id).m 1) := by show _ = _; omega
  obtain ⟨N, hN⟩ : ∃ N, N = (R c.id).m 1 + K := ⟨_, rfl⟩
  have hmk : N ≤ 120000000 := by omega
  have HCN := hide hcon
  have HL1 := hide hl1
  have hBj := hcon.b1
  obtain ⟨xc, hxc, hxB⟩ := cut_midl ((R c.id).x 1) ((R c.id).k 1) ((R c.id).m 1) N ((R c.id).S 1) hBj.le (by omega) (by omega) (fun hne => by obtain ⟨b, off, e, _⟩ := hBj.row hne; exact ⟨b, off, e⟩)
  have hlen : (((R c.id).S 1).take N).drop ((R c.id).m 1) = (c.L 0).take K := by
    rw [hN, hcon.d1, List.take_drop]
  rw [hlen] at hxB
  have HXB := hide (hxB w hBj)
  have hsub : N - (R c.id).m 1 = K := by omega
  rw [hsub] at hxc
  have htl : ((c.L 0).take K).length = K := by rw [List.length_take]; omega
  have HTL := hide htl
  have HN := hide hN
  have hadd : IntKind.i64.wrap (N : Int) = (N : Int) := by simp [IntKind.wrap, IntKind.bits, IntKind.signed]; omega
  have hadd2 : (((R c.id).m 1 : Nat) : Int) + (K : Int) = (N : Int) := by omega
  clear hN
  clear hl1 hld hg h hcon hxB hlen hBj hsub htl
  go_enter Try.func26, Try.ntmps26
  go_wp2_with fail
  refine (rfind_some (unhide HH) hn (unhide HG)).mono ?_
  rintro e w1 ⟨rfl, hw1⟩
  have hw1 := hw1.symm
  subst hw1
  go_wp2_with fail
  refine (end_r _ _ _ _ _ _ _ _ _ _ _ _ _ _ node 0 w (unhide HCN).cells (by show _ = _; have := hsd; unfold Cn.side at this; exact this.symm)).mono ?_
  rintro e w1 ⟨rfl, hw1⟩
  have hw1 := hw1.symm
  subst hw1
  go_wp2_with fail
  refine (unhide HW w (Below.refl _ _)).mono ?_
  rintro e w2 ⟨rfl, hb2⟩
  have hrc := (unhide HCN).cells.below hb2
  obtain ⟨y0, y1, y2, y3, y4, y5, y6, y7, y8⟩ := hrc.cells
  go_upto_region 9 with fail
  have hbA : Below w2.heap.size w2 (w2.alloc (.cells #[] 5)).drew := ((Below.refl _ w2).alloc (Nat.le_refl _) _).drew
  have ya : (w2.alloc (.cells #[] 5)).drew.cell? ⟨(R c.id).C, 4, none⟩ = some (.slice ((R c.id).x 1) ((R c.id).S 1).length ((R c.id).k 1)) := (hbA.cell hrc.lt).trans y4
  have yb : (w2.alloc (.cells #[] 5)).drew.cell? ⟨(R c.id).C, 6, none⟩ = some (.int .i64 ((R c.id).m 1 : Nat)) := (hbA.cell hrc.lt).trans y6
  have HE : Hid (Cmg (w2.alloc (.cells #[] 5)).drew w2.heap.size (some ⟨w2.heap.size, 0, none⟩) 0 []) := ((own_empty w2 w2.heap.size (Nat.le_refl _)).toCmg).below ((Below.refl _ _).drew) (Nat.le_refl _)
  have HBi := hide (((unhide HXB).below hb2 (Nat.le_refl _)).below hbA (Nat.le_refl _))
  have HBA := hide hbA
  have HB2 := hide hb2
  have HRC := hide hrc
  have HSZ : Hid (w2.heap.size ≤ (w2.alloc (.cells #[] 5)).drew.heap.size) := hbA.size
  have hx1 := hxc w2
  clear hbA hb2 hrc
  have hx2 := hxc (w2.alloc (.cells #[] 5)).drew
  go_cut [14] (fun s14 wx => ∃ x4 k4 r4, s14 = .slice x4 r4.length k4 ∧ Hid (r4 = (c.L 0).take K) ∧ Hid (Cmg wx w2.heap.size x4 k4 r4) ∧ Hid (Below w2.heap.size w2 wx))
  case first =>
    go_region_law (first
      | (refine stp_appc _ rfl _ _ rfl w2.heap.size (some ⟨w2.heap.size, 0, none⟩) 0 [] _ rfl rfl (unhide HE) xc ((R c.id).k 1 - (R c.id).m 1) ((c.L 0).take K) _ rfl (unhide HTL).symm (unhide HBi).row (unhide HBi).nz (by simp; omega) (unhide HSZ) ?_; intro x3 k3 r3 w3 hr3 ho3 hg3 hf3; have HB3 : Hid (Below w2.heap.size w2 w3) := (unhide HBA).grown (unhide hg3) (unhide HSZ) (fun k hk => by simp [blk] at hk; omega)))
    all_goals
      go_wp2_with fail
      go_meet
      exact ⟨x3, k3, r3, rfl, by show _ = _; rw [unhide hr3, List.nil_append], ho3, HB3⟩
  case rest =>
    obtain ⟨x4, k4, r4, rfl, HR4, HO4, HB4⟩ := hcut
    have hrc4 := (unhide HRC).below (unhide HB4)
    obtain ⟨z0, z1, z2, z3, z4, z5, z6, z7, z8⟩ := hrc4.cells
    have fz := hrc4.fr 6
    have HB5 : Hid (Below w.heap.size w wc) := (unhide HB2).trans ((unhide HB4).mono (unhide HB2).size)
    clear hx1 hx2 ya yb y0 y1 y2 y3 y4 y5 y6 y7 y8
    go_upto_region 11 with go_region
    obtain ⟨hrcon, hty⟩ := rcame_1 (unhide HCN) (unhide HB5) (K := K) (by rw [← unhide HL1]; exact hKl) (z := (N : Int)) (by rw [unhide HN])
    have hset := (unhide HH).set1 (c' := c.rows 0 ((c.L 0).drop K)) (r' := ⟨(R c.id).C, (R c.id).x, (R c.id).k, (R c.id).S, upd (R c.id).m 1 ((R c.id).m 1 + K)⟩) rfl hty hrcon (Nat.le_refl _)
    have HO6 : Hid (Bs (wc.setCell ⟨(R c.id).C, 6, none⟩ (.int .i64 (N : Int))).drew x4 k4 r4) := (((unhide HO4).kept (gset' wc ⟨(R c.id).C, 6, none⟩ (.int .i64 (N : Int))) (fun b hb e => by simp at e; subst e; have h1 := ((unhide HO4).lt _ hb).1; have h2 := (unhide HRC).lt; omega)).toBs).below ((Below.refl _ _).drew) (Nat.le_refl _)
    have hsz6 : (wc.setCell ⟨(R c.id).C, 6, none⟩ (.int .i64 (N : Int))).drew.heap.size = wc.heap.size := by simp [World.setCell]
    have HSET := hide (hset.below (w' := (wc.setCell ⟨(R c.id).C, 6, none⟩ (.int .i64 (N : Int))).drew) ((Below.refl _ _).drew))
    have HTY := hide (hty.trans (Ty.of g (S := fun t => t = (2, c.id)) ((Below.refl (wc.setCell ⟨(R c.id).C, 6, none⟩ (.int .i64 (N : Int))).heap.size (wc.setCell ⟨(R c.id).C, 6, none⟩ (.int .i64 (N : Int)))).drew)))
    have hlt4 := (unhide HO4).lt
    have HLT4 := hide hlt4
    have hszc := (unhide HB5).size
    have hszw := (unhide HB2).size
    generalize (wc.setCell ⟨(R c.id).C, 6, none⟩ (.int .i64 (N : Int))).drew = V at *
    clear hrcon hty hset fz z0 z1 z2 z3 z4 z5 z6 z7 z8 hrc4 hlt4
    go_wp2_with fail
    refine (rkeep (unhide HSET) (by show (M.cs.map _).length ≤ 1000000; rw [List.length_map]; exact hn) (by omega) (by omega)).mono ?_
    rintro e w7 ⟨rfl, g7, la7, lc7, HR7, HT7⟩
    go_wp2
    go_ret2
    refine ⟨x4, k4, r4, rfl, HR4, ?_, g7, _, ⟨la7, lc7, unhide HR7⟩, ((unhide HTY).mono (fun t h => .inl h)).trans ((unhide HT7).mono (fun t h => .inr h))⟩
    refine (unhide HO6).kpn (unhide HT7).kp (fun hne b hb => ?_)
    have h1 := (unhide HLT4) b hb
    rw [hfr b (by omega)]
    simp
#print axioms rcarry_0
end Go.Proofs.Ytohlmfiicfoimaa
