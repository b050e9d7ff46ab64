/-
  link: THE WALK of does, a call on both nets.
-/
import Derived.Test.YtohlmfiicfoimaaLdC
set_option linter.unusedVariables false
set_option maxRecDepth 100000
namespace Go.Proofs.Ytohlmfiicfoimaa
open Go.RowKit Go.Maps


set_option maxHeartbeats 8000000 in
theorem does_4 : DoesK 4 := by
  intro w0 w N bm X M T Z h hM hl hT d x c hd hlen hr
  have hr8 : wrap64 ((IntKind.u64.wrap d.o).tmod 8) = 4 := by rw [(op8e d.o).1, hr]; rfl
  obtain ⟨W, hW⟩ : ∃ W, W = w.alloc (.cells #[.int .i64 d.o, .int .i64 d.i, .int .i64 d.a, .int .i64 d.b, .slice x d.l.length c] 33) := ⟨_, rfl⟩
  have hbW : Below w.heap.size w W := by rw [hW]; exact (Below.refl _ _).alloc (Nat.le_refl _) _
  have hbox : W.heap[w.heap.size]? = some (.cells #[.int .i64 d.o, .int .i64 d.i, .int .i64 d.a, .int .i64 d.b, .slice x d.l.length c] 33 (0, 0)) := by rw [hW]; exact heap_alloc_new w _
  have hwl : w.heap.size < W.heap.size := (Array.getElem?_eq_some_iff.1 hbox).1
  have z4 : W.cell? ⟨w.heap.size, 4, none⟩ = some (.slice x d.l.length c) := by rw [cell_of_row W w.heap.size 4 _ _ _ hbox]; rfl
  have HBd := hide (hd.l.below h.bel (Nat.le_refl _) |>.below hbW (Nat.le_refl _))
  have HV := hide hd
  have HH := hide h
  have HBW := hide hbW
  have HBX := hide hbox
  have HST : Hid (stM M d = crM M d.i d.a d.b) := by show _ = _; unfold stM; rw [hr] <;> rfl
  clear h hd hbW hbox hr
  go_enter Try.func9, Try.ntmps9
  go_wp2_with fail
  rw [← hW]
  refine (sclone_any x d.l.length c d.l W (unhide HBd) rfl (by omega)).mono ?_
  rintro e w1 ⟨y, cy, ll, rfl, hll, ho1, hb1⟩
  have HDK : Hid (DK w0 w w1 w.heap.size N bm X M M T Z d x c y cy ll) := by
    have hb2 : Below w.heap.size w w1 := (unhide HBW).trans (hb1.mono (unhide HBW).size)
    refine ⟨((unhide HH).fresh hb2).sub ?_, (hb1.block _ hwl).trans (unhide HBX), ho1.base (unhide HBW).size, Nat.le_refl _, fun e => ?_, ZS.of (unhide HH) hb2⟩
    · rintro b (hb | rfl | hb)
      · exact .inl hb
      · exact .inr ⟨Nat.le_refl _, by have := hb1.size; omega⟩
      · have := ho1.lt b hb; exact .inr ⟨by omega, this.2⟩
    · have := (ho1.lt _ e).1; omega
  have hyl := ho1.lt
  have hcl : ll.length = d.l.length := by rw [unhide hll]
  have HCL := hide hcl
  have HLL := hide (unhide hll)
  have HYL := hide hyl
  clear ho1 hb1 hll hyl hcl z4 hW
  obtain ⟨z0, z1, z2, z3, z4⟩ := (unhide HDK).cells
  have hm1 : d.b ≤ 9223372036854775807 := by have := (unhide HV).b; simp [Lit.wf, IntKind.min, IntKind.max, IntKind.bits, IntKind.signed] at this; omega
  go_wp2_with fail
  refine (np_carry (unhide HDK).nq hM d.i d.a d.b (unhide HV).i hm1).mono ?_
  rintro e w2 ⟨xp, kp, r, rfl, HR2, HO2, HQ2, HS2⟩
  have hB1 : w.heap.size < w1.heap.size := (Array.getElem?_eq_some_iff.1 (unhide HDK).box).1
  have HD2 : Hid (DK w0 w w2 w.heap.size N bm X (crM M d.i d.a d.b) M T Z d x c xp kp r) := by
    refine ⟨(unhide HQ2).sub ?_, ((unhide HS2).2 _ (.inr (.inl rfl))).trans (unhide HDK).box, (unhide HO2).base (by omega), Nat.le_refl _, fun e => ?_, (unhide HDK).zs.trans ((unhide HS2).sub (fun b hb => .inl hb))⟩
    · rintro b (hb | hb | hb)
      · exact .inl (.inl hb)
      · exact .inl (.inr (.inl hb))
      · exact .inr hb
    · have := ((unhide HO2).lt _ e).1; omega
  obtain ⟨y0, y1, y2, y3, y4⟩ := (unhide HD2).cells
  clear z0 z1 z2 z3 z4 HQ2 HS2 HO2
  obtain ⟨E1, hE1⟩ : ∃ E1, E1 = crE M d.i d.a d.b := ⟨_, rfl⟩
  rw [← hE1]
  have HE1 := hide hE1
  clear hE1
  go_wp2_with fail
  refine (nr_carry (unhide HD2).nq hM (by omega) d.i d.a d.b).mono ?_
  rintro e w3 ⟨xq, kq, r3, rfl, HR3, HO3, HQ3, HS3⟩
  rw [← unhide HE1]
  have HD3 := hide ((unhide HD2).move (unhide HQ3) (unhide HS3))
  obtain rfl : r3 = r := (unhide HR3).trans (unhide HR2).symm
  clear HQ3 HS3 y0 y1 y2 y3 y4 HR3
  have hrl : r3.length ≤ 131072 := by
    rw [unhide HR2]
    unfold crB
    split
    · simp
    · rename_i cc hg
      have hmo := hM.most cc (Nm.get_some hg).1
      split
      · rw [List.length_take]
        have hle := cc.at_le d.a
        rcases (by omega : cc.at d.a = 0 ∨ cc.at d.a = 1) with e | e <;> rw [e] <;> omega
      · simp
  go_wp2_with fail
  refine (eqs_n xp kp r3 xq kq r3 r3.length r3.length w3 (unhide HD3).row.toBs.row (unhide HO3).row rfl rfl (by omega) (by omega)).mono ?_
  rintro e w4 ⟨rfl, hb4⟩
  have heq : (r3 == r3) = true := beq_self_eq_true _
  rw [heq]
  have HD4 := hide ((unhide HD3).below hb4)
  clear heq hb4 HD3
  have HZ := hide (fun b (hb : Z b) => ((unhide HH).zlt hb).2)
  have HA4 := hide ((unhide HD4).below ((Below.refl w4.heap.size w4).alloc (Nat.le_refl _) (.cells #[.int .u8 7] 5)))
  have HW4 : Hid (w.heap.size ≤ (w4.alloc (.cells #[.int .u8 7] 5)).heap.size) := (unhide HA4).zs.1
  go_wp2_with (at_builtin; refine wp_app2 _ rfl _ _ rfl w.heap.size xp kp r3 rfl (unhide HA4).row (some ⟨w4.heap.size, 0, none⟩) 1 [7] _ rfl rfl (row_lit _ _ 7 rfl) (fun h => by cases h) ?c5 ?c6 ?_)
  case c5 => simp; omega
  case c6 => exact unhide HW4
  intro x5 k5 r5 w5 hr5 ho5 hg5 hf5
  have HD5 : Hid (DK w0 w w5 w.heap.size N bm X (crM M d.i d.a d.b) (crM M d.i d.a d.b) T Z d x c x5 k5 r5) := by
    have hA := unhide HA4
    have hk : Kp (w4.alloc (.cells #[.int .u8 7] 5)) w5 (fun b => Z b ∨ b = w.heap.size ∨ blk xp = some b) := Kp.ofG hg5 (fun k hk => .inr (.inr hk))
    have hq := hA.nq.wroteF hk
    have hbl : w.heap.size < (w4.alloc (.cells #[.int .u8 7] 5)).heap.size := (Array.getElem?_eq_some_iff.1 hA.box).1
    have hl5 := ho5.lt
    refine ⟨hq.sub ?_, (hg5.block _ hbl (fun e => hA.ne e.symm)).trans hA.box, ho5, Nat.le_refl _, fun e => ?_, hA.zs.trans ⟨hg5.size, fun b hb => hg5.block b ?_ ?_⟩⟩
    · rintro b (hb | hb | hb)
      · exact .inl (.inl hb)
      · exact .inl (.inr (.inl hb))
      · rcases unhide hf5 with rfl | h7
        · exact .inl (.inr (.inr hb))
        · exact .inr ⟨by have h10 := h7 b hb; simp at h10 ⊢; omega, (hl5 b hb).2⟩
    · rcases unhide hf5 with rfl | h7
      · exact hA.ne e
      · have h10 := h7 _ e; simp at h10 hbl; omega
    · have h8 := unhide HZ b hb; omega
    · intro e
      have h8 := unhide HZ b hb
      have h9 := (hA.row.lt b e.symm).1
      omega
  have hr5l : r5.length ≤ 200000 := by rw [unhide hr5, List.length_append]; simp; omega
  clear hr5 ho5 hg5 hf5 HA4 HD4
  obtain ⟨L, hL⟩ : ∃ L, L = r5.length := ⟨_, rfl⟩
  rw [← hL] at hr5l ⊢
  have HLr := hide hL.symm
  clear hL
  go_wp2
  go_loopw [129] (fun v wr => ∃ (k : Nat) (q : List UInt8), k ≤ L ∧ v = .int .i64 (k : Int) ∧ Hid (q.length = L) ∧ Hid (DK w0 w wr w.heap.size N bm X (crM M d.i d.a d.b) (crM M d.i d.a d.b) T Z d x c x5 k5 q)) (fun v _ => L - (intOf v).toNat)
  case atStart => exact ⟨0, r5, Nat.zero_le _, rfl, HLr, HD5⟩
  case round =>
    obtain ⟨k, q, hk, rfl, HQL, HDq⟩ := hrel
    by_cases hlt : k < L
    · obtain ⟨gy, hy, hgy1, hgy2, hcy, hfy⟩ := (unhide HDq).row.some (by rw [unhide HQL]; omega)
      subst hy
      have c0 := hcy k (by rw [unhide HQL]; exact hlt)
      have f0 := hfy k
      have hk2 : (k : Int) < (L : Int) := by omega
      have HST2 := hide ((unhide HDq).store (unhide HZ) k (q.getD k 0 ^^^ 255))
      have hx : bits .xor .u8 ((q.getD k 0).toNat : Int) 255 = ((q.getD k 0 ^^^ 255).toNat : Int) := u8xn (q.getD k 0) 255
      have HQ3 : Hid ((q.set k (q.getD k 0 ^^^ 255)).length = L) := by show _ = _; rw [List.length_set]; exact unhide HQL
      generalize q.set k (q.getD k 0 ^^^ 255) = qq at *
      generalize q.getD k 0 = v1 at *
      generalize v1 ^^^ 255 = v3 at *
      clear hcy hfy HDq HQL
      go_wp2
      go_roundw
      case rel => exact ⟨k + 1, qq, by omega, by go_num, HQ3, HST2⟩
      case measure => simp [intOf]; omega
    · have hk2 : ¬ (k : Int) < (L : Int) := by omega
      clear hlt
      have q1 : (E1 == E1) = true := beq_self_eq_true _
      have HE : Hid (NQ w0 wr N bm X (stM M d) (stM M d) (T + d.l.length) Z ∧ ZS w wr Z) := by
        refine ⟨?_, (unhide HDq).zs⟩
        rw [unhide HST]
        exact (unhide HDq).end.up (Nat.le_add_right _ _)
      go_wp2
      go_ret
      exact ⟨rfl, (unhide HE).1, (unhide HE).2⟩
#print axioms does_4
end Go.Proofs.Ytohlmfiicfoimaa
