/-
  link: THE WALK of does, a call on both nets.
-/
import Derived.Test.YtohlmfiicfoimaaLdC
set_option linter.unusedVariables false
set_option maxRecDepth 100000
namespace Go.Proofs.Ytohlmfiicfoimaa
open Go.RowKit Go.Maps


set_option maxHeartbeats 8000000 in
theorem does_2 : DoesK 2 := by
  intro w0 w N bm X M T Z h hM hl hT d x c hd hlen hr
  have hr8 : wrap64 ((IntKind.u64.wrap d.o).tmod 8) = 2 := by rw [(op8e d.o).1, hr]; rfl
  obtain ⟨W, hW⟩ : ∃ W, W = w.alloc (.cells #[.int .i64 d.o, .int .i64 d.i, .int .i64 d.a, .int .i64 d.b, .slice x d.l.length c] 33) := ⟨_, rfl⟩
  have hbW : Below w.heap.size w W := by rw [hW]; exact (Below.refl _ _).alloc (Nat.le_refl _) _
  have hbox : W.heap[w.heap.size]? = some (.cells #[.int .i64 d.o, .int .i64 d.i, .int .i64 d.a, .int .i64 d.b, .slice x d.l.length c] 33 (0, 0)) := by rw [hW]; exact heap_alloc_new w _
  have hwl : w.heap.size < W.heap.size := (Array.getElem?_eq_some_iff.1 hbox).1
  have z4 : W.cell? ⟨w.heap.size, 4, none⟩ = some (.slice x d.l.length c) := by rw [cell_of_row W w.heap.size 4 _ _ _ hbox]; rfl
  have HBd := hide (hd.l.below h.bel (Nat.le_refl _) |>.below hbW (Nat.le_refl _))
  have HV := hide hd
  have HH := hide h
  have HBW := hide hbW
  have HBX := hide hbox
  have HST : Hid (stM M d = sdM M d.i d.a d.l) := by show _ = _; unfold stM; rw [hr] <;> rfl
  clear h hd hbW hbox hr
  go_enter Try.func9, Try.ntmps9
  go_wp2_with fail
  rw [← hW]
  refine (sclone_any x d.l.length c d.l W (unhide HBd) rfl (by omega)).mono ?_
  rintro e w1 ⟨y, cy, ll, rfl, hll, ho1, hb1⟩
  have HDK : Hid (DK w0 w w1 w.heap.size N bm X M M T Z d x c y cy ll) := by
    have hb2 : Below w.heap.size w w1 := (unhide HBW).trans (hb1.mono (unhide HBW).size)
    refine ⟨((unhide HH).fresh hb2).sub ?_, (hb1.block _ hwl).trans (unhide HBX), ho1.base (unhide HBW).size, Nat.le_refl _, fun e => ?_, ZS.of (unhide HH) hb2⟩
    · rintro b (hb | rfl | hb)
      · exact .inl hb
      · exact .inr ⟨Nat.le_refl _, by have := hb1.size; omega⟩
      · have := ho1.lt b hb; exact .inr ⟨by omega, this.2⟩
    · have := (ho1.lt _ e).1; omega
  have hyl := ho1.lt
  have hcl : ll.length = d.l.length := by rw [unhide hll]
  have HCL := hide hcl
  have HLL := hide (unhide hll)
  have HYL := hide hyl
  clear ho1 hb1 hll hyl hcl z4 hW
  obtain ⟨z0, z1, z2, z3, z4⟩ := (unhide HDK).cells
  go_wp2_with fail
  refine (np_send (unhide HDK).nq hM d.i d.a (unhide HV).i y cy ll (unhide HDK).row.toBs (by rw [unhide HCL]; omega)).mono ?_
  rintro e w2 ⟨rfl, HQ2, HS2⟩
  have HD2 := hide ((unhide HDK).move (unhide HQ2) (unhide HS2))
  obtain ⟨y0, y1, y2, y3, y4⟩ := (unhide HD2).cells
  clear z0 z1 z2 z3 z4 HQ2 HS2
  obtain ⟨E1, hE1⟩ : ∃ E1, E1 = sdE M d.i d.a d.l.length := ⟨_, rfl⟩
  rw [unhide HCL, ← hE1]
  have HE1 := hide hE1
  clear hE1
  have HBs2 := hide ((unhide HV).l.below (unhide HD2).nq.bel (Nat.le_refl _))
  obtain ⟨L, hL⟩ : ∃ L, L = d.l.length := ⟨_, rfl⟩
  rw [← hL] at hlen y4 ⊢
  rw [← hL] at HCL
  have HL := hide hL
  have hL2 : L ≤ 262144 := by omega
  clear hL
  go_wp2_with fail
  refine (eqs_n y cy ll x c d.l L L w2 (unhide HD2).row.toBs.row (unhide HBs2).row (unhide HCL).symm (unhide HL) (by omega) (by omega)).mono ?_
  rintro e w3 ⟨rfl, hb3⟩
  have heq : (ll == d.l) = true := by rw [unhide HLL]; exact beq_self_eq_true _
  rw [heq]
  have HD3 := hide ((unhide HD2).below hb3)
  clear heq hb3 y0 y1 y2 y3 y4 HD2
  have HZ := hide (fun b (hb : Z b) => ((unhide HH).zlt hb).2)
  go_wp2
  go_loopw [73] (fun v wr => ∃ (k : Nat) (q : List UInt8), k ≤ L ∧ v = .int .i64 (k : Int) ∧ Hid (q.length = L) ∧ Hid (DK w0 w wr w.heap.size N bm X (sdM M d.i d.a ll) M T Z d x c y cy q)) (fun v _ => L - (intOf v).toNat)
  case atStart => exact ⟨0, ll, Nat.zero_le _, rfl, HCL, HD3⟩
  case round =>
    obtain ⟨k, q, hk, rfl, HQL, HDq⟩ := hrel
    by_cases hlt : k < L
    · obtain ⟨gy, hy, hgy1, hgy2, hcy, hfy⟩ := (unhide HDq).row.some (by rw [unhide HQL]; omega)
      subst hy
      have c0 := hcy k (by rw [unhide HQL]; exact hlt)
      have f0 := hfy k
      have hk2 : (k : Int) < (L : Int) := by omega
      have HST2 := hide ((unhide HDq).store (unhide HZ) k (q.getD k 0 ^^^ 255))
      have hx : bits .xor .u8 ((q.getD k 0).toNat : Int) 255 = ((q.getD k 0 ^^^ 255).toNat : Int) := u8xn (q.getD k 0) 255
      have HQ3 : Hid ((q.set k (q.getD k 0 ^^^ 255)).length = L) := by show _ = _; rw [List.length_set]; exact unhide HQL
      generalize q.set k (q.getD k 0 ^^^ 255) = qq at *
      generalize q.getD k 0 = v1 at *
      generalize v1 ^^^ 255 = v3 at *
      clear hcy hfy HDq HQL
      go_wp2
      go_roundw
      case rel => exact ⟨k + 1, qq, by omega, by go_num, HQ3, HST2⟩
      case measure => simp [intOf]; omega
    · have hk2 : ¬ (k : Int) < (L : Int) := by omega
      clear hlt
      obtain ⟨y0, y1, y2, y3, y4⟩ := (unhide HDq).cells
      have HBs3 := hide ((unhide HV).l.below (unhide HDq).nq.bel (Nat.le_refl _))
      rw [← unhide HL] at y4
      go_wp2_with fail
      rw [unhide HL]
      refine (nr_send (unhide HDq).nq hM (by omega) d.i d.a x c d.l (unhide HBs3) (by rw [← unhide HL]; omega)).mono ?_
      rintro e w4 ⟨rfl, HQ4, HS4⟩
      rw [← unhide HE1]
      have HD4 := hide ((unhide HDq).move (unhide HQ4) (unhide HS4))
      have q1 : (E1 == E1) = true := beq_self_eq_true _
      have HE : Hid (NQ w0 w4 N bm X (stM M d) (stM M d) (T + d.l.length) Z ∧ ZS w w4 Z) := by
        refine ⟨?_, (unhide HD4).zs⟩
        rw [unhide HST]
        have h5 := (unhide HD4).end
        rw [unhide HLL] at h5
        exact h5
      clear y0 y1 y2 y3 y4
      go_wp2
      go_ret
      exact ⟨rfl, (unhide HE).1, (unhide HE).2⟩
#print axioms does_2
end Go.Proofs.Ytohlmfiicfoimaa
