/-
  link: THE WALK of does, a call on both nets.
-/
import Derived.Test.YtohlmfiicfoimaaLdB
set_option linter.unusedVariables false
set_option maxRecDepth 100000
namespace Go.Proofs.Ytohlmfiicfoimaa
open Go.RowKit Go.Maps

/-- does, by the kind of the call. -/
def DoesK (r : Nat) : Prop := ∀ {w0 w : World} {N bm X : Nat} {M : Nm} {T : Nat} {Z : Nat → Prop} (h : NQ w0 w N bm X M M T Z) (hM : Mok M) (hl : M.last < 1000000) (hT : T ≤ 110000000) (d : Dl) (x : Option Addr) (c : Nat) (hd : DlV w0 d x c) (hlen : d.l.length ≤ 262144) (hr : (d.o % 8).toNat = r),
    Calls Try.prog 9 #[.pointer (some ⟨N, 0, none⟩), .pointer (some ⟨X, 0, none⟩), .agg #[.int .i64 d.o, .int .i64 d.i, .int .i64 d.a, .int .i64 d.b, .slice x d.l.length c]] w fun e w' => e = .returned (.bool true) ∧ Hid (NQ w0 w' N bm X (stM M d) (stM M d) (T + d.l.length) Z) ∧ Hid (ZS w w' Z)

set_option maxHeartbeats 8000000 in
theorem does_0 : DoesK 0 := by
  intro w0 w N bm X M T Z h hM hl hT d x c hd hlen hr
  have hr8 : wrap64 ((IntKind.u64.wrap d.o).tmod 8) = 0 := by rw [(op8e d.o).1, hr]; rfl
  obtain ⟨W, hW⟩ : ∃ W, W = w.alloc (.cells #[.int .i64 d.o, .int .i64 d.i, .int .i64 d.a, .int .i64 d.b, .slice x d.l.length c] 33) := ⟨_, rfl⟩
  have hbW : Below w.heap.size w W := by rw [hW]; exact (Below.refl _ _).alloc (Nat.le_refl _) _
  have hbox : W.heap[w.heap.size]? = some (.cells #[.int .i64 d.o, .int .i64 d.i, .int .i64 d.a, .int .i64 d.b, .slice x d.l.length c] 33 (0, 0)) := by rw [hW]; exact heap_alloc_new w _
  have hwl : w.heap.size < W.heap.size := (Array.getElem?_eq_some_iff.1 hbox).1
  have z4 : W.cell? ⟨w.heap.size, 4, none⟩ = some (.slice x d.l.length c) := by rw [cell_of_row W w.heap.size 4 _ _ _ hbox]; rfl
  have HBd := hide (hd.l.below h.bel (Nat.le_refl _) |>.below hbW (Nat.le_refl _))
  have HV := hide hd
  have HH := hide h
  have HBW := hide hbW
  have HBX := hide hbox
  have HST : Hid (stM M d = diM M d.a d.b) := by show _ = _; unfold stM; rw [hr] <;> rfl
  clear h hd hbW hbox hr
  go_enter Try.func9, Try.ntmps9
  go_wp2_with fail
  rw [← hW]
  refine (sclone_any x d.l.length c d.l W (unhide HBd) rfl (by omega)).mono ?_
  rintro e w1 ⟨y, cy, ll, rfl, hll, ho1, hb1⟩
  have HDK : Hid (DK w0 w w1 w.heap.size N bm X M M T Z d x c y cy ll) := by
    have hb2 : Below w.heap.size w w1 := (unhide HBW).trans (hb1.mono (unhide HBW).size)
    refine ⟨((unhide HH).fresh hb2).sub ?_, (hb1.block _ hwl).trans (unhide HBX), ho1.base (unhide HBW).size, Nat.le_refl _, fun e => ?_, ZS.of (unhide HH) hb2⟩
    · rintro b (hb | rfl | hb)
      · exact .inl hb
      · exact .inr ⟨Nat.le_refl _, by have := hb1.size; omega⟩
      · have := ho1.lt b hb; exact .inr ⟨by omega, this.2⟩
    · have := (ho1.lt _ e).1; omega
  have hyl := ho1.lt
  have hcl : ll.length = d.l.length := by rw [unhide hll]
  have HCL := hide hcl
  have HLL := hide (unhide hll)
  have HYL := hide hyl
  clear ho1 hb1 hll hyl hcl z4 hW
  obtain ⟨z0, z1, z2, z3, z4⟩ := (unhide HDK).cells
  go_wp2_with fail
  refine (np_dial (unhide HDK).nq hM hl d.a d.b).mono ?_
  rintro e w2 ⟨rfl, HQ2, HS2⟩
  have HD2 := hide ((unhide HDK).move (unhide HQ2) (unhide HS2))
  obtain ⟨y0, y1, y2, y3, y4⟩ := (unhide HD2).cells
  clear z0 z1 z2 z3 z4
  go_wp2_with fail
  refine (nr_dial (unhide HD2).nq hM hl d.a d.b).mono ?_
  rintro e w3 ⟨rfl, HQ3, HS3⟩
  have HD3 := hide ((unhide HD2).move (unhide HQ3) (unhide HS3))
  have HE : Hid (NQ w0 w3 N bm X (stM M d) (stM M d) (T + d.l.length) Z ∧ ZS w w3 Z) := by
    refine ⟨?_, (unhide HD3).zs⟩
    rw [unhide HST]
    exact (unhide HD3).end.up (Nat.le_add_right _ _)
  generalize diN M d.a d.b = n1
  generalize diE M d.a d.b = n2
  have q1 : (n1 == n1) = true := beq_self_eq_true _
  have q2 : (n2 == n2) = true := beq_self_eq_true _
  go_wp2
  go_ret
  exact ⟨rfl, (unhide HE).1, (unhide HE).2⟩
#print axioms does_0
end Go.Proofs.Ytohlmfiicfoimaa
