/-
  link: THE WALK of does, a call on both nets.
-/
import Derived.Test.YtohlmfiicfoimaaLdC
set_option linter.unusedVariables false
set_option maxRecDepth 100000
namespace Go.Proofs.Ytohlmfiicfoimaa
open Go.RowKit Go.Maps


set_option maxHeartbeats 8000000 in
theorem does_7 : DoesK 7 := by
  intro w0 w N bm X M T Z h hM hl hT d x c hd hlen hr
  have hr8 : wrap64 ((IntKind.u64.wrap d.o).tmod 8) = 7 := by rw [(op8e d.o).1, hr]; rfl
  obtain ⟨W, hW⟩ : ∃ W, W = w.alloc (.cells #[.int .i64 d.o, .int .i64 d.i, .int .i64 d.a, .int .i64 d.b, .slice x d.l.length c] 33) := ⟨_, rfl⟩
  have hbW : Below w.heap.size w W := by rw [hW]; exact (Below.refl _ _).alloc (Nat.le_refl _) _
  have hbox : W.heap[w.heap.size]? = some (.cells #[.int .i64 d.o, .int .i64 d.i, .int .i64 d.a, .int .i64 d.b, .slice x d.l.length c] 33 (0, 0)) := by rw [hW]; exact heap_alloc_new w _
  have hwl : w.heap.size < W.heap.size := (Array.getElem?_eq_some_iff.1 hbox).1
  have z4 : W.cell? ⟨w.heap.size, 4, none⟩ = some (.slice x d.l.length c) := by rw [cell_of_row W w.heap.size 4 _ _ _ hbox]; rfl
  have HBd := hide (hd.l.below h.bel (Nat.le_refl _) |>.below hbW (Nat.le_refl _))
  have HV := hide hd
  have HH := hide h
  have HBW := hide hbW
  have HBX := hide hbox
  have HST : Hid (stM M d = drM M d.a) := by show _ = _; unfold stM; rw [hr] <;> rfl
  clear h hd hbW hbox hr
  go_enter Try.func9, Try.ntmps9
  go_wp2_with fail
  rw [← hW]
  refine (sclone_any x d.l.length c d.l W (unhide HBd) rfl (by omega)).mono ?_
  rintro e w1 ⟨y, cy, ll, rfl, hll, ho1, hb1⟩
  have HDK : Hid (DK w0 w w1 w.heap.size N bm X M M T Z d x c y cy ll) := by
    have hb2 : Below w.heap.size w w1 := (unhide HBW).trans (hb1.mono (unhide HBW).size)
    refine ⟨((unhide HH).fresh hb2).sub ?_, (hb1.block _ hwl).trans (unhide HBX), ho1.base (unhide HBW).size, Nat.le_refl _, fun e => ?_, ZS.of (unhide HH) hb2⟩
    · rintro b (hb | rfl | hb)
      · exact .inl hb
      · exact .inr ⟨Nat.le_refl _, by have := hb1.size; omega⟩
      · have := ho1.lt b hb; exact .inr ⟨by omega, this.2⟩
    · have := (ho1.lt _ e).1; omega
  have hyl := ho1.lt
  have hcl : ll.length = d.l.length := by rw [unhide hll]
  have HCL := hide hcl
  have HLL := hide (unhide hll)
  have HYL := hide hyl
  clear ho1 hb1 hll hyl hcl z4 hW
  obtain ⟨z0, z1, z2, z3, z4⟩ := (unhide HDK).cells
  have HDd := hide ((unhide HDK).below ((Below.refl w1.heap.size w1).drew))
  obtain ⟨E1, hE1⟩ : ∃ E1, E1 = drN M d.a := ⟨_, rfl⟩
  have HE1 := hide hE1
  clear hE1
  go_upto_region 33 with fail
  go_region_held3 (fun w' => w'.cell? ⟨w.heap.size, 2, none⟩ = some (.int .i64 d.a)) (first | exact S3 | exact S2 | exact z2 | go_keep) ((first
    | (go_at_call 15; refine (nr_drop (unhide HDp).nq hM (by omega) d.a).mono ?_; rintro e w3 ⟨rfl, HQ3, HS3⟩; have HD3 := hide ((unhide HDp).move (unhide HQ3) (unhide HS3)); have S3 : w3.cell? ⟨w.heap.size, 2, none⟩ = some (.int .i64 d.a) := (unhide HD3).cells.2.2.1; rw [← unhide HE1])
    | (go_at_call 14; refine (np_drop (unhide HDr).nq hM d.a).mono ?_; rintro e w3 ⟨rfl, HQ3, HS3⟩; have HD3 := hide ((unhide HDr).move (unhide HQ3) (unhide HS3)); have S3 : w3.cell? ⟨w.heap.size, 2, none⟩ = some (.int .i64 d.a) := (unhide HD3).cells.2.2.1; rw [← unhide HE1])
    | (go_at_call 14; refine (np_drop (unhide HDd).nq hM d.a).mono ?_; rintro e w2 ⟨rfl, HQ2, HS2⟩; have HDp := hide ((unhide HDd).move (unhide HQ2) (unhide HS2)); have S2 : w2.cell? ⟨w.heap.size, 2, none⟩ = some (.int .i64 d.a) := (unhide HDp).cells.2.2.1; rw [← unhide HE1])
    | (go_at_call 15; refine (nr_drop (unhide HDd).nq hM (by omega) d.a).mono ?_; rintro e w2 ⟨rfl, HQ2, HS2⟩; have HDr := hide ((unhide HDd).move (unhide HQ2) (unhide HS2)); have S2 : w2.cell? ⟨w.heap.size, 2, none⟩ = some (.int .i64 d.a) := (unhide HDr).cells.2.2.1; rw [← unhide HE1])))
  all_goals
    have q1 : (E1 == E1) = true := beq_self_eq_true _
    have HE : Hid (NQ w0 w3 N bm X (stM M d) (stM M d) (T + d.l.length) Z ∧ ZS w w3 Z) := by
      refine ⟨?_, (unhide HD3).zs⟩
      rw [unhide HST]
      exact (unhide HD3).end.up (Nat.le_add_right _ _)
    clear HQ2 HS2 HQ3 HS3
    go_wp2
    go_ret
    exact ⟨rfl, (unhide HE).1, (unhide HE).2⟩
#print axioms does_7
end Go.Proofs.Ytohlmfiicfoimaa
