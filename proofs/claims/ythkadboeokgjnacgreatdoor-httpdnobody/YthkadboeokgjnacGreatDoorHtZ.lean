/-
  httpd: Parse, whatever the bytes (with what readHead answers).
-/
import Derived.Test.YthkadboeokgjnacGreatDoorHtY
set_option linter.unusedVariables false
set_option maxRecDepth 1000000
namespace Go.Proofs.YthkadboeokgjnacGreatDoor
open Go.RowKit

theorem OwnB.rebase {w : World} {b0 base : Nat} {a : Option Addr} {cap : Nat} {l : List UInt8} (h : OwnB w b0 a cap l) (hb : ∀ k, blk a = Option.some k → base ≤ k) : OwnB w base a cap l := by
  refine ⟨h.1, ?_⟩
  rcases h.2 with hn | ⟨g, cap', cur, hv, hbb, rest⟩
  · exact .inl hn
  · refine .inr ⟨g, cap', cur, hv, hb g ?_, rest⟩
    simp only [Value.slice.injEq] at hv
    rw [hv.1]; rfl
/-- A request that was read, in memory of its own. -/
structure RqO (w : World) (base : Nat) (Q : Rq) (hp : Option Addr) (hc : Nat) (bp : Option Addr) (bc : Nat) : Prop where
  hdr : HdR w hp Q.h
  own : OwnB w base bp bc Q.b
  hb : ∀ k, blk hp = some k → base ≤ k
theorem parse_get (R : HdM) (E : World → Prop) (B : Nat) (l : List UInt8) {w w' : World} {g : Nat → Nat} {r : Nat} {Q : Rq} {n : Nat} {S : St} (base : Nat) (h : Rtx w g r (n, S, Q) w') (hg : ∀ k, g k ≠ 0 → base ≤ k) (hbs : base ≤ w.heap.size) :
    ∃ tk hp hc bp bc, w'.heap[r]? = some (.cells #[tk, .string (str Q.m), .string (str Q.p), .slice hp Q.h.length hc, .slice bp Q.b.length bc] 45 (0, 0)) ∧ RqO w' base Q hp hc bp bc := by
  obtain ⟨g', tk, hp, hc, bp, bc, k1, k2, k3, k4⟩ := h
  have low : ∀ k, g' k ≠ 0 → base ≤ k := fun k hk => by
    by_cases hl : k < w.heap.size
    · exact hg k (fun e => hk (k4 k hl e))
    · omega
  refine ⟨tk, hp, hc, bp, bc, k1.row, k1.hdr, k1.body.rebase (fun k hk => low k (by rw [k1.bt k hk]; decide)), fun k hk => low k (by rw [k1.ht k hk]; decide)⟩
theorem RqO.below {w w' : World} {base : Nat} {Q : Rq} {hp : Option Addr} {hc : Nat} {bp : Option Addr} {bc : Nat} (h : RqO w base Q hp hc bp bc) (hb : Below w.heap.size w w') : RqO w' base Q hp hc bp bc := ⟨h.hdr.below hb (Nat.le_refl _), h.own.below hb (Nat.le_refl _), h.hb⟩

set_option maxHeartbeats 4000000 in
theorem parse_any (E : World → Prop) (B : Nat) (hEK : EK E B) (R : HdM) (hR : RHs E R) (hok : Rok R) (w : World) (x : Option Addr) (cx : Nat) (l : List UInt8) (hE : E w) (hB : B ≤ w.heap.size) (hx : Bs w x cx l) (hl : l.length ≤ 100000000) :
    Calls Tryz.prog 15 #[.slice x l.length cx] w fun e w' => ∃ hp hc bp bc, e = .returned (.tuple #[.agg #[.string (str (parseM R l).1.m), .string (str (parseM R l).1.p), .slice hp (parseM R l).1.h.length hc, .slice bp (parseM R l).1.b.length bc], .int .i64 ((parseM R l).2.1 : Int), .int .i64 ((parseM R l).2.2 : Int)]) ∧ Hid (RqO w' w.heap.size (parseM R l).1 hp hc bp bc) ∧ Hid (Below w.heap.size w w') := by
  obtain ⟨V, hV⟩ : ∃ V, V = w.alloc (.cells #[.string ⟨#[]⟩, .string ⟨#[]⟩, .slice none 0 0, .slice none 0 0] 30) := ⟨_, rfl⟩
  have hbV : Below w.heap.size w V := by rw [hV]; exact (Below.refl _ _).alloc (Nat.le_refl _) _
  have hsV : V.heap.size = w.heap.size + 1 := by rw [hV]; simp
  have hrV : V.heap[w.heap.size]? = some (.cells #[.string ⟨#[]⟩, .string ⟨#[]⟩, .slice none 0 0, .slice none 0 0] 30 (0, 0)) := by rw [hV]; exact heap_alloc_new w _
  have HRV := hide hrV
  have HBV := hide hbV
  have HSV := hide hsV
  have HX := hide (hx.below hbV (Nat.le_refl _))
  have hxl : l ≠ [] → ∀ k, blk x = some k → k < w.heap.size := fun hne k hk => by
    obtain ⟨b, off, rfl, hc⟩ := hx.row hne
    have := World.block_lt_of_cell? w _ (hc 0 (List.length_pos_iff.2 hne))
    simp [blk] at hk
    simp only at this
    omega
  have HXL := hide hxl
  have HE := hide (hEK.below hE hB hbV)
  have HEK := hide hEK
  have HRR := hide (show RHs E R ∧ Rok R from ⟨hR, hok⟩)
  obtain ⟨y, hy⟩ : ∃ y, runM R (.head []) Rq.nil l = y := ⟨_, rfl⟩
  have HP : Hid (parseM R l = if y.2.1 = 0 then (y.2.2.2, y.1, 0) else (Rq.nil, 0, y.2.1)) := by show _ = _; unfold parseM; rw [hy]
  have HY := hide hy
  generalize parseM R l = P at HP ⊢
  clear hrV hbV hsV hx hE hEK hR hok hxl hy
  go_enter Tryz.func15, Tryz.ntmps15
  go_upto_region 1 with fail
  rw [← hV]
  clear hV
  go_upto_region 2 with (go_at_call 16; refine (newReader_any V).mono ?_; rintro e w1 ⟨r, g, rfl, HR1, HG1, HB1⟩)
  have HRUN := hide (run_any E B (unhide HEK) R (unhide HRR).1 (unhide HRR).2 w1 g r (.head []) Rq.nil x cx l (unhide HR1) (by simp [okQ, Rq.nil]) ((unhide HEK).below (unhide HE) (by have := (unhide HBV).size; omega) (unhide HB1)) (by have := (unhide HBV).size; have := (unhide HB1).size; omega) (fun k hk => by have := unhide HG1 k hk; have := (unhide HBV).size; omega) ((unhide HX).below (unhide HB1) (Nat.le_refl _)) (fun hne k hk => by
    apply Classical.byContradiction
    intro hn
    have h1 := unhide HG1 k hn
    have h2 := unhide HXL hne k hk
    have := (unhide HBV).size
    omega) hl)
  rw [unhide HY] at HRUN
  obtain ⟨n, st, S2, Q2⟩ := y
  simp only at HRUN HP
  have HS1 := hide ((unhide HB1).size)
  by_cases h0 : st = 0
  · subst h0
    have HP2 : Hid (P = (Q2, n, 0)) := by show _ = _; rw [unhide HP, if_pos rfl]
    go_upto_region 3 with (go_at_call 12; refine (unhide HRUN).mono ?_; rintro e w2 ⟨rfl, HT2⟩)
    obtain ⟨tk, hp, hc, bp, bc, hrow, hro⟩ := parse_get R E B l V.heap.size (unhide HT2) (unhide HG1) (unhide HS1)
    have hbW : Below V.heap.size V w2 := by
      obtain ⟨_, _, _, _, _, _, _, _, k3, _⟩ := unhide HT2
      exact Kp.below (unhide HB1) k3 (unhide HS1) (unhide HG1)
    have hres := (hbW.block w.heap.size (by have := unhide HSV; omega)).trans (unhide HRV)
    have a1 : w2.cell? ⟨r, 1, none⟩ = some (.string (str Q2.m)) := by rw [cell_of_row w2 r 1 _ _ _ hrow]; rfl
    have a2 : w2.cell? ⟨r, 2, none⟩ = some (.string (str Q2.p)) := by rw [cell_of_row w2 r 2 _ _ _ hrow]; rfl
    have a3 : w2.cell? ⟨r, 3, none⟩ = some (.slice hp Q2.h.length hc) := by rw [cell_of_row w2 r 3 _ _ _ hrow]; rfl
    have a4 : w2.cell? ⟨r, 4, none⟩ = some (.slice bp Q2.b.length bc) := by rw [cell_of_row w2 r 4 _ _ _ hrow]; rfl
    have r0 : w2.cell? ⟨w.heap.size, 0, none⟩ = some (.string ⟨#[]⟩) := by rw [cell_of_row w2 _ 0 _ _ _ hres]; rfl
    have r1 : w2.cell? ⟨w.heap.size, 1, none⟩ = some (.string ⟨#[]⟩) := by rw [cell_of_row w2 _ 1 _ _ _ hres]; rfl
    have r2 : w2.cell? ⟨w.heap.size, 2, none⟩ = some (.slice none 0 0) := by rw [cell_of_row w2 _ 2 _ _ _ hres]; rfl
    have r3 : w2.cell? ⟨w.heap.size, 3, none⟩ = some (.slice none 0 0) := by rw [cell_of_row w2 _ 3 _ _ _ hres]; rfl
    have z0 := frozen_of_row w2 w.heap.size 0 _ _ hres
    have z1 := frozen_of_row w2 w.heap.size 1 _ _ hres
    have z2 := frozen_of_row w2 w.heap.size 2 _ _ hres
    have z3 := frozen_of_row w2 w.heap.size 3 _ _ hres
    obtain ⟨W, hW⟩ : ∃ W, W = (((w2.setCell ⟨w.heap.size, 0, none⟩ (.string (str Q2.m))).setCell ⟨w.heap.size, 1, none⟩ (.string (str Q2.p))).setCell ⟨w.heap.size, 2, none⟩ (.slice hp Q2.h.length hc)).setCell ⟨w.heap.size, 3, none⟩ (.slice bp Q2.b.length bc) := ⟨_, rfl⟩
    have hrw : W.heap[w.heap.size]? = some (.cells #[.string (str Q2.m), .string (str Q2.p), .slice hp Q2.h.length hc, .slice bp Q2.b.length bc] 30 (0, 0)) := by
      rw [hW, heap_setCell_same _ _ 3 _ _ _ (heap_setCell_same _ _ 2 _ _ _ (heap_setCell_same _ _ 1 _ _ _ (heap_setCell_same _ _ 0 _ _ _ hres)))]; rfl
    have hne : ∀ k, k ≠ w.heap.size → W.heap[k]? = w2.heap[k]? := fun k hk => by
      rw [hW, Below.heap_setCell _ ⟨w.heap.size, 3, none⟩ _ k hk, Below.heap_setCell _ ⟨w.heap.size, 2, none⟩ _ k hk, Below.heap_setCell _ ⟨w.heap.size, 1, none⟩ _ k hk, Below.heap_setCell _ ⟨w.heap.size, 0, none⟩ _ k hk]
    have hszW : W.heap.size = w2.heap.size := by rw [hW]; simp [World.setCell]
    have HBW : Hid (Below w.heap.size w W) := by
      have hb2 : Below w.heap.size w w2 := (unhide HBV).trans (hbW.mono (unhide HBV).size)
      refine ⟨?_, ?_, ?_, by rw [hszW]; exact hb2.size, fun k hk => (hne k (by omega)).trans (hb2.block k hk)⟩
      · rw [hW]; exact hb2.os
      · rw [hW]; exact hb2.tape
      · rw [hW]; exact hb2.output
    have HRO : Hid (RqO W w.heap.size Q2 hp hc bp bc) := by
      have hsv := unhide HSV
      refine ⟨hro.hdr.same (fun k hk _ => hne k (by have := hro.hb k hk; omega)), (hro.own.same (fun k hk => hne k (by have := (hro.own.lt k hk).1; omega))).base (by omega), fun k hk => by have := hro.hb k hk; omega⟩
    have c0 : W.cell? ⟨w.heap.size, 0, none⟩ = some (.string (str Q2.m)) := by rw [cell_of_row W _ 0 _ _ _ hrw]; rfl
    have c1 : W.cell? ⟨w.heap.size, 1, none⟩ = some (.string (str Q2.p)) := by rw [cell_of_row W _ 1 _ _ _ hrw]; rfl
    have c2 : W.cell? ⟨w.heap.size, 2, none⟩ = some (.slice hp Q2.h.length hc) := by rw [cell_of_row W _ 2 _ _ _ hrw]; rfl
    have c3 : W.cell? ⟨w.heap.size, 3, none⟩ = some (.slice bp Q2.b.length bc) := by rw [cell_of_row W _ 3 _ _ _ hrw]; rfl
    clear hrow hro hbW hres hrw hne hszW HT2 HRUN HR1 HG1 HB1
    go_wp2
    rw [← hW]
    refine bodyPost_ret (v := .tuple #[.agg #[.string (str Q2.m), .string (str Q2.p), .slice hp Q2.h.length hc, .slice bp Q2.b.length bc], .int .i64 (n : Int), .int .i64 0]) (by simp [results, Tryz.results15, go_sem, c0, c1, c2, c3]) rfl ⟨hp, hc, bp, bc, ?_, ?_, HBW⟩
    · rw [unhide HP2]; rfl
    · rw [unhide HP2]; exact HRO
  · have h0' : ((st : Int) != 0) = true := by simp; omega
    have HP2 : Hid (P = (Rq.nil, 0, st)) := by show _ = _; rw [unhide HP, if_neg h0]
    clear h0
    go_upto_region 3 with (go_at_call 12; refine (unhide HRUN).mono ?_; rintro e w2 ⟨rfl, HT2⟩)
    have hbW : Below V.heap.size V w2 := by
      obtain ⟨_, _, _, _, _, _, _, _, k3, _⟩ := unhide HT2
      exact Kp.below (unhide HB1) k3 (unhide HS1) (unhide HG1)
    have hres := (hbW.block w.heap.size (by have := unhide HSV; omega)).trans (unhide HRV)
    have r0 : w2.cell? ⟨w.heap.size, 0, none⟩ = some (.string ⟨#[]⟩) := by rw [cell_of_row w2 _ 0 _ _ _ hres]; rfl
    have r1 : w2.cell? ⟨w.heap.size, 1, none⟩ = some (.string ⟨#[]⟩) := by rw [cell_of_row w2 _ 1 _ _ _ hres]; rfl
    have r2 : w2.cell? ⟨w.heap.size, 2, none⟩ = some (.slice none 0 0) := by rw [cell_of_row w2 _ 2 _ _ _ hres]; rfl
    have r3 : w2.cell? ⟨w.heap.size, 3, none⟩ = some (.slice none 0 0) := by rw [cell_of_row w2 _ 3 _ _ _ hres]; rfl
    have z0 := frozen_of_row w2 w.heap.size 0 _ _ hres
    have z1 := frozen_of_row w2 w.heap.size 1 _ _ hres
    have z2 := frozen_of_row w2 w.heap.size 2 _ _ hres
    have z3 := frozen_of_row w2 w.heap.size 3 _ _ hres
    obtain ⟨W, hW⟩ : ∃ W, W = (((w2.setCell ⟨w.heap.size, 0, none⟩ (.string ⟨#[]⟩)).setCell ⟨w.heap.size, 1, none⟩ (.string ⟨#[]⟩)).setCell ⟨w.heap.size, 2, none⟩ (.slice none 0 0)).setCell ⟨w.heap.size, 3, none⟩ (.slice none 0 0) := ⟨_, rfl⟩
    have hrw : W.heap[w.heap.size]? = some (.cells #[.string ⟨#[]⟩, .string ⟨#[]⟩, .slice none 0 0, .slice none 0 0] 30 (0, 0)) := by
      rw [hW, heap_setCell_same _ _ 3 _ _ _ (heap_setCell_same _ _ 2 _ _ _ (heap_setCell_same _ _ 1 _ _ _ (heap_setCell_same _ _ 0 _ _ _ hres)))]; rfl
    have hne : ∀ k, k ≠ w.heap.size → W.heap[k]? = w2.heap[k]? := fun k hk => by
      rw [hW, Below.heap_setCell _ ⟨w.heap.size, 3, none⟩ _ k hk, Below.heap_setCell _ ⟨w.heap.size, 2, none⟩ _ k hk, Below.heap_setCell _ ⟨w.heap.size, 1, none⟩ _ k hk, Below.heap_setCell _ ⟨w.heap.size, 0, none⟩ _ k hk]
    have hszW : W.heap.size = w2.heap.size := by rw [hW]; simp [World.setCell]
    have HBW : Hid (Below w.heap.size w W) := by
      have hb2 : Below w.heap.size w w2 := (unhide HBV).trans (hbW.mono (unhide HBV).size)
      refine ⟨?_, ?_, ?_, by rw [hszW]; exact hb2.size, fun k hk => (hne k (by omega)).trans (hb2.block k hk)⟩
      · rw [hW]; exact hb2.os
      · rw [hW]; exact hb2.tape
      · rw [hW]; exact hb2.output
    have HRO : Hid (RqO W w.heap.size Rq.nil none 0 none 0) := ⟨⟨fun h => absurd rfl h, Nat.zero_le _⟩, OwnB.nil _ _, fun k hk => (by cases hk)⟩
    have c0 : W.cell? ⟨w.heap.size, 0, none⟩ = some (.string ⟨#[]⟩) := by rw [cell_of_row W _ 0 _ _ _ hrw]; rfl
    have c1 : W.cell? ⟨w.heap.size, 1, none⟩ = some (.string ⟨#[]⟩) := by rw [cell_of_row W _ 1 _ _ _ hrw]; rfl
    have c2 : W.cell? ⟨w.heap.size, 2, none⟩ = some (.slice none 0 0) := by rw [cell_of_row W _ 2 _ _ _ hrw]; rfl
    have c3 : W.cell? ⟨w.heap.size, 3, none⟩ = some (.slice none 0 0) := by rw [cell_of_row W _ 3 _ _ _ hrw]; rfl
    clear hbW hres hrw hne hszW HT2 HRUN HR1 HG1 HB1
    go_wp2
    rw [← hW]
    refine bodyPost_ret (v := .tuple #[.agg #[.string ⟨#[]⟩, .string ⟨#[]⟩, .slice none 0 0, .slice none 0 0], .int .i64 0, .int .i64 (st : Int)]) (by simp [results, Tryz.results15, go_sem, c0, c1, c2, c3]) rfl ⟨none, 0, none, 0, ?_, ?_, HBW⟩
    · rw [unhide HP2]; rfl
    · rw [unhide HP2]; exact HRO
#print axioms parse_any
end Go.Proofs.YthkadboeokgjnacGreatDoor
