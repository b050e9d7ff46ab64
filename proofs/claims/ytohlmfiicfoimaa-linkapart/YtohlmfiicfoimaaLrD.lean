/-
  link, the document's own net: Carry, Close.
-/
import Derived.Test.YtohlmfiicfoimaaLrC
set_option linter.unusedVariables false
namespace Go.Proofs.Ytohlmfiicfoimaa
open Go.RowKit Go.Maps

/-- b[E:H] of bytes that are read. -/
theorem cut_midl (a : Option Addr) (cap E H : Nat) (B : List UInt8) (hle : B.length ≤ cap) (h1 : E ≤ H) (h2 : H ≤ B.length) (hrow : B ≠ [] → ∃ b off, a = some ⟨b, off, none⟩) :
    ∃ a', (∀ w, (Instr.slice 31 (.slice a B.length cap) (some (.int .i64 (E : Int))) (some (.int .i64 (H : Int))) none).run Try.prog w = .ok (.slice a' (H - E) (cap - E)) w) ∧ (∀ w, Bs w a cap B → Bs w a' (cap - E) ((B.take H).drop E)) := by
  refine ⟨if cap = E then a else a.map (·.add (E * 1)), fun w => ?_, fun w hB => ?_⟩
  · rw [run_slice_lh (P := Try.prog) w 31 _ _ cap Try.elemB .i64 .i64 (E : Int) (H : Int) (by omega) (by omega) (by omega), Try.sizeB]
    simp only [Result.andThen, sliced, Int.toNat_natCast]
  · refine ⟨?_, by simp; have := hB.le; omega, by have := hB.most; omega, ?_⟩
    · by_cases hc : cap = E
      · intro h; exact absurd (by apply List.drop_eq_nil_of_le; simp; omega) h
      · rw [if_neg hc]
        by_cases hl : B = []
        · subst hl; intro h; simp at h
        · obtain ⟨b, off, rfl⟩ := hrow hl
          rw [Option.map_some, Nat.mul_one, addr_add]
          exact (hB.row.take H).drop E
    · intro h
      by_cases hc : cap = E
      · omega
      · rw [if_neg hc] at h
        have := hB.nz (by cases a <;> simp_all)
        omega

/-- What a connection is behind some of what end 0 sent was carried. -/
theorem rcame_0 {w v : World} {g : Nat → Tag} {r : Rg} {c : Cn} {T K : Nat} (h : RCon w g r c T) (hb : Below w.heap.size w v) (hK : K ≤ (c.L 1).length) {z : Int} (hz : z = ((r.m 0 + K : Nat) : Int)) :
    RCon (v.setCell ⟨r.C, 5, none⟩ (.int .i64 z)) g ⟨r.C, r.x, r.k, r.S, upd r.m 0 (r.m 0 + K)⟩ (c.rows 1 ((c.L 1).drop K)) T ∧ Ty w (v.setCell ⟨r.C, 5, none⟩ (.int .i64 z)) g g (fun t => t = (2, c.id)) := by
  have hgr := gset' v ⟨r.C, 5, none⟩ (.int .i64 z)
  have hy : Ty w (v.setCell ⟨r.C, 5, none⟩ (.int .i64 z)) g g (fun t => t = (2, c.id)) := ⟨(Kp.of hb).trans (Kp.ofG hgr (fun k hk => by simp at hk; rw [← hk]; exact h.tC)), fun _ _ => rfl⟩
  have hld : (c.L 1).length = (r.S 0).length - r.m 0 := by rw [h.d0, List.length_drop]
  have hm := h.m0
  subst hz
  have hcl := (h.cells.below hb).s5 ((r.m 0 + K : Nat) : Int)
  have hne : ∀ i', i' = 0 ∨ i' = 1 → r.S i' ≠ [] → ∀ b, blk (r.x i') = some b → ¬ b = r.C := fun i' hi hn b hb' e => by
    have hbs : Bs w (r.x i') (r.k i') (r.S i') := by rcases hi with rfl | rfl; exact h.b0; exact h.b1
    obtain ⟨b', off, e1, hc⟩ := hbs.row hn
    have hpos : 0 < (r.S i').length := List.length_pos_iff.2 hn
    have hc0 := hc 0 hpos
    rw [e1] at hb'
    simp [blk] at hb'
    subst hb'
    subst e
    have := cell_of_row w _ (off + 0) _ _ _ h.cells
    rw [this] at hc0
    have h3 := (Array.getElem?_eq_some_iff.1 hc0).1
    simp at h3
    rcases (by omega : off = 0 ∨ off = 1 ∨ off = 2 ∨ off = 3 ∨ off = 4 ∨ off = 5 ∨ off = 6 ∨ off = 7 ∨ off = 8) with rfl | rfl | rfl | rfl | rfl | rfl | rfl | rfl | rfl <;> simp at hc0
  have kp := Kp.ofG (S := fun k => k = r.C) hgr (fun k hk => by simp at hk; exact hk.symm)
  have q0 : upd r.m 0 (r.m 0 + K) 0 ≤ (r.S 0).length := by rw [upd_same]; omega
  have q1 : upd r.m 0 (r.m 0 + K) 1 ≤ (r.S 1).length := h.m1
  have d0 : (c.rows 1 ((c.L 1).drop K)).L 1 = (r.S 0).drop (upd r.m 0 (r.m 0 + K) 0) := by
    have e1 : (c.rows 1 ((c.L 1).drop K)).L 1 = (c.L 1).drop K := by simp [Cn.rows, upd]
    rw [e1, upd_same, h.d0, List.drop_drop]
  have d1 : (c.rows 1 ((c.L 1).drop K)).L 0 = (r.S 1).drop (upd r.m 0 (r.m 0 + K) 1) := h.d1
  exact ⟨⟨hcl, (h.b0.below hb (Nat.le_refl _)).kpn kp (hne 0 (.inl rfl)), (h.b1.below hb (Nat.le_refl _)).kpn kp (hne 1 (.inr rfl)), q0, q1, d0, d1, h.t0, h.t1, h.tC, h.g0, h.g1⟩, hy⟩

/-- What a connection is behind some of what end 1 sent was carried. -/
theorem rcame_1 {w v : World} {g : Nat → Tag} {r : Rg} {c : Cn} {T K : Nat} (h : RCon w g r c T) (hb : Below w.heap.size w v) (hK : K ≤ (c.L 0).length) {z : Int} (hz : z = ((r.m 1 + K : Nat) : Int)) :
    RCon (v.setCell ⟨r.C, 6, none⟩ (.int .i64 z)) g ⟨r.C, r.x, r.k, r.S, upd r.m 1 (r.m 1 + K)⟩ (c.rows 0 ((c.L 0).drop K)) T ∧ Ty w (v.setCell ⟨r.C, 6, none⟩ (.int .i64 z)) g g (fun t => t = (2, c.id)) := by
  have hgr := gset' v ⟨r.C, 6, none⟩ (.int .i64 z)
  have hy : Ty w (v.setCell ⟨r.C, 6, none⟩ (.int .i64 z)) g g (fun t => t = (2, c.id)) := ⟨(Kp.of hb).trans (Kp.ofG hgr (fun k hk => by simp at hk; rw [← hk]; exact h.tC)), fun _ _ => rfl⟩
  have hld : (c.L 0).length = (r.S 1).length - r.m 1 := by rw [h.d1, List.length_drop]
  have hm := h.m1
  subst hz
  have hcl := (h.cells.below hb).s6 ((r.m 1 + K : Nat) : Int)
  have hne : ∀ i', i' = 0 ∨ i' = 1 → r.S i' ≠ [] → ∀ b, blk (r.x i') = some b → ¬ b = r.C := fun i' hi hn b hb' e => by
    have hbs : Bs w (r.x i') (r.k i') (r.S i') := by rcases hi with rfl | rfl; exact h.b0; exact h.b1
    obtain ⟨b', off, e1, hc⟩ := hbs.row hn
    have hpos : 0 < (r.S i').length := List.length_pos_iff.2 hn
    have hc0 := hc 0 hpos
    rw [e1] at hb'
    simp [blk] at hb'
    subst hb'
    subst e
    have := cell_of_row w _ (off + 0) _ _ _ h.cells
    rw [this] at hc0
    have h3 := (Array.getElem?_eq_some_iff.1 hc0).1
    simp at h3
    rcases (by omega : off = 0 ∨ off = 1 ∨ off = 2 ∨ off = 3 ∨ off = 4 ∨ off = 5 ∨ off = 6 ∨ off = 7 ∨ off = 8) with rfl | rfl | rfl | rfl | rfl | rfl | rfl | rfl | rfl <;> simp at hc0
  have kp := Kp.ofG (S := fun k => k = r.C) hgr (fun k hk => by simp at hk; exact hk.symm)
  have q1 : upd r.m 1 (r.m 1 + K) 1 ≤ (r.S 1).length := by rw [upd_same]; omega
  have q0 : upd r.m 1 (r.m 1 + K) 0 ≤ (r.S 0).length := h.m0
  have d1 : (c.rows 0 ((c.L 0).drop K)).L 0 = (r.S 1).drop (upd r.m 1 (r.m 1 + K) 1) := by
    have e1 : (c.rows 0 ((c.L 0).drop K)).L 0 = (c.L 0).drop K := by simp [Cn.rows, upd]
    rw [e1, upd_same, h.d1, List.drop_drop]
  have d0 : (c.rows 0 ((c.L 0).drop K)).L 1 = (r.S 0).drop (upd r.m 1 (r.m 1 + K) 0) := h.d0
  exact ⟨⟨hcl, (h.b0.below hb (Nat.le_refl _)).kpn kp (hne 0 (.inl rfl)), (h.b1.below hb (Nat.le_refl _)).kpn kp (hne 1 (.inr rfl)), q0, q1, d0, d1, h.t0, h.t1, h.tC, h.g0, h.g1⟩, hy⟩

/-- What a connection is behind end 0 was closed. -/
theorem rshut_0 {w v : World} {g : Nat → Tag} {r : Rg} {c : Cn} {T : Nat} (h : RCon w g r c T) (hb : Below w.heap.size w v) :
    RCon (v.setCell ⟨r.C, 7, none⟩ (.bool true)) g r (c.shut 0) T ∧ Ty w (v.setCell ⟨r.C, 7, none⟩ (.bool true)) g g (fun t => t = (2, c.id)) := by
  have hgr := gset' v ⟨r.C, 7, none⟩ (.bool true)
  have hy : Ty w (v.setCell ⟨r.C, 7, none⟩ (.bool true)) g g (fun t => t = (2, c.id)) := ⟨(Kp.of hb).trans (Kp.ofG hgr (fun k hk => by simp at hk; rw [← hk]; exact h.tC)), fun _ _ => rfl⟩
  have hcl := (h.cells.below hb).s7 true
  have hne : ∀ i', i' = 0 ∨ i' = 1 → r.S i' ≠ [] → ∀ b, blk (r.x i') = some b → ¬ b = r.C := fun i' hi hn b hb' e => by
    have hbs : Bs w (r.x i') (r.k i') (r.S i') := by rcases hi with rfl | rfl; exact h.b0; exact h.b1
    obtain ⟨b', off, e1, hc⟩ := hbs.row hn
    have hpos : 0 < (r.S i').length := List.length_pos_iff.2 hn
    have hc0 := hc 0 hpos
    rw [e1] at hb'
    simp [blk] at hb'
    subst hb'
    subst e
    have := cell_of_row w _ (off + 0) _ _ _ h.cells
    rw [this] at hc0
    have h3 := (Array.getElem?_eq_some_iff.1 hc0).1
    simp at h3
    rcases (by omega : off = 0 ∨ off = 1 ∨ off = 2 ∨ off = 3 ∨ off = 4 ∨ off = 5 ∨ off = 6 ∨ off = 7 ∨ off = 8) with rfl | rfl | rfl | rfl | rfl | rfl | rfl | rfl | rfl <;> simp at hc0
  have kp := Kp.ofG (S := fun k => k = r.C) hgr (fun k hk => by simp at hk; exact hk.symm)
  exact ⟨⟨hcl, (h.b0.below hb (Nat.le_refl _)).kpn kp (hne 0 (.inl rfl)), (h.b1.below hb (Nat.le_refl _)).kpn kp (hne 1 (.inr rfl)), h.m0, h.m1, h.d0, h.d1, h.t0, h.t1, h.tC, h.g0, h.g1⟩, hy⟩

/-- What a connection is behind end 1 was closed. -/
theorem rshut_1 {w v : World} {g : Nat → Tag} {r : Rg} {c : Cn} {T : Nat} (h : RCon w g r c T) (hb : Below w.heap.size w v) :
    RCon (v.setCell ⟨r.C, 8, none⟩ (.bool true)) g r (c.shut 1) T ∧ Ty w (v.setCell ⟨r.C, 8, none⟩ (.bool true)) g g (fun t => t = (2, c.id)) := by
  have hgr := gset' v ⟨r.C, 8, none⟩ (.bool true)
  have hy : Ty w (v.setCell ⟨r.C, 8, none⟩ (.bool true)) g g (fun t => t = (2, c.id)) := ⟨(Kp.of hb).trans (Kp.ofG hgr (fun k hk => by simp at hk; rw [← hk]; exact h.tC)), fun _ _ => rfl⟩
  have hcl := (h.cells.below hb).s8 true
  have hne : ∀ i', i' = 0 ∨ i' = 1 → r.S i' ≠ [] → ∀ b, blk (r.x i') = some b → ¬ b = r.C := fun i' hi hn b hb' e => by
    have hbs : Bs w (r.x i') (r.k i') (r.S i') := by rcases hi with rfl | rfl; exact h.b0; exact h.b1
    obtain ⟨b', off, e1, hc⟩ := hbs.row hn
    have hpos : 0 < (r.S i').length := List.length_pos_iff.2 hn
    have hc0 := hc 0 hpos
    rw [e1] at hb'
    simp [blk] at hb'
    subst hb'
    subst e
    have := cell_of_row w _ (off + 0) _ _ _ h.cells
    rw [this] at hc0
    have h3 := (Array.getElem?_eq_some_iff.1 hc0).1
    simp at h3
    rcases (by omega : off = 0 ∨ off = 1 ∨ off = 2 ∨ off = 3 ∨ off = 4 ∨ off = 5 ∨ off = 6 ∨ off = 7 ∨ off = 8) with rfl | rfl | rfl | rfl | rfl | rfl | rfl | rfl | rfl <;> simp at hc0
  have kp := Kp.ofG (S := fun k => k = r.C) hgr (fun k hk => by simp at hk; exact hk.symm)
  exact ⟨⟨hcl, (h.b0.below hb (Nat.le_refl _)).kpn kp (hne 0 (.inl rfl)), (h.b1.below hb (Nat.le_refl _)).kpn kp (hne 1 (.inr rfl)), h.m0, h.m1, h.d0, h.d1, h.t0, h.t1, h.tC, h.g0, h.g1⟩, hy⟩
end Go.Proofs.Ytohlmfiicfoimaa
