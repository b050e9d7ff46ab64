/-
  wsock: readKind.
-/
import Derived.Test.YtegbcjfceooflaaDoorPkWptsam
import Derived.Deep.QuietTactic
import Derived.BigQuiet
section
set_option linter.unusedVariables false
namespace Go.Proofs.YtegbcjfceooflaaDoor
open Go.RowKit

theorem and128 : ∀ k : Fin 256, (bits .and .u8 (k.val : Int) 128 != 0) = decide (128 ≤ k.val) := by decide +kernel
theorem and15 : ∀ k : Fin 256, bits .and .u8 (k.val : Int) 15 = ((k.val % 16 : Nat) : Int) := by decide +kernel
theorem and112 : ∀ k : Fin 256, (bits .and .u8 (k.val : Int) 112 != 0) = decide (k.val / 16 % 8 ≠ 0) := by decide +kernel
def kFin (B : List UInt8) : Bool := decide (128 ≤ (B.getD 0 0).toNat)
def kOp (B : List UInt8) : Nat := (B.getD 0 0).toNat % 16
/-- Why no frame begins so (0: one may). -/
def kY (B : List UInt8) (mask : Bool) : Nat :=
  if B.length < 1 then 1
  else if (decide ((B.getD 0 0).toNat / 16 % 8 ≠ 0) || !(mayB (kOp B : Nat) (kFin B) 0)) = true then 1002
  else if B.length < 2 then 1
  else if ((decide (128 ≤ (B.getD 1 0).toNat) != mask) || !(mayB (kOp B : Nat) (kFin B) (((B.getD 1 0).toNat % 128 : Nat) : Int))) = true then 1002
  else 0
def frV (y : Nat) (fin : Bool) (op : Nat) : Value := if y = 0 then .agg #[.bool fin, .int .i64 (op : Int), .slice none 0 0] else .agg #[.bool false, .int .i64 0, .slice none 0 0]

theorem below3 {B : Nat} {w0 W : World} {R : Nat} (h : Below B w0 W) (hB : B ≤ w0.heap.size) (hR : B ≤ R) (x y z : Value) : Below B w0 (((W.setCell ⟨R, 0, none⟩ x).setCell ⟨R, 1, none⟩ y).setCell ⟨R, 2, none⟩ z) := by
  have st : ∀ (v : World) (p : Addr) (u : Value), Below B w0 v → B ≤ p.block → Below B w0 (v.setCell p u) := fun v p u h hp => h.grown (grownBy_setCell v p u) (Nat.le_trans hB h.size) (fun k hk => by rw [← Option.some.inj hk]; exact hp)
  exact st _ _ _ (st _ _ _ (st _ _ _ h hR) hR) hR

set_option maxHeartbeats 2000000 in
theorem rk_any (a : Option Addr) (cap : Nat) (B : List UInt8) (mask : Bool) (w : World) (hB : Bs w a cap B) :
    Calls Tryd.prog 31 #[.slice a B.length cap, .bool mask] w fun e w' => e = .returned (.tuple #[frV (kY B mask) (kFin B) (kOp B), .int .i64 (kY B mask : Nat)]) ∧ Below w.heap.size w w' := by
  have hmost := hB.most
  have hle := hB.le
  unfold maxLen at hmost
  by_cases h1 : B.length < 1
  · have h1' : (B.length : Int) < 1 := by omega
    have HY : Hid (kY B mask = 1) := by show _ = _; unfold kY; rw [if_pos h1]
    clear h1
    have HB : ∀ o, Below w.heap.size w (w.alloc o) := fun o => (Below.refl _ _).alloc (Nat.le_refl _) o
    go_enter Tryd.func31, Tryd.ntmps31
    go_wp2
    refine bodyPost_ret (v := .tuple #[.agg #[.bool false, .int .i64 0, .slice none 0 0], .int .i64 1]) (by simp [results, Tryd.results31, go_sem]) rfl ⟨?_, ?_⟩
    · rw [unhide HY]; rfl
    · exact HB _
  · obtain ⟨b, off, rfl, hc⟩ := hB.row (by intro e; subst e; simp at h1)
    have h1' : ¬ (B.length : Int) < 1 := by omega
    have hp : (0 : Int) < (B.length : Int) := by omega
    have c0 := hc 0 (by omega)
    have hbl : b < w.heap.size := World.block_lt_of_cell? w _ c0
    obtain ⟨y, hyy⟩ : ∃ y, B.getD 0 0 = y := ⟨_, rfl⟩
    rw [hyy, Nat.add_zero] at c0
    have HF : Hid (kFin B = decide (128 ≤ y.toNat)) := by show _ = _; unfold kFin; rw [hyy]
    have HO : Hid (kOp B = y.toNat % 16) := by show _ = _; unfold kOp; rw [hyy]
    obtain ⟨fin, hfin⟩ : ∃ fin, fin = kFin B := ⟨_, rfl⟩
    obtain ⟨op, hop⟩ : ∃ op, op = kOp B := ⟨_, rfl⟩
    have a128 : (bits .and .u8 (y.toNat : Int) 128 != 0) = fin := by rw [hfin, unhide HF]; exact and128 ⟨y.toNat, y.toNat_lt⟩
    have a15 : bits .and .u8 (y.toNat : Int) 15 = (op : Int) := by rw [hop, unhide HO]; exact and15 ⟨y.toNat, y.toNat_lt⟩
    obtain ⟨sp, hsp⟩ : ∃ sp : Bool, sp = decide (y.toNat / 16 % 8 ≠ 0) := ⟨_, rfl⟩
    have a112 : (bits .and .u8 (y.toNat : Int) 112 != 0) = sp := by rw [hsp]; exact and112 ⟨y.toNat, y.toNat_lt⟩
    rw [← hfin, ← hop]
    have HY1 : Hid (kY B mask = if (sp || !(mayB (op : Nat) fin 0)) = true then 1002 else if B.length < 2 then 1 else if ((decide (128 ≤ (B.getD 1 0).toNat) != mask) || !(mayB (op : Nat) fin (((B.getD 1 0).toNat % 128 : Nat) : Int))) = true then 1002 else 0) := by
      show _ = _
      unfold kY
      rw [if_neg h1, hyy, hfin, hop, hsp]
    have hop16 : op < 16 := by rw [hop, unhide HO]; omega
    have c0a : ∀ o, (w.alloc o).cell? ⟨b, off, none⟩ = some (.int .u8 (y.toNat : Int)) := fun o => by rw [((Below.refl w.heap.size w).alloc (Nat.le_refl _) o).cell hbl]; exact c0
    have c0b : ∀ o o', ((w.alloc o).alloc o').cell? ⟨b, off, none⟩ = some (.int .u8 (y.toNat : Int)) := fun o o' => by rw [(((Below.refl w.heap.size w).alloc (Nat.le_refl _) o).alloc (by simp) o').cell hbl]; exact c0
    clear hfin hop hsp HF HO
    go_enter Tryd.func31, Tryd.ntmps31
    go_wp2_with fail
    have hWR : (((w.alloc (.cells #[.bool false, .int .i64 0, .slice none 0 0] 44)).alloc (.cells #[.bool fin, .int .i64 (op : Int), .slice none 0 0] 44)).drew).heap[w.heap.size]? = some (.cells #[.bool false, .int .i64 0, .slice none 0 0] 44 (0, 0)) := (Below.heap_alloc _ _ w.heap.size (by simp)).trans (heap_alloc_new w _)
    have hWZ : (((w.alloc (.cells #[.bool false, .int .i64 0, .slice none 0 0] 44)).alloc (.cells #[.bool fin, .int .i64 (op : Int), .slice none 0 0] 44)).drew).heap[w.heap.size + 1]? = some (.cells #[.bool fin, .int .i64 (op : Int), .slice none 0 0] 44 (0, 0)) := by
      have := heap_alloc_new (w.alloc (.cells #[.bool false, .int .i64 0, .slice none 0 0] 44)) (.cells #[.bool fin, .int .i64 (op : Int), .slice none 0 0] 44)
      rw [show (w.alloc (.cells #[.bool false, .int .i64 0, .slice none 0 0] 44)).heap.size = w.heap.size + 1 by simp] at this
      exact this
    have hWB : Below w.heap.size w (((w.alloc (.cells #[.bool false, .int .i64 0, .slice none 0 0] 44)).alloc (.cells #[.bool fin, .int .i64 (op : Int), .slice none 0 0] 44)).drew) := (((Below.refl _ _).alloc (Nat.le_refl _) _).alloc (by simp) _).drew
    have HWR := hide hWR
    have HWZ := hide hWZ
    have HWB := hide hWB
    clear hWR hWZ hWB
    go_region
    clear c0a c0b
    generalize (((w.alloc (.cells #[.bool false, .int .i64 0, .slice none 0 0] 44)).alloc (.cells #[.bool fin, .int .i64 (op : Int), .slice none 0 0] 44)).drew) = W at *
    have r0 : W.cell? ⟨w.heap.size, 0, none⟩ = some (.bool false) := by rw [cell_of_row W w.heap.size 0 _ _ _ (unhide HWR)]; rfl
    have r1 : W.cell? ⟨w.heap.size, 1, none⟩ = some (.int .i64 0) := by rw [cell_of_row W w.heap.size 1 _ _ _ (unhide HWR)]; rfl
    have r2 : W.cell? ⟨w.heap.size, 2, none⟩ = some (.slice none 0 0) := by rw [cell_of_row W w.heap.size 2 _ _ _ (unhide HWR)]; rfl
    have g0 : W.frozen? ⟨w.heap.size, 0, none⟩ = false := frozen_of_row W w.heap.size 0 _ _ (unhide HWR)
    have g1 : W.frozen? ⟨w.heap.size, 1, none⟩ = false := frozen_of_row W w.heap.size 1 _ _ (unhide HWR)
    have g2 : W.frozen? ⟨w.heap.size, 2, none⟩ = false := frozen_of_row W w.heap.size 2 _ _ (unhide HWR)
    have z0 : W.cell? ⟨w.heap.size + 1, 0, none⟩ = some (.bool fin) := by rw [cell_of_row W (w.heap.size + 1) 0 _ _ _ (unhide HWZ)]; rfl
    have z1 : W.cell? ⟨w.heap.size + 1, 1, none⟩ = some (.int .i64 (op : Int)) := by rw [cell_of_row W (w.heap.size + 1) 1 _ _ _ (unhide HWZ)]; rfl
    have z2 : W.cell? ⟨w.heap.size + 1, 2, none⟩ = some (.slice none 0 0) := by rw [cell_of_row W (w.heap.size + 1) 2 _ _ _ (unhide HWZ)]; rfl
    have d0 : W.cell? ⟨b, off, none⟩ = some (.int .u8 (y.toNat : Int)) := by rw [(unhide HWB).cell hbl]; exact c0
    cases sp with
    | true =>
      have HY : Hid (kY B mask = 1002) := by show _ = _; rw [unhide HY1]; rfl
      clear HY1
      go_wp2
      refine bodyPost_ret (v := .tuple #[.agg #[.bool false, .int .i64 0, .slice none 0 0], .int .i64 1002]) (by simp [results, Tryd.results31, go_sem, r0, r1, r2]) rfl ⟨?_, ?_⟩
      · rw [unhide HY]; rfl
      · exact below3 (unhide HWB) (Nat.le_refl _) (Nat.le_refl _) _ _ _
    | false =>
      go_wp2_with fail
      refine (mayBe_any (op : Int) fin 0 W).mono ?_
      rintro e w5 ⟨rfl, rfl⟩
      cases hm0 : mayB (op : Int) fin 0 with
      | false =>
        have HY : Hid (kY B mask = 1002) := by show _ = _; rw [unhide HY1, hm0]; rfl
        clear HY1 hm0
        go_wp2
        refine bodyPost_ret (v := .tuple #[.agg #[.bool false, .int .i64 0, .slice none 0 0], .int .i64 1002]) (by simp [results, Tryd.results31, go_sem, r0, r1, r2]) rfl ⟨?_, ?_⟩
        · rw [unhide HY]; rfl
        · exact below3 (unhide HWB) (Nat.le_refl _) (Nat.le_refl _) _ _ _
      | true =>
        by_cases h2 : B.length < 2
        · have h2' : (B.length : Int) < 2 := by omega
          have HY : Hid (kY B mask = 1) := by show _ = _; rw [unhide HY1, hm0, if_neg (by simp), if_pos h2]
          clear HY1 hm0
          go_wp2
          refine bodyPost_ret (v := .tuple #[.agg #[.bool false, .int .i64 0, .slice none 0 0], .int .i64 1]) (by simp [results, Tryd.results31, go_sem, r0, r1, r2]) rfl ⟨?_, ?_⟩
          · rw [unhide HY]; rfl
          · exact below3 (unhide HWB) (Nat.le_refl _) (Nat.le_refl _) _ _ _
        · have h2' : ¬ (B.length : Int) < 2 := by omega
          have hp1 : (1 : Int) < (B.length : Int) := by omega
          have c1 := hc 1 (by omega)
          obtain ⟨y1, hy1⟩ : ∃ y1, B.getD 1 0 = y1 := ⟨_, rfl⟩
          rw [hy1] at c1
          have d1 : w5.cell? ⟨b, off + 1, none⟩ = some (.int .u8 (y1.toNat : Int)) := by rw [(unhide HWB).cell hbl]; exact c1
          obtain ⟨mk, hmk⟩ : ∃ mk : Bool, mk = decide (128 ≤ y1.toNat) := ⟨_, rfl⟩
          have e128 : (bits .and .u8 (y1.toNat : Int) 128 != 0) = mk := by rw [hmk]; exact and128 ⟨y1.toNat, y1.toNat_lt⟩
          obtain ⟨sz, hsz⟩ : ∃ sz, sz = y1.toNat % 128 := ⟨_, rfl⟩
          have e127 : bits .and .u8 (y1.toNat : Int) 127 = (sz : Int) := by rw [hsz]; exact and127 ⟨y1.toNat, y1.toNat_lt⟩
          have hsz8 : sz < 128 := by rw [hsz]; omega
          have HY2 : Hid (kY B mask = if ((mk != mask) || !(mayB (op : Nat) fin (sz : Int))) = true then 1002 else 0) := by show _ = _; rw [unhide HY1, hm0, if_neg (by simp), if_neg h2, hy1, hmk, hsz]
          clear HY1 hm0 hmk hsz hy1 hc c1 h2
          cases mk with
          | false =>
            cases mask with
            | false =>
              have HMB := hide (fun n => mayBe_any (op : Int) fin (sz : Int) (w5.drewN n))
              cases hmz : mayB (op : Int) fin (sz : Int) with
              | false =>
                have HY : Hid (kY B false = 1002) := by show _ = _; rw [unhide HY2, hmz]; rfl
                clear HY2
                rw [hmz] at HMB
                go_wp2_with fail
                go_quiet ((go_at_call 29; exact Calls.quiet_of_same (unhide HMB _)))
                have HWB2 := hide (below_drewN (unhide HWB) nq)
                go_wp2
                refine bodyPost_ret (v := .tuple #[.agg #[.bool false, .int .i64 0, .slice none 0 0], .int .i64 1002]) (by simp [results, Tryd.results31, go_sem, r0, r1, r2]) rfl ⟨?_, ?_⟩
                · rw [unhide HY]; rfl
                · exact below3 (unhide HWB2) (Nat.le_refl _) (Nat.le_refl _) _ _ _
              | true =>
                have HY : Hid (kY B false = 0) := by show _ = _; rw [unhide HY2, hmz]; rfl
                clear HY2
                rw [hmz] at HMB
                go_wp2_with fail
                go_quiet ((go_at_call 29; exact Calls.quiet_of_same (unhide HMB _)))
                have HWB2 := hide (below_drewN (unhide HWB) nq)
                go_wp2
                refine bodyPost_ret (v := .tuple #[.agg #[.bool fin, .int .i64 (op : Int), .slice none 0 0], .int .i64 0]) (by simp [results, Tryd.results31, go_sem, r0, r1, r2]) rfl ⟨?_, ?_⟩
                · rw [unhide HY]; rfl
                · exact below3 (unhide HWB2) (Nat.le_refl _) (Nat.le_refl _) _ _ _
            | true =>
              have HY : Hid (kY B true = 1002) := by show _ = _; rw [unhide HY2]; rfl
              clear HY2
              go_wp2_with fail
              go_quiet (fail)
              have HWB2 := hide (below_drewN (unhide HWB) nq)
              go_wp2
              refine bodyPost_ret (v := .tuple #[.agg #[.bool false, .int .i64 0, .slice none 0 0], .int .i64 1002]) (by simp [results, Tryd.results31, go_sem, r0, r1, r2]) rfl ⟨?_, ?_⟩
              · rw [unhide HY]; rfl
              · exact below3 (unhide HWB2) (Nat.le_refl _) (Nat.le_refl _) _ _ _
          | true =>
            cases mask with
            | false =>
              have HY : Hid (kY B false = 1002) := by show _ = _; rw [unhide HY2]; rfl
              clear HY2
              go_wp2_with fail
              go_quiet (fail)
              have HWB2 := hide (below_drewN (unhide HWB) nq)
              go_wp2
              refine bodyPost_ret (v := .tuple #[.agg #[.bool false, .int .i64 0, .slice none 0 0], .int .i64 1002]) (by simp [results, Tryd.results31, go_sem, r0, r1, r2]) rfl ⟨?_, ?_⟩
              · rw [unhide HY]; rfl
              · exact below3 (unhide HWB2) (Nat.le_refl _) (Nat.le_refl _) _ _ _
            | true =>
              have HMB := hide (fun n => mayBe_any (op : Int) fin (sz : Int) (w5.drewN n))
              cases hmz : mayB (op : Int) fin (sz : Int) with
              | false =>
                have HY : Hid (kY B true = 1002) := by show _ = _; rw [unhide HY2, hmz]; rfl
                clear HY2
                rw [hmz] at HMB
                go_wp2_with fail
                go_quiet ((go_at_call 29; exact Calls.quiet_of_same (unhide HMB _)))
                have HWB2 := hide (below_drewN (unhide HWB) nq)
                go_wp2
                refine bodyPost_ret (v := .tuple #[.agg #[.bool false, .int .i64 0, .slice none 0 0], .int .i64 1002]) (by simp [results, Tryd.results31, go_sem, r0, r1, r2]) rfl ⟨?_, ?_⟩
                · rw [unhide HY]; rfl
                · exact below3 (unhide HWB2) (Nat.le_refl _) (Nat.le_refl _) _ _ _
              | true =>
                have HY : Hid (kY B true = 0) := by show _ = _; rw [unhide HY2, hmz]; rfl
                clear HY2
                rw [hmz] at HMB
                go_wp2_with fail
                go_quiet ((go_at_call 29; exact Calls.quiet_of_same (unhide HMB _)))
                have HWB2 := hide (below_drewN (unhide HWB) nq)
                go_wp2
                refine bodyPost_ret (v := .tuple #[.agg #[.bool fin, .int .i64 (op : Int), .slice none 0 0], .int .i64 0]) (by simp [results, Tryd.results31, go_sem, r0, r1, r2]) rfl ⟨?_, ?_⟩
                · rw [unhide HY]; rfl
                · exact below3 (unhide HWB2) (Nat.le_refl _) (Nat.le_refl _) _ _ _
#print axioms rk_any
end Go.Proofs.YtegbcjfceooflaaDoor
end
