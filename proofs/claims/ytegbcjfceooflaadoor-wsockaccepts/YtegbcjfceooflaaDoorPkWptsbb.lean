/-
  wsock: Read.; wsock, THE MODEL: what is written is read as it was.
-/
import Derived.Test.YtegbcjfceooflaaDoorPkWptsba
import Derived.Deep.RegionHeld3
import Derived.Deep.DeepCutAuto
import Derived.Test.YtegbcjfceooflaaDoorPkWptsaz
section
set_option linter.unusedVariables false
namespace Go.Proofs.YtegbcjfceooflaaDoor
open Go.RowKit

/-- b[E:H] of bytes that are read. -/
theorem cut_mid (a : Option Addr) (cap E H : Nat) (B : List UInt8) (hle : B.length ≤ cap) (h1 : E ≤ H) (h2 : H ≤ B.length) (hrow : B ≠ [] → ∃ b off, a = some ⟨b, off, none⟩) :
    ∃ a', (∀ w, (Instr.slice 23 (.slice a B.length cap) (some (.int .i64 (E : Int))) (some (.int .i64 (H : Int))) none).run Tryd.prog w = .ok (.slice a' (H - E) (cap - E)) w) ∧ (∀ w, Bs w a cap B → Bs w a' (cap - E) ((B.take H).drop E)) := by
  refine ⟨if cap = E then a else a.map (·.add (E * 1)), fun w => ?_, fun w hB => ?_⟩
  · rw [run_slice_lh (P := Tryd.prog) w 23 _ _ cap Tryd.elemB .i64 .i64 (E : Int) (H : Int) (by omega) (by omega) (by omega), Tryd.sizeB]
    simp only [Result.andThen, sliced, Int.toNat_natCast]
  · refine ⟨?_, by simp; have := hB.le; omega, by have := hB.most; omega, ?_⟩
    · by_cases hc : cap = E
      · intro h; exact absurd (by apply List.drop_eq_nil_of_le; simp; omega) h
      · rw [if_neg hc]
        by_cases hl : B = []
        · subst hl; intro h; simp at h
        · obtain ⟨b, off, rfl⟩ := hrow hl
          rw [Option.map_some, Nat.mul_one, addr_add]
          exact (hB.row.take H).drop E
    · intro h
      by_cases hc : cap = E
      · omega
      · rw [if_neg hc] at h
        have := hB.nz (by cases a <;> simp_all)
        omega

theorem kY_len {B : List UInt8} {mask : Bool} (h : kY B mask = 0) : 2 ≤ B.length := by
  unfold kY at h
  split at h
  · omega
  · split at h
    · omega
    · split at h
      · omega
      · omega
def rdEnd (B : List UInt8) (mask : Bool) : Nat := szA B + (if mask then 4 else 0) + szS B
def rdY (B : List UInt8) (mask : Bool) : Nat := if kY B mask ≠ 0 then kY B mask else if szY B ≠ 0 then szY B else if B.length < rdEnd B mask then 1 else 0
def rdL (B : List UInt8) (mask : Bool) : List UInt8 := xm ((B.take (szA B + (if mask then 4 else 0))).drop (szA B)) ((B.take (rdEnd B mask)).drop (szA B + (if mask then 4 else 0)))
theorem szA_le (B : List UInt8) : szA B ≤ 10 := by
  unfold szA szAt
  split
  · split
    · omega
    · split <;> omega
  · omega
theorem szS_le (B : List UInt8) : szS B ≤ 16384 := by
  unfold szS
  split
  · rename_i h
    unfold szY at h
    simp only at h
    split at h
    · omega
    · split at h
      · omega
      · split at h <;> omega
  · omega

theorem own3 {C : Nat} {W : World} {R : Nat} {a : Option Addr} {c : Nat} {l : List UInt8} (o : OwnB W C a c l) (hR : R < C) (x y z : Value) : OwnB (((W.setCell ⟨R, 0, none⟩ x).setCell ⟨R, 1, none⟩ y).setCell ⟨R, 2, none⟩ z) R a c l := by
  have hne : ∀ r, blk a = some r → r ≠ R := fun r hr e => by subst e; have := (o.lt r hr).1; omega
  have st : ∀ (v : World) (p : Addr) (u : Value), p.block = R → OwnB v C a c l → OwnB (v.setCell p u) C a c l := fun v p u hp h => h.kept (grownBy_setCell v p u) (.inr (fun e => hne _ e hp))
  exact (st _ _ _ rfl (st _ _ _ rfl (st _ _ _ rfl o))).base (Nat.le_of_lt hR)

set_option linter.unusedSimpArgs false in
set_option maxHeartbeats 600000 in
theorem rd_any (a : Option Addr) (cap : Nat) (B : List UInt8) (mask : Bool) (w : World) (hB : Bs w a cap B) :
    Calls Tryd.prog 14 #[.slice a B.length cap, .bool mask] w fun e w' => Hid (Below w.heap.size w w') ∧
      ((Hid (rdY B mask ≠ 0) ∧ e = .returned (.tuple #[.agg #[.bool false, .int .i64 0, .slice none 0 0], .int .i64 0, .int .i64 (rdY B mask : Nat)])) ∨
       (Hid (rdY B mask = 0) ∧ ∃ a' c' r, e = .returned (.tuple #[.agg #[.bool (kFin B), .int .i64 (kOp B : Nat), .slice a' r.length c'], .int .i64 (rdEnd B mask : Nat), .int .i64 0]) ∧ Hid (r = rdL B mask) ∧ Hid (OwnB w' w.heap.size a' c' r))) := by
  have hmost := hB.most
  have hle := hB.le
  unfold maxLen at hmost
  have HBd := hide hB
  obtain ⟨w1, hw1⟩ : ∃ w1, w1 = w.alloc (.cells #[.bool false, .int .i64 0, .slice none 0 0] 44) := ⟨_, rfl⟩
  have hB1 : Below w.heap.size w w1 := by rw [hw1]; exact (Below.refl _ _).alloc (Nat.le_refl _) _
  have HR1 : Hid (w1.heap[w.heap.size]? = some (.cells #[.bool false, .int .i64 0, .slice none 0 0] 44 (0, 0))) := by show _ = _; rw [hw1]; exact heap_alloc_new w _
  have hs1 : w.heap.size < w1.heap.size := (Array.getElem?_eq_some_iff.1 (unhide HR1)).1
  go_enter Tryd.func14, Tryd.ntmps14
  go_wp2_with fail
  rw [← hw1]
  refine (rk_any a cap B mask w1 (hB.below hB1 (Nat.le_refl _))).mono ?_
  rintro e w2 ⟨rfl, b2⟩
  have HB2 := hide (hB1.trans (b2.mono hB1.size))
  have HR2 : Hid (w2.heap[w.heap.size]? = some (.cells #[.bool false, .int .i64 0, .slice none 0 0] 44 (0, 0))) := (b2.block _ hs1).trans (unhide HR1)
  have hs2 : w.heap.size < w2.heap.size := (Array.getElem?_eq_some_iff.1 (unhide HR2)).1
  clear hw1 hB1 HR1 hs1 b2 hB
  by_cases hk : kY B mask = 0
  · have h2 := kY_len hk
    have hfr : frV (kY B mask) (kFin B) (kOp B) = .agg #[.bool (kFin B), .int .i64 ((kOp B : Nat) : Int), .slice none 0 0] := by unfold frV; rw [if_pos hk]
    rw [hfr]
    have hRY : Hid (rdY B mask = if szY B ≠ 0 then szY B else if B.length < rdEnd B mask then 1 else 0) := by show _ = _; unfold rdY; rw [if_neg (by omega)]
    rw [hk]
    clear hfr hk
    go_upto_region 2 with fail
    have HWR : Hid ((w2.alloc (.cells #[.bool (kFin B), .int .i64 ((kOp B : Nat) : Int), .slice none 0 0] 44)).heap[w.heap.size]? = some (.cells #[.bool false, .int .i64 0, .slice none 0 0] 44 (0, 0))) := (Below.heap_alloc w2 _ _ hs2).trans (unhide HR2)
    have HWZ : Hid ((w2.alloc (.cells #[.bool (kFin B), .int .i64 ((kOp B : Nat) : Int), .slice none 0 0] 44)).heap[w2.heap.size]? = some (.cells #[.bool (kFin B), .int .i64 ((kOp B : Nat) : Int), .slice none 0 0] 44 (0, 0))) := heap_alloc_new w2 _
    have HWB : Hid (Below w.heap.size w (w2.alloc (.cells #[.bool (kFin B), .int .i64 ((kOp B : Nat) : Int), .slice none 0 0] 44))) := (unhide HB2).alloc (unhide HB2).size _
    generalize w2.alloc (.cells #[.bool (kFin B), .int .i64 ((kOp B : Nat) : Int), .slice none 0 0] 44) = W at *
    have r0 : W.cell? ⟨w.heap.size, 0, none⟩ = some (.bool false) := by rw [cell_of_row W w.heap.size 0 _ _ _ (unhide HWR)]; rfl
    have r1 : W.cell? ⟨w.heap.size, 1, none⟩ = some (.int .i64 0) := by rw [cell_of_row W w.heap.size 1 _ _ _ (unhide HWR)]; rfl
    have r2 : W.cell? ⟨w.heap.size, 2, none⟩ = some (.slice none 0 0) := by rw [cell_of_row W w.heap.size 2 _ _ _ (unhide HWR)]; rfl
    have g0 : W.frozen? ⟨w.heap.size, 0, none⟩ = false := frozen_of_row W w.heap.size 0 _ _ (unhide HWR)
    have g1 : W.frozen? ⟨w.heap.size, 1, none⟩ = false := frozen_of_row W w.heap.size 1 _ _ (unhide HWR)
    have g2 : W.frozen? ⟨w.heap.size, 2, none⟩ = false := frozen_of_row W w.heap.size 2 _ _ (unhide HWR)
    have z0 : W.cell? ⟨w2.heap.size, 0, none⟩ = some (.bool (kFin B)) := by rw [cell_of_row W w2.heap.size 0 _ _ _ (unhide HWZ)]; rfl
    have z1 : W.cell? ⟨w2.heap.size, 1, none⟩ = some (.int .i64 ((kOp B : Nat) : Int)) := by rw [cell_of_row W w2.heap.size 1 _ _ _ (unhide HWZ)]; rfl
    have z2 : W.cell? ⟨w2.heap.size, 2, none⟩ = some (.slice none 0 0) := by rw [cell_of_row W w2.heap.size 2 _ _ _ (unhide HWZ)]; rfl
    have y2 : W.frozen? ⟨w2.heap.size, 2, none⟩ = false := frozen_of_row W w2.heap.size 2 _ _ (unhide HWZ)
    go_wp2_with fail
    refine (rs_any a cap B W ((unhide HBd).below (unhide HWB) (Nat.le_refl _)) h2).mono ?_
    rintro e w3 ⟨rfl, rfl⟩
    by_cases hy : szY B = 0
    · rw [hy]
      obtain ⟨A, hA⟩ : ∃ A, szA B = A := ⟨_, rfl⟩
      obtain ⟨S, hS⟩ : ∃ S, szS B = S := ⟨_, rfl⟩
      have hA10 := szA_le B
      have hS16 := szS_le B
      rw [hA] at hA10
      rw [hS] at hS16
      rw [hA, hS]
      cases mask with
      | false =>
          obtain ⟨en, hen⟩ : ∃ en : Nat, en = A + S := ⟨_, rfl⟩
          have e2 : (A : Int) + (S : Int) = (en : Int) := by omega
          have HEN : Hid (en = rdEnd B false) := by show _ = _; unfold rdEnd; rw [hA, hS, hen]; simp
          by_cases hlen : B.length < en
          · have hlen' : (B.length : Int) < (en : Int) := by omega
            have HY : Hid (rdY B false = 1) := by show _ = _; rw [unhide hRY, if_neg (by omega), if_pos (by rw [← unhide HEN]; exact hlen)]
            clear hlen hen hA hS hRY
            go_wp2
            refine bodyPost_ret (v := .tuple #[.agg #[.bool false, .int .i64 0, .slice none 0 0], .int .i64 0, .int .i64 1]) (by simp [results, Tryd.results14, go_sem, r0, r1, r2]) rfl ⟨below3 (unhide HWB) (Nat.le_refl _) (Nat.le_refl _) _ _ _, .inl ⟨?_, ?_⟩⟩
            · show _ ≠ _
              rw [unhide HY]; omega
            · rw [unhide HY]; rfl
          · have hlen' : ¬ (B.length : Int) < (en : Int) := by omega
            have HY : Hid (rdY B false = 0) := by show _ = _; rw [unhide hRY, if_neg (by omega), if_neg (by rw [← unhide HEN]; exact hlen)]
            have hB3 := (unhide HBd).below (unhide HWB) (Nat.le_refl _)
            have hrow : B ≠ [] → ∃ b off, a = some ⟨b, off, none⟩ := fun h => by obtain ⟨b, off, e, _⟩ := hB3.row h; exact ⟨b, off, e⟩
            obtain ⟨a1, hsl1, hbs1⟩ := cut_mid a cap A en B hle (by omega) (by omega) hrow
            obtain ⟨a2, hsl2, hbs2⟩ := cut_mid a cap A A B hle (by omega) (by omega) hrow
            have HRD : Hid (rdL B false = xm ((B.take A).drop A) ((B.take en).drop A)) := by show _ = _; unfold rdL; rw [hA, ← unhide HEN]; simp
            have hl1 : ((B.take en).drop A).length = en - A := by simp; omega
            have hl2 : ((B.take A).drop A).length = A - A := by simp <;> omega
            rw [← hl1] at hsl1
            rw [← hl2] at hsl2
            have HL1 := hide (hbs1 w3 hB3)
            have HM1 := hide (hbs2 w3 hB3)
            have hm1l : ((B.take A).drop A).length = 0 := by omega
            have hl1l : ((B.take en).drop A).length ≤ 16384 := by rw [hl1]; omega
            generalize (B.take en).drop A = L1 at *
            generalize (B.take A).drop A = M1 at *
            have HMM : Hid (M1 = [] ∨ M1.length = 4) := .inl (List.eq_nil_of_length_eq_zero hm1l)
            have HDW : Hid (Below w3.heap.size w3 w3.drew) := (Below.refl _ _).drew
            have hZlt := (Array.getElem?_eq_some_iff.1 (unhide HWZ)).1
            have hRlt := (Array.getElem?_eq_some_iff.1 (unhide HWR)).1
            have hZlt2 : w2.heap.size < w3.drew.heap.size := hZlt
            clear hlen hl1 hl2 hbs1 hbs2 hB3 hrow hm1l hA hS hRY h2 hen
            go_wp2_with fail
            refine wp_region_held_drew (S := fun _ => True) (by kernel_rfl) trivial (fun hHeld => ?_)
            refine wpAnyH_take (i := 0) (oi := ?_) (v := ?_) ?_ (by kernel_rfl) ?_ ?_ ?_ ?_ hHeld ?_
            rotate_left 2
            · (simp only [List.getElem?_toArray, List.getElem?_cons_succ, List.getElem?_cons_zero]) <;> with_reducible rfl
            · kernel_rfl
            · kernel_rfl
            · exact fun _ _ _ h => h
            · exact Or.inl ⟨by rfl, by (intro w hSw; go_simp <;> with_reducible rfl)⟩
            try simp only [Act.put, List.setIfInBounds_toArray, List.set_cons_zero, List.set_cons_succ]
            refine wpAnyH_take (i := 1) (oi := ?_) (v := ?_) ?_ (by kernel_rfl) ?_ ?_ ?_ ?_ hHeld ?_
            rotate_left 2
            · (simp only [List.getElem?_toArray, List.getElem?_cons_succ, List.getElem?_cons_zero]) <;> with_reducible rfl
            · kernel_rfl
            · kernel_rfl
            · exact fun _ _ _ h => h
            · exact Or.inl ⟨by rfl, by (intro w hSw; go_simp <;> with_reducible rfl)⟩
            try simp only [Act.put, List.setIfInBounds_toArray, List.set_cons_zero, List.set_cons_succ]
            refine wpAnyH_take (i := 2) (oi := ?_) (v := ?_) ?_ (by kernel_rfl) ?_ ?_ ?_ ?_ hHeld ?_
            rotate_left 2
            · (simp only [List.getElem?_toArray, List.getElem?_cons_succ, List.getElem?_cons_zero]) <;> with_reducible rfl
            · kernel_rfl
            · kernel_rfl
            · exact fun _ _ _ h => h
            · exact Or.inl ⟨by rfl, by (intro w hSw; go_simp <;> with_reducible rfl)⟩
            try simp only [Act.put, List.setIfInBounds_toArray, List.set_cons_zero, List.set_cons_succ]
            refine wpAnyH_take (i := 3) (oi := ?_) (v := ?_) ?_ (by kernel_rfl) ?_ ?_ ?_ ?_ hHeld ?_
            rotate_left 2
            · (simp only [List.getElem?_toArray, List.getElem?_cons_succ, List.getElem?_cons_zero]) <;> with_reducible rfl
            · kernel_rfl
            · kernel_rfl
            · exact fun _ _ _ h => h
            · exact Or.inl ⟨by rfl, by (intro w hSw; go_simp <;> with_reducible rfl)⟩
            try simp only [Act.put, List.setIfInBounds_toArray, List.set_cons_zero, List.set_cons_succ]
            refine wpAnyH_take (i := 4) (oi := ?_) (v := ?_) ?_ (by kernel_rfl) ?_ ?_ ?_ ?_ hHeld ?_
            rotate_left 2
            · (simp only [List.getElem?_toArray, List.getElem?_cons_succ, List.getElem?_cons_zero]) <;> with_reducible rfl
            · kernel_rfl
            · kernel_rfl
            · exact fun _ _ _ h => h
            · exact Or.inl ⟨by rfl, by (intro w hSw; go_simp <;> with_reducible rfl)⟩
            try simp only [Act.put, List.setIfInBounds_toArray, List.set_cons_zero, List.set_cons_succ]
            refine wpAnyH_take (i := 5) (oi := ?_) (v := ?_) ?_ (by kernel_rfl) ?_ ?_ ?_ ?_ hHeld ?_
            rotate_left 2
            · (simp only [List.getElem?_toArray, List.getElem?_cons_succ, List.getElem?_cons_zero]) <;> with_reducible rfl
            · kernel_rfl
            · kernel_rfl
            · exact fun _ _ _ h => h
            · exact Or.inl ⟨by rfl, by (intro w hSw; go_simp <;> with_reducible rfl)⟩
            try simp only [Act.put, List.setIfInBounds_toArray, List.set_cons_zero, List.set_cons_succ]
            refine wpAnyH_take (i := 6) (oi := ?_) (v := ?_) ?_ (by kernel_rfl) ?_ ?_ ?_ ?_ hHeld ?_
            rotate_left 2
            · (simp only [List.getElem?_toArray, List.getElem?_cons_succ, List.getElem?_cons_zero]) <;> with_reducible rfl
            · kernel_rfl
            · kernel_rfl
            · exact fun _ _ _ h => h
            · exact Or.inl ⟨by rfl, by (intro w hSw; go_simp <;> with_reducible rfl)⟩
            try simp only [Act.put, List.setIfInBounds_toArray, List.set_cons_zero, List.set_cons_succ]
            refine wpAnyH_take (i := 7) (oi := ?_) (v := ?_) ?_ (by kernel_rfl) ?_ ?_ ?_ ?_ hHeld ?_
            rotate_left 2
            · (simp only [List.getElem?_toArray, List.getElem?_cons_succ, List.getElem?_cons_zero]) <;> with_reducible rfl
            · kernel_rfl
            · kernel_rfl
            · exact fun _ _ _ h => h
            · exact Or.inl ⟨by rfl, by (intro w hSw; go_simp <;> with_reducible rfl)⟩
            try simp only [Act.put, List.setIfInBounds_toArray, List.set_cons_zero, List.set_cons_succ]
            refine wpAnyH_ready (rs := [8]) (by kernel_rfl) (by simp) (AllReadyH.cons (o := ?_) ?_ (fun K hK => ?_) AllReadyH.nil)
            rotate_left 1
            · (simp only [List.getElem?_toArray, List.getElem?_cons_succ, List.getElem?_cons_zero]) <;> with_reducible rfl
            go_simp
            refine (wmask_any a1 (cap - A) L1 a2 (cap - A) M1 _ ((unhide HL1).below (unhide HDW) (Nat.le_refl _)) ((unhide HM1).below (unhide HDW) (Nat.le_refl _)) (by omega) (unhide HMM)).mono ?_
            rintro e w5 ⟨a5, c5, r5, rfl, hr5, ho5, hb5⟩
            have HB5 : Hid (Below w3.heap.size w3 w5) := (unhide HDW).trans ((unhide hb5).mono (unhide HDW).size)
            have hz5 : w5.heap[w2.heap.size]? = some (.cells #[.bool (kFin B), .int .i64 ((kOp B : Nat) : Int), .slice none 0 0] 44 (0, 0)) := ((unhide HB5).block _ hZlt).trans (unhide HWZ)
            have hR5 : w5.heap[w.heap.size]? = some (.cells #[.bool false, .int .i64 0, .slice none 0 0] 44 (0, 0)) := ((unhide HB5).block _ hRlt).trans (unhide HWR)
            have q2 : w5.cell? ⟨w2.heap.size, 2, none⟩ = some (.slice none 0 0) := by rw [cell_of_row w5 w2.heap.size 2 _ _ _ hz5]; rfl
            have qf : w5.frozen? ⟨w2.heap.size, 2, none⟩ = false := frozen_of_row w5 w2.heap.size 2 _ _ hz5
            have HZ5 := hide hz5
            have HR5 := hide hR5
            clear hz5 hR5 hHeld
            refine hK.out _ _ trivial (fun hHeld => ?_)
            clear hK K
            try simp only [Act.put, List.setIfInBounds_toArray, List.set_cons_zero, List.set_cons_succ]
            refine wpAnyH_take (i := 9) (oi := ?_) (v := ?_) ?_ (by kernel_rfl) ?_ ?_ ?_ ?_ hHeld ?_
            rotate_left 2
            · (simp only [List.getElem?_toArray, List.getElem?_cons_succ, List.getElem?_cons_zero]) <;> with_reducible rfl
            · kernel_rfl
            · kernel_rfl
            · exact fun _ _ _ h => h
            · exact Or.inl ⟨by rfl, by (intro w hSw; go_simp <;> with_reducible rfl)⟩
            try simp only [Act.put, List.setIfInBounds_toArray, List.set_cons_zero, List.set_cons_succ]
            refine wpAnyH_ready (rs := [10]) (by kernel_rfl) (by simp) (AllReadyH.cons (o := ?_) ?_ (fun K hK => ?_) AllReadyH.nil)
            rotate_left 1
            · (simp only [List.getElem?_toArray, List.getElem?_cons_succ, List.getElem?_cons_zero]) <;> with_reducible rfl
            go_simp
            refine hK.out _ _ trivial (fun hHeld => ?_)
            clear hK K
            try simp only [Act.put, List.setIfInBounds_toArray, List.set_cons_zero, List.set_cons_succ]
            refine wpAnyH_done (by kernel_rfl) ?_ _
            clear hHeld
            have HZ6 : Hid ((w5.setCell ⟨w2.heap.size, 2, none⟩ (.slice a5 r5.length c5)).heap[w2.heap.size]? = some (.cells #[.bool (kFin B), .int .i64 ((kOp B : Nat) : Int), .slice a5 r5.length c5] 44 (0, 0))) := by
              show _ = _
              rw [heap_setCell_same w5 w2.heap.size 2 _ _ _ (unhide HZ5)]
              rfl
            have HR6 : Hid ((w5.setCell ⟨w2.heap.size, 2, none⟩ (.slice a5 r5.length c5)).heap[w.heap.size]? = some (.cells #[.bool false, .int .i64 0, .slice none 0 0] 44 (0, 0))) := by
              show _ = _
              rw [heap_setCell_other w5 ⟨w2.heap.size, 2, none⟩ w.heap.size _ (by show w.heap.size ≠ w2.heap.size; omega)]
              exact unhide HR5
            have HB6 : Hid (Below w.heap.size w (w5.setCell ⟨w2.heap.size, 2, none⟩ (.slice a5 r5.length c5))) := ((unhide HWB).trans ((unhide HB5).mono (unhide HWB).size)).grown (grownBy_setCell w5 ⟨w2.heap.size, 2, none⟩ _) (Nat.le_trans (unhide HWB).size (unhide HB5).size) (fun k hk => by rw [← Option.some.inj hk]; exact Nat.le_of_lt hs2)
            have HO6 : Hid (OwnB (w5.setCell ⟨w2.heap.size, 2, none⟩ (.slice a5 r5.length c5)) w2.heap.size a5 c5 r5) := by
              refine ((unhide ho5).base (Nat.le_of_lt hZlt2)).kept (grownBy_setCell w5 ⟨w2.heap.size, 2, none⟩ _) (.inr ?_)
              intro e
              have h1 := ((unhide ho5).lt w2.heap.size e).1
              omega
            clear q2 qf HZ5 HR5 r0 r1 r2 g0 g1 g2 z0 z1 z2 y2
            generalize w5.setCell ⟨w2.heap.size, 2, none⟩ (.slice a5 r5.length c5) = w6 at *
            have r0 : w6.cell? ⟨w.heap.size, 0, none⟩ = some (.bool false) := by rw [cell_of_row w6 w.heap.size 0 _ _ _ (unhide HR6)]; rfl
            have r1 : w6.cell? ⟨w.heap.size, 1, none⟩ = some (.int .i64 0) := by rw [cell_of_row w6 w.heap.size 1 _ _ _ (unhide HR6)]; rfl
            have r2 : w6.cell? ⟨w.heap.size, 2, none⟩ = some (.slice none 0 0) := by rw [cell_of_row w6 w.heap.size 2 _ _ _ (unhide HR6)]; rfl
            have g0 : w6.frozen? ⟨w.heap.size, 0, none⟩ = false := frozen_of_row w6 w.heap.size 0 _ _ (unhide HR6)
            have g1 : w6.frozen? ⟨w.heap.size, 1, none⟩ = false := frozen_of_row w6 w.heap.size 1 _ _ (unhide HR6)
            have g2 : w6.frozen? ⟨w.heap.size, 2, none⟩ = false := frozen_of_row w6 w.heap.size 2 _ _ (unhide HR6)
            have z0 : w6.cell? ⟨w2.heap.size, 0, none⟩ = some (.bool (kFin B)) := by rw [cell_of_row w6 w2.heap.size 0 _ _ _ (unhide HZ6)]; rfl
            have z1 : w6.cell? ⟨w2.heap.size, 1, none⟩ = some (.int .i64 ((kOp B : Nat) : Int)) := by rw [cell_of_row w6 w2.heap.size 1 _ _ _ (unhide HZ6)]; rfl
            have z2 : w6.cell? ⟨w2.heap.size, 2, none⟩ = some (.slice a5 r5.length c5) := by rw [cell_of_row w6 w2.heap.size 2 _ _ _ (unhide HZ6)]; rfl
            go_wp2
            refine bodyPost_ret (v := .tuple #[.agg #[.bool (kFin B), .int .i64 ((kOp B : Nat) : Int), .slice a5 r5.length c5], .int .i64 (en : Int), .int .i64 0]) (by simp [results, Tryd.results14, go_sem, r0, r1, r2]) rfl ⟨below3 (unhide HB6) (Nat.le_refl _) (Nat.le_refl _) _ _ _, .inr ⟨unhide HY, a5, c5, r5, ?_, ?_, ?_⟩⟩
            · rw [← unhide HEN]
            · show _ = _
              rw [unhide hr5, unhide HRD]
            · refine own3 (unhide HO6) hs2 _ _ _
      | true =>
          obtain ⟨ld, hld⟩ : ∃ ld : Nat, ld = A + 4 := ⟨_, rfl⟩
          have e1 : (A : Int) + 4 = (ld : Int) := by omega
          obtain ⟨en, hen⟩ : ∃ en : Nat, en = ld + S := ⟨_, rfl⟩
          have e2 : (ld : Int) + (S : Int) = (en : Int) := by omega
          have HEN : Hid (en = rdEnd B true) := by show _ = _; unfold rdEnd; rw [hA, hS, hen, hld]; rfl
          by_cases hlen : B.length < en
          · have hlen' : (B.length : Int) < (en : Int) := by omega
            have HY : Hid (rdY B true = 1) := by show _ = _; rw [unhide hRY, if_neg (by omega), if_pos (by rw [← unhide HEN]; exact hlen)]
            clear hlen hld hen hA hS hRY
            go_wp2
            refine bodyPost_ret (v := .tuple #[.agg #[.bool false, .int .i64 0, .slice none 0 0], .int .i64 0, .int .i64 1]) (by simp [results, Tryd.results14, go_sem, r0, r1, r2]) rfl ⟨below3 (unhide HWB) (Nat.le_refl _) (Nat.le_refl _) _ _ _, .inl ⟨?_, ?_⟩⟩
            · show _ ≠ _
              rw [unhide HY]; omega
            · rw [unhide HY]; rfl
          · have hlen' : ¬ (B.length : Int) < (en : Int) := by omega
            have HY : Hid (rdY B true = 0) := by show _ = _; rw [unhide hRY, if_neg (by omega), if_neg (by rw [← unhide HEN]; exact hlen)]
            have hB3 := (unhide HBd).below (unhide HWB) (Nat.le_refl _)
            have hrow : B ≠ [] → ∃ b off, a = some ⟨b, off, none⟩ := fun h => by obtain ⟨b, off, e, _⟩ := hB3.row h; exact ⟨b, off, e⟩
            obtain ⟨a1, hsl1, hbs1⟩ := cut_mid a cap ld en B hle (by omega) (by omega) hrow
            obtain ⟨a2, hsl2, hbs2⟩ := cut_mid a cap A ld B hle (by omega) (by omega) hrow
            have HRD : Hid (rdL B true = xm ((B.take ld).drop A) ((B.take en).drop ld)) := by show _ = _; unfold rdL; rw [hA, ← unhide HEN, hld]; rfl
            have hl1 : ((B.take en).drop ld).length = en - ld := by simp; omega
            have hl2 : ((B.take ld).drop A).length = ld - A := by simp; omega
            rw [← hl1] at hsl1
            rw [← hl2] at hsl2
            have HL1 := hide (hbs1 w3 hB3)
            have HM1 := hide (hbs2 w3 hB3)
            have hm1l : ((B.take ld).drop A).length = 4 := by omega
            have hl1l : ((B.take en).drop ld).length ≤ 16384 := by rw [hl1]; omega
            generalize (B.take en).drop ld = L1 at *
            generalize (B.take ld).drop A = M1 at *
            have HMM : Hid (M1 = [] ∨ M1.length = 4) := .inr hm1l
            have HDW : Hid (Below w3.heap.size w3 w3.drew) := (Below.refl _ _).drew
            have hZlt := (Array.getElem?_eq_some_iff.1 (unhide HWZ)).1
            have hRlt := (Array.getElem?_eq_some_iff.1 (unhide HWR)).1
            have hZlt2 : w2.heap.size < w3.drew.heap.size := hZlt
            clear hlen hl1 hl2 hbs1 hbs2 hB3 hrow hm1l hA hS hRY h2 hld hen
            go_wp2_with fail
            refine wp_region_held_drew (S := fun _ => True) (by kernel_rfl) trivial (fun hHeld => ?_)
            refine wpAnyH_take (i := 0) (oi := ?_) (v := ?_) ?_ (by kernel_rfl) ?_ ?_ ?_ ?_ hHeld ?_
            rotate_left 2
            · (simp only [List.getElem?_toArray, List.getElem?_cons_succ, List.getElem?_cons_zero]) <;> with_reducible rfl
            · kernel_rfl
            · kernel_rfl
            · exact fun _ _ _ h => h
            · exact Or.inl ⟨by rfl, by (intro w hSw; go_simp <;> with_reducible rfl)⟩
            try simp only [Act.put, List.setIfInBounds_toArray, List.set_cons_zero, List.set_cons_succ]
            refine wpAnyH_take (i := 1) (oi := ?_) (v := ?_) ?_ (by kernel_rfl) ?_ ?_ ?_ ?_ hHeld ?_
            rotate_left 2
            · (simp only [List.getElem?_toArray, List.getElem?_cons_succ, List.getElem?_cons_zero]) <;> with_reducible rfl
            · kernel_rfl
            · kernel_rfl
            · exact fun _ _ _ h => h
            · exact Or.inl ⟨by rfl, by (intro w hSw; go_simp <;> with_reducible rfl)⟩
            try simp only [Act.put, List.setIfInBounds_toArray, List.set_cons_zero, List.set_cons_succ]
            refine wpAnyH_take (i := 2) (oi := ?_) (v := ?_) ?_ (by kernel_rfl) ?_ ?_ ?_ ?_ hHeld ?_
            rotate_left 2
            · (simp only [List.getElem?_toArray, List.getElem?_cons_succ, List.getElem?_cons_zero]) <;> with_reducible rfl
            · kernel_rfl
            · kernel_rfl
            · exact fun _ _ _ h => h
            · exact Or.inl ⟨by rfl, by (intro w hSw; go_simp <;> with_reducible rfl)⟩
            try simp only [Act.put, List.setIfInBounds_toArray, List.set_cons_zero, List.set_cons_succ]
            refine wpAnyH_take (i := 3) (oi := ?_) (v := ?_) ?_ (by kernel_rfl) ?_ ?_ ?_ ?_ hHeld ?_
            rotate_left 2
            · (simp only [List.getElem?_toArray, List.getElem?_cons_succ, List.getElem?_cons_zero]) <;> with_reducible rfl
            · kernel_rfl
            · kernel_rfl
            · exact fun _ _ _ h => h
            · exact Or.inl ⟨by rfl, by (intro w hSw; go_simp <;> with_reducible rfl)⟩
            try simp only [Act.put, List.setIfInBounds_toArray, List.set_cons_zero, List.set_cons_succ]
            refine wpAnyH_take (i := 4) (oi := ?_) (v := ?_) ?_ (by kernel_rfl) ?_ ?_ ?_ ?_ hHeld ?_
            rotate_left 2
            · (simp only [List.getElem?_toArray, List.getElem?_cons_succ, List.getElem?_cons_zero]) <;> with_reducible rfl
            · kernel_rfl
            · kernel_rfl
            · exact fun _ _ _ h => h
            · exact Or.inl ⟨by rfl, by (intro w hSw; go_simp <;> with_reducible rfl)⟩
            try simp only [Act.put, List.setIfInBounds_toArray, List.set_cons_zero, List.set_cons_succ]
            refine wpAnyH_take (i := 5) (oi := ?_) (v := ?_) ?_ (by kernel_rfl) ?_ ?_ ?_ ?_ hHeld ?_
            rotate_left 2
            · (simp only [List.getElem?_toArray, List.getElem?_cons_succ, List.getElem?_cons_zero]) <;> with_reducible rfl
            · kernel_rfl
            · kernel_rfl
            · exact fun _ _ _ h => h
            · exact Or.inl ⟨by rfl, by (intro w hSw; go_simp <;> with_reducible rfl)⟩
            try simp only [Act.put, List.setIfInBounds_toArray, List.set_cons_zero, List.set_cons_succ]
            refine wpAnyH_take (i := 6) (oi := ?_) (v := ?_) ?_ (by kernel_rfl) ?_ ?_ ?_ ?_ hHeld ?_
            rotate_left 2
            · (simp only [List.getElem?_toArray, List.getElem?_cons_succ, List.getElem?_cons_zero]) <;> with_reducible rfl
            · kernel_rfl
            · kernel_rfl
            · exact fun _ _ _ h => h
            · exact Or.inl ⟨by rfl, by (intro w hSw; go_simp <;> with_reducible rfl)⟩
            try simp only [Act.put, List.setIfInBounds_toArray, List.set_cons_zero, List.set_cons_succ]
            refine wpAnyH_take (i := 7) (oi := ?_) (v := ?_) ?_ (by kernel_rfl) ?_ ?_ ?_ ?_ hHeld ?_
            rotate_left 2
            · (simp only [List.getElem?_toArray, List.getElem?_cons_succ, List.getElem?_cons_zero]) <;> with_reducible rfl
            · kernel_rfl
            · kernel_rfl
            · exact fun _ _ _ h => h
            · exact Or.inl ⟨by rfl, by (intro w hSw; go_simp <;> with_reducible rfl)⟩
            try simp only [Act.put, List.setIfInBounds_toArray, List.set_cons_zero, List.set_cons_succ]
            refine wpAnyH_ready (rs := [8]) (by kernel_rfl) (by simp) (AllReadyH.cons (o := ?_) ?_ (fun K hK => ?_) AllReadyH.nil)
            rotate_left 1
            · (simp only [List.getElem?_toArray, List.getElem?_cons_succ, List.getElem?_cons_zero]) <;> with_reducible rfl
            go_simp
            refine (wmask_any a1 (cap - ld) L1 a2 (cap - A) M1 _ ((unhide HL1).below (unhide HDW) (Nat.le_refl _)) ((unhide HM1).below (unhide HDW) (Nat.le_refl _)) (by omega) (unhide HMM)).mono ?_
            rintro e w5 ⟨a5, c5, r5, rfl, hr5, ho5, hb5⟩
            have HB5 : Hid (Below w3.heap.size w3 w5) := (unhide HDW).trans ((unhide hb5).mono (unhide HDW).size)
            have hz5 : w5.heap[w2.heap.size]? = some (.cells #[.bool (kFin B), .int .i64 ((kOp B : Nat) : Int), .slice none 0 0] 44 (0, 0)) := ((unhide HB5).block _ hZlt).trans (unhide HWZ)
            have hR5 : w5.heap[w.heap.size]? = some (.cells #[.bool false, .int .i64 0, .slice none 0 0] 44 (0, 0)) := ((unhide HB5).block _ hRlt).trans (unhide HWR)
            have q2 : w5.cell? ⟨w2.heap.size, 2, none⟩ = some (.slice none 0 0) := by rw [cell_of_row w5 w2.heap.size 2 _ _ _ hz5]; rfl
            have qf : w5.frozen? ⟨w2.heap.size, 2, none⟩ = false := frozen_of_row w5 w2.heap.size 2 _ _ hz5
            have HZ5 := hide hz5
            have HR5 := hide hR5
            clear hz5 hR5 hHeld
            refine hK.out _ _ trivial (fun hHeld => ?_)
            clear hK K
            try simp only [Act.put, List.setIfInBounds_toArray, List.set_cons_zero, List.set_cons_succ]
            refine wpAnyH_take (i := 9) (oi := ?_) (v := ?_) ?_ (by kernel_rfl) ?_ ?_ ?_ ?_ hHeld ?_
            rotate_left 2
            · (simp only [List.getElem?_toArray, List.getElem?_cons_succ, List.getElem?_cons_zero]) <;> with_reducible rfl
            · kernel_rfl
            · kernel_rfl
            · exact fun _ _ _ h => h
            · exact Or.inl ⟨by rfl, by (intro w hSw; go_simp <;> with_reducible rfl)⟩
            try simp only [Act.put, List.setIfInBounds_toArray, List.set_cons_zero, List.set_cons_succ]
            refine wpAnyH_ready (rs := [10]) (by kernel_rfl) (by simp) (AllReadyH.cons (o := ?_) ?_ (fun K hK => ?_) AllReadyH.nil)
            rotate_left 1
            · (simp only [List.getElem?_toArray, List.getElem?_cons_succ, List.getElem?_cons_zero]) <;> with_reducible rfl
            go_simp
            refine hK.out _ _ trivial (fun hHeld => ?_)
            clear hK K
            try simp only [Act.put, List.setIfInBounds_toArray, List.set_cons_zero, List.set_cons_succ]
            refine wpAnyH_done (by kernel_rfl) ?_ _
            clear hHeld
            have HZ6 : Hid ((w5.setCell ⟨w2.heap.size, 2, none⟩ (.slice a5 r5.length c5)).heap[w2.heap.size]? = some (.cells #[.bool (kFin B), .int .i64 ((kOp B : Nat) : Int), .slice a5 r5.length c5] 44 (0, 0))) := by
              show _ = _
              rw [heap_setCell_same w5 w2.heap.size 2 _ _ _ (unhide HZ5)]
              rfl
            have HR6 : Hid ((w5.setCell ⟨w2.heap.size, 2, none⟩ (.slice a5 r5.length c5)).heap[w.heap.size]? = some (.cells #[.bool false, .int .i64 0, .slice none 0 0] 44 (0, 0))) := by
              show _ = _
              rw [heap_setCell_other w5 ⟨w2.heap.size, 2, none⟩ w.heap.size _ (by show w.heap.size ≠ w2.heap.size; omega)]
              exact unhide HR5
            have HB6 : Hid (Below w.heap.size w (w5.setCell ⟨w2.heap.size, 2, none⟩ (.slice a5 r5.length c5))) := ((unhide HWB).trans ((unhide HB5).mono (unhide HWB).size)).grown (grownBy_setCell w5 ⟨w2.heap.size, 2, none⟩ _) (Nat.le_trans (unhide HWB).size (unhide HB5).size) (fun k hk => by rw [← Option.some.inj hk]; exact Nat.le_of_lt hs2)
            have HO6 : Hid (OwnB (w5.setCell ⟨w2.heap.size, 2, none⟩ (.slice a5 r5.length c5)) w2.heap.size a5 c5 r5) := by
              refine ((unhide ho5).base (Nat.le_of_lt hZlt2)).kept (grownBy_setCell w5 ⟨w2.heap.size, 2, none⟩ _) (.inr ?_)
              intro e
              have h1 := ((unhide ho5).lt w2.heap.size e).1
              omega
            clear q2 qf HZ5 HR5 r0 r1 r2 g0 g1 g2 z0 z1 z2 y2
            generalize w5.setCell ⟨w2.heap.size, 2, none⟩ (.slice a5 r5.length c5) = w6 at *
            have r0 : w6.cell? ⟨w.heap.size, 0, none⟩ = some (.bool false) := by rw [cell_of_row w6 w.heap.size 0 _ _ _ (unhide HR6)]; rfl
            have r1 : w6.cell? ⟨w.heap.size, 1, none⟩ = some (.int .i64 0) := by rw [cell_of_row w6 w.heap.size 1 _ _ _ (unhide HR6)]; rfl
            have r2 : w6.cell? ⟨w.heap.size, 2, none⟩ = some (.slice none 0 0) := by rw [cell_of_row w6 w.heap.size 2 _ _ _ (unhide HR6)]; rfl
            have g0 : w6.frozen? ⟨w.heap.size, 0, none⟩ = false := frozen_of_row w6 w.heap.size 0 _ _ (unhide HR6)
            have g1 : w6.frozen? ⟨w.heap.size, 1, none⟩ = false := frozen_of_row w6 w.heap.size 1 _ _ (unhide HR6)
            have g2 : w6.frozen? ⟨w.heap.size, 2, none⟩ = false := frozen_of_row w6 w.heap.size 2 _ _ (unhide HR6)
            have z0 : w6.cell? ⟨w2.heap.size, 0, none⟩ = some (.bool (kFin B)) := by rw [cell_of_row w6 w2.heap.size 0 _ _ _ (unhide HZ6)]; rfl
            have z1 : w6.cell? ⟨w2.heap.size, 1, none⟩ = some (.int .i64 ((kOp B : Nat) : Int)) := by rw [cell_of_row w6 w2.heap.size 1 _ _ _ (unhide HZ6)]; rfl
            have z2 : w6.cell? ⟨w2.heap.size, 2, none⟩ = some (.slice a5 r5.length c5) := by rw [cell_of_row w6 w2.heap.size 2 _ _ _ (unhide HZ6)]; rfl
            go_wp2
            refine bodyPost_ret (v := .tuple #[.agg #[.bool (kFin B), .int .i64 ((kOp B : Nat) : Int), .slice a5 r5.length c5], .int .i64 (en : Int), .int .i64 0]) (by simp [results, Tryd.results14, go_sem, r0, r1, r2]) rfl ⟨below3 (unhide HB6) (Nat.le_refl _) (Nat.le_refl _) _ _ _, .inr ⟨unhide HY, a5, c5, r5, ?_, ?_, ?_⟩⟩
            · rw [← unhide HEN]
            · show _ = _
              rw [unhide hr5, unhide HRD]
            · refine own3 (unhide HO6) hs2 _ _ _
    · have HY : Hid (rdY B mask = szY B) := by show _ = _; rw [unhide hRY, if_pos hy]
      have hkb : ((szY B : Int) != 0) = true := by simp; omega
      have HK := hide hy
      generalize szY B = K at *
      clear hy
      go_wp2
      refine bodyPost_ret (v := .tuple #[.agg #[.bool false, .int .i64 0, .slice none 0 0], .int .i64 0, .int .i64 (K : Int)]) (by simp [results, Tryd.results14, go_sem, r0, r1, r2]) rfl ⟨below3 (unhide HWB) (Nat.le_refl _) (Nat.le_refl _) _ _ _, .inl ⟨?_, ?_⟩⟩
      · show _ ≠ _
        rw [unhide HY]; exact unhide HK
      · rw [unhide HY]
  · have HY : Hid (rdY B mask = kY B mask) := by show _ = _; unfold rdY; rw [if_pos hk]
    have hkb : ((kY B mask : Int) != 0) = true := by simp; omega
    have hfr : frV (kY B mask) (kFin B) (kOp B) = .agg #[.bool false, .int .i64 0, .slice none 0 0] := by unfold frV; rw [if_neg hk]
    rw [hfr]
    have HK := hide hk
    generalize kY B mask = K at *
    clear hk hfr
    go_upto_region 2 with fail
    have HWR : Hid ((w2.alloc (.cells #[.bool false, .int .i64 0, .slice none 0 0] 44)).heap[w.heap.size]? = some (.cells #[.bool false, .int .i64 0, .slice none 0 0] 44 (0, 0))) := (Below.heap_alloc w2 _ _ hs2).trans (unhide HR2)
    have HWZ : Hid ((w2.alloc (.cells #[.bool false, .int .i64 0, .slice none 0 0] 44)).heap[w2.heap.size]? = some (.cells #[.bool false, .int .i64 0, .slice none 0 0] 44 (0, 0))) := heap_alloc_new w2 _
    have HWB : Hid (Below w.heap.size w (w2.alloc (.cells #[.bool false, .int .i64 0, .slice none 0 0] 44))) := (unhide HB2).alloc (unhide HB2).size _
    generalize w2.alloc (.cells #[.bool false, .int .i64 0, .slice none 0 0] 44) = W at *
    have r0 : W.cell? ⟨w.heap.size, 0, none⟩ = some (.bool false) := by rw [cell_of_row W w.heap.size 0 _ _ _ (unhide HWR)]; rfl
    have r1 : W.cell? ⟨w.heap.size, 1, none⟩ = some (.int .i64 0) := by rw [cell_of_row W w.heap.size 1 _ _ _ (unhide HWR)]; rfl
    have r2 : W.cell? ⟨w.heap.size, 2, none⟩ = some (.slice none 0 0) := by rw [cell_of_row W w.heap.size 2 _ _ _ (unhide HWR)]; rfl
    have g0 : W.frozen? ⟨w.heap.size, 0, none⟩ = false := frozen_of_row W w.heap.size 0 _ _ (unhide HWR)
    have g1 : W.frozen? ⟨w.heap.size, 1, none⟩ = false := frozen_of_row W w.heap.size 1 _ _ (unhide HWR)
    have g2 : W.frozen? ⟨w.heap.size, 2, none⟩ = false := frozen_of_row W w.heap.size 2 _ _ (unhide HWR)
    have z0 : W.cell? ⟨w2.heap.size, 0, none⟩ = some (.bool false) := by rw [cell_of_row W w2.heap.size 0 _ _ _ (unhide HWZ)]; rfl
    have z1 : W.cell? ⟨w2.heap.size, 1, none⟩ = some (.int .i64 0) := by rw [cell_of_row W w2.heap.size 1 _ _ _ (unhide HWZ)]; rfl
    have z2 : W.cell? ⟨w2.heap.size, 2, none⟩ = some (.slice none 0 0) := by rw [cell_of_row W w2.heap.size 2 _ _ _ (unhide HWZ)]; rfl
    have y2 : W.frozen? ⟨w2.heap.size, 2, none⟩ = false := frozen_of_row W w2.heap.size 2 _ _ (unhide HWZ)
    go_wp2
    refine bodyPost_ret (v := .tuple #[.agg #[.bool false, .int .i64 0, .slice none 0 0], .int .i64 0, .int .i64 (K : Int)]) (by simp [results, Tryd.results14, go_sem, r0, r1, r2]) rfl ⟨below3 (unhide HWB) (Nat.le_refl _) (Nat.le_refl _) _ _ _, .inl ⟨?_, ?_⟩⟩
    · show _ ≠ _
      rw [unhide HY]; exact unhide HK
    · rw [unhide HY]
#print axioms rd_any
end Go.Proofs.YtegbcjfceooflaaDoor
end
section
set_option linter.unusedVariables false
namespace Go.Proofs.YtegbcjfceooflaaDoor
open Go.RowKit

theorem xm_xm (m l : List UInt8) : xm m (xm m l) = l := by
  unfold xm
  by_cases h : m = []
  · rw [if_pos h, if_pos h]
  · rw [if_neg h, if_neg h]
    apply List.ext_getElem?
    intro i
    by_cases hi : i < l.length
    · simp only [pm, List.getElem?_mapIdx, List.getElem?_eq_getElem hi, Option.map_some, List.length_mapIdx, hi, if_true]
      rw [UInt8.xor_assoc, UInt8.xor_self, UInt8.xor_zero]
    · simp only [pm, List.getElem?_mapIdx]
      rw [List.getElem?_eq_none (by omega)]
      rfl
theorem mayB_le {op s t : Int} {fin : Bool} (h : mayB op fin s = true) (ht : t ≤ s) : mayB op fin t = true := by
  unfold mayB at h ⊢
  split
  · rename_i hc
    rw [if_pos hc] at h
    simp only [Bool.and_eq_true, decide_eq_true_eq] at h ⊢
    exact ⟨h.1, by omega⟩
  · rename_i hc
    rw [if_neg hc] at h
    exact h
theorem kFin_of {c1 : UInt8} {R : List UInt8} {n : Nat} {fin : Bool} (h1 : c1.toNat = n + if fin then 128 else 0) (hn : n ≤ 10) : kFin (c1 :: R) = fin := by
  unfold kFin
  simp only [List.getD_cons_zero]
  rw [h1]
  cases fin
  · exact decide_eq_false (by simp; omega)
  · exact decide_eq_true (by simp)
theorem kOp_of {c1 : UInt8} {R : List UInt8} {n : Nat} {fin : Bool} (h1 : c1.toNat = n + if fin then 128 else 0) (hn : n ≤ 10) : kOp (c1 :: R) = n := by
  unfold kOp
  simp only [List.getD_cons_zero]
  rw [h1]
  cases fin
  · simp; omega
  · simp; omega
theorem k112 {c1 : UInt8} {n : Nat} {fin : Bool} (h1 : c1.toNat = n + if fin then 128 else 0) (hn : n ≤ 10) : decide (c1.toNat / 16 % 8 ≠ 0) = false := by
  rw [h1]
  cases fin
  · exact decide_eq_false (by simp; omega)
  · exact decide_eq_false (by simp; omega)
theorem kY_one {c1 : UInt8} {n : Nat} {fin mask : Bool} (h1 : c1.toNat = n + if fin then 128 else 0) (hn : n ≤ 10) (h0 : mayB (n : Int) fin 0 = true) : kY [c1] mask = 1 := by
  unfold kY
  rw [kFin_of h1 hn, kOp_of h1 hn]
  simp only [List.getD_cons_zero]
  rw [k112 h1 hn, h0]
  simp
theorem hi2 {c2 : UInt8} {s : Nat} {mk : Bool} (h2 : c2.toNat = (if mk then 128 else 0) + s) (hs : s < 128) : decide (128 ≤ c2.toNat) = mk ∧ c2.toNat % 128 = s := by
  rw [h2]
  cases mk
  · exact ⟨decide_eq_false (by simp; omega), by simp; omega⟩
  · exact ⟨decide_eq_true (by simp), by simp; omega⟩
theorem kY_two {c1 c2 : UInt8} {R : List UInt8} {n s : Nat} {fin mk : Bool} (mask : Bool) (h1 : c1.toNat = n + if fin then 128 else 0) (hn : n ≤ 10) (h0 : mayB (n : Int) fin 0 = true) (h2 : c2.toNat = (if mk then 128 else 0) + s) (hs : s < 128) (hmay : mayB (n : Int) fin (s : Int) = true) : kY (c1 :: c2 :: R) mask = if mk = mask then 0 else 1002 := by
  unfold kY
  rw [kFin_of h1 hn, kOp_of h1 hn]
  simp only [List.getD_cons_zero, List.getD_cons_succ]
  rw [k112 h1 hn, h0, (hi2 h2 hs).1, (hi2 h2 hs).2, hmay]
  cases mk <;> cases mask <;> simp

theorem hd1_nat (n : Nat) (fin : Bool) (hn : n ≤ 10) : (hd1 n fin).toNat = n + if fin then 128 else 0 := by
  unfold hd1
  rw [UInt8.toNat_ofNat']
  cases fin
  · simp; omega
  · simp; omega
theorem mk1_of (m : List UInt8) (hm : m = [] ∨ m.length = 4) : mk1 m = if decide (m.length = 4) then 128 else 0 := by
  unfold mk1
  rcases hm with rfl | hm
  · simp
  · rw [if_neg (by intro e; subst e; simp at hm)]; simp [hm]
theorem four_of (m : List UInt8) (hm : m = [] ∨ m.length = 4) : (if decide (m.length = 4) then 4 else 0) = m.length := by
  rcases hm with rfl | hm
  · simp
  · simp [hm]

theorem szN_short {c1 c2 : UInt8} {R : List UInt8} {s : Nat} (h : c2.toNat % 128 = s) (hs : s ≤ 125) : szN (c1 :: c2 :: R) = s := by
  unfold szN
  simp only [List.getD_cons_zero, List.getD_cons_succ]
  rw [h]
  have : szAt s = 2 := by unfold szAt; rw [if_neg (by omega), if_neg (by omega)]
  rw [this, if_pos rfl]
theorem szY_short {c1 c2 : UInt8} {R : List UInt8} {s : Nat} (h : c2.toNat % 128 = s) (hs : s ≤ 125) : szY (c1 :: c2 :: R) = 0 := by
  unfold szY
  rw [szN_short h hs]
  simp only [List.getD_cons_zero, List.getD_cons_succ]
  rw [h]
  have e1 : szAt s = 2 := by unfold szAt; rw [if_neg (by omega), if_neg (by omega)]
  have e2 : szLe s = 0 := by unfold szLe; rw [if_neg (by omega), if_neg (by omega)]
  rw [e1, e2]
  rw [if_neg (by simp), if_neg (by omega), if_neg (by omega)]
theorem szA_short {c1 c2 : UInt8} {R : List UInt8} {s : Nat} (h : c2.toNat % 128 = s) (hs : s ≤ 125) : szA (c1 :: c2 :: R) = 2 := by
  unfold szA
  rw [szY_short h hs, if_pos rfl]
  simp only [List.getD_cons_zero, List.getD_cons_succ]
  rw [h]
  unfold szAt; rw [if_neg (by omega), if_neg (by omega)]
theorem szS_short {c1 c2 : UInt8} {R : List UInt8} {s : Nat} (h : c2.toNat % 128 = s) (hs : s ≤ 125) : szS (c1 :: c2 :: R) = s := by
  unfold szS
  rw [szY_short h hs, if_pos rfl, szN_short h hs]

theorem szY_cut {c1 c2 : UInt8} {R : List UInt8} (h : c2.toNat % 128 = 126) (hR : R.length < 2) : szY (c1 :: c2 :: R) = 1 := by
  unfold szY
  simp only [List.getD_cons_zero, List.getD_cons_succ]
  rw [h]
  have e1 : szAt 126 = 4 := rfl
  rw [e1, if_pos (by simp; omega)]
theorem szN_long {c1 c2 c3 c4 : UInt8} {R : List UInt8} {s : Nat} (h : c2.toNat % 128 = 126) (hs : c3.toNat * 256 + c4.toNat = s) : szN (c1 :: c2 :: c3 :: c4 :: R) = s := by
  unfold szN
  simp only [List.getD_cons_zero, List.getD_cons_succ]
  rw [h]
  have e1 : szAt 126 = 4 := rfl
  rw [e1, if_neg (by omega)]
  simp only [List.take_succ_cons, List.take_zero, List.drop_succ_cons, List.drop_zero]
  rw [← hs]
  simp [fh]
theorem szY_long {c1 c2 c3 c4 : UInt8} {R : List UInt8} {s : Nat} (h : c2.toNat % 128 = 126) (hs : c3.toNat * 256 + c4.toNat = s) (h1 : 126 ≤ s) (h2 : s ≤ 16384) : szY (c1 :: c2 :: c3 :: c4 :: R) = 0 := by
  unfold szY
  rw [szN_long h hs]
  simp only [List.getD_cons_zero, List.getD_cons_succ]
  rw [h]
  have e1 : szAt 126 = 4 := rfl
  have e2 : szLe 126 = 126 := rfl
  rw [e1, e2]
  rw [if_neg (by simp), if_neg (by omega), if_neg (by omega)]
theorem szA_long {c1 c2 c3 c4 : UInt8} {R : List UInt8} {s : Nat} (h : c2.toNat % 128 = 126) (hs : c3.toNat * 256 + c4.toNat = s) (h1 : 126 ≤ s) (h2 : s ≤ 16384) : szA (c1 :: c2 :: c3 :: c4 :: R) = 4 := by
  unfold szA
  rw [szY_long h hs h1 h2, if_pos rfl]
  simp only [List.getD_cons_zero, List.getD_cons_succ]
  rw [h]
  rfl
theorem szS_long {c1 c2 c3 c4 : UInt8} {R : List UInt8} {s : Nat} (h : c2.toNat % 128 = 126) (hs : c3.toNat * 256 + c4.toNat = s) (h1 : 126 ≤ s) (h2 : s ≤ 16384) : szS (c1 :: c2 :: c3 :: c4 :: R) = s := by
  unfold szS
  rw [szY_long h hs h1 h2, if_pos rfl, szN_long h hs]

/-- A frame that is written: its two or four first bytes, the mask, the load under it. -/
theorem wrB_short (n : Nat) (fin : Bool) (m l : List UInt8) (hm : m = [] ∨ m.length = 4) (h : l.length ≤ 125) : ∃ c2 : UInt8, wrB n fin m l = hd1 n fin :: c2 :: (m ++ xm m l) ∧ c2.toNat = (if decide (m.length = 4) then 128 else 0) + l.length := by
  refine ⟨UInt8.ofNat (mk1 m + l.length), ?_, ?_⟩
  · unfold wrB hd2
    rw [if_pos h]
    simp
  · rw [UInt8.toNat_ofNat', mk1_of m hm]
    split <;> omega
theorem wrB_long (n : Nat) (fin : Bool) (m l : List UInt8) (hm : m = [] ∨ m.length = 4) (h : ¬ l.length ≤ 125) (hl : l.length ≤ 16384) : ∃ c2 c3 c4 : UInt8, wrB n fin m l = hd1 n fin :: c2 :: c3 :: c4 :: (m ++ xm m l) ∧ c2.toNat = (if decide (m.length = 4) then 128 else 0) + 126 ∧ c3.toNat * 256 + c4.toNat = l.length := by
  refine ⟨UInt8.ofNat (mk1 m + 126), UInt8.ofNat (l.length / 256), UInt8.ofNat (l.length % 256), ?_, ?_, ?_⟩
  · unfold wrB hd2
    rw [if_neg h]
    simp
  · rw [UInt8.toNat_ofNat', mk1_of m hm]
    split <;> omega
  · rw [UInt8.toNat_ofNat', UInt8.toNat_ofNat']
    omega

theorem rdL_of (A : Nat) (P m l Z : List UInt8) (mask : Bool) (hP : P.length = A) (hA : szA (P ++ (m ++ xm m l ++ Z)) = A) (hS : szS (P ++ (m ++ xm m l ++ Z)) = l.length) (hf : (if mask then 4 else 0) = m.length) :
    rdL (P ++ (m ++ xm m l ++ Z)) mask = l ∧ rdEnd (P ++ (m ++ xm m l ++ Z)) mask = A + m.length + l.length := by
  have hE : rdEnd (P ++ (m ++ xm m l ++ Z)) mask = A + m.length + l.length := by unfold rdEnd; rw [hA, hS, hf]
  refine ⟨?_, hE⟩
  unfold rdL
  rw [hE, hA, hf]
  have e1 : ((P ++ (m ++ xm m l ++ Z)).take (A + m.length)).drop A = m := by
    subst hP
    simp [List.take_append]
  have e2 : ((P ++ (m ++ xm m l ++ Z)).take (A + m.length + l.length)).drop (A + m.length) = xm m l := by
    subst hP
    have hx := xm_length m l
    have a1 : (P ++ (m ++ xm m l ++ Z)).take (P.length + m.length + l.length) = P ++ m ++ xm m l := by
      rw [← hx]
      have : P.length + m.length + (xm m l).length = (P ++ m ++ xm m l).length := by simp; omega
      rw [this, show P ++ (m ++ xm m l ++ Z) = (P ++ m ++ xm m l) ++ Z by simp]
      exact List.take_left
    rw [a1, show P.length + m.length = (P ++ m).length by simp]
    exact List.drop_left
  rw [e1, e2, xm_xm]

/-- What is written is read as it was, whatever stands behind. -/
theorem rd_back (n : Nat) (fin : Bool) (m l Z : List UInt8) (hn : n ≤ 10) (hm : m = [] ∨ m.length = 4) (hmay : mayB (n : Int) fin (l.length : Int) = true) (hl : l.length ≤ 16384) :
    rdY (wrB n fin m l ++ Z) (decide (m.length = 4)) = 0 ∧ rdEnd (wrB n fin m l ++ Z) (decide (m.length = 4)) = (wrB n fin m l).length ∧ kFin (wrB n fin m l ++ Z) = fin ∧ kOp (wrB n fin m l ++ Z) = n ∧ rdL (wrB n fin m l ++ Z) (decide (m.length = 4)) = l := by
  have h0 := mayB_le hmay (t := 0) (by omega)
  have h1 := hd1_nat n fin hn
  have hx := xm_length m l
  have hf := four_of m hm
  by_cases h : l.length ≤ 125
  · obtain ⟨c2, e, hc2⟩ := wrB_short n fin m l hm h
    have hs := (hi2 hc2 (by omega)).2
    obtain ⟨hL, hE⟩ := rdL_of 2 [hd1 n fin, c2] m l Z (decide (m.length = 4)) rfl (szA_short hs h) (szS_short hs h) hf
    have e' : wrB n fin m l ++ Z = [hd1 n fin, c2] ++ (m ++ xm m l ++ Z) := by rw [e]; simp
    have hlen : (wrB n fin m l).length = 2 + m.length + l.length := by rw [e]; simp [hx]; omega
    rw [e']
    refine ⟨?_, by rw [hE, hlen], kFin_of h1 hn, kOp_of h1 hn, hL⟩
    unfold rdY
    rw [hE]
    have k0 := kY_two (R := m ++ xm m l ++ Z) (decide (m.length = 4)) h1 hn h0 hc2 (by omega) hmay
    rw [if_pos rfl] at k0
    have y0 := szY_short (c1 := hd1 n fin) (R := m ++ xm m l ++ Z) hs h
    simp only [List.cons_append, List.nil_append]
    rw [k0, y0, if_neg (by omega), if_neg (by omega), if_neg (by simp [hx]; omega)]
  · obtain ⟨c2, c3, c4, e, hc2, hc3⟩ := wrB_long n fin m l hm h hl
    have hs := (hi2 hc2 (by omega)).2
    obtain ⟨hL, hE⟩ := rdL_of 4 [hd1 n fin, c2, c3, c4] m l Z (decide (m.length = 4)) rfl (szA_long hs hc3 (by omega) hl) (szS_long hs hc3 (by omega) hl) hf
    have e' : wrB n fin m l ++ Z = [hd1 n fin, c2, c3, c4] ++ (m ++ xm m l ++ Z) := by rw [e]; simp
    have hlen : (wrB n fin m l).length = 4 + m.length + l.length := by rw [e]; simp [hx]; omega
    rw [e']
    refine ⟨?_, by rw [hE, hlen], kFin_of h1 hn, kOp_of h1 hn, hL⟩
    unfold rdY
    rw [hE]
    have k0 := kY_two (R := c3 :: c4 :: (m ++ xm m l ++ Z)) (decide (m.length = 4)) h1 hn h0 hc2 (by omega) (mayB_le hmay (by omega))
    rw [if_pos rfl] at k0
    have y0 := szY_long (c1 := hd1 n fin) (R := m ++ xm m l ++ Z) hs hc3 (by omega) hl
    simp only [List.cons_append, List.nil_append]
    rw [k0, y0, if_neg (by omega), if_neg (by omega), if_neg (by simp [hx]; omega)]

/-- A frame is refused where the mask is not as it must be. -/
theorem rd_other (n : Nat) (fin : Bool) (m l : List UInt8) (hn : n ≤ 10) (hm : m = [] ∨ m.length = 4) (hmay : mayB (n : Int) fin (l.length : Int) = true) (hl : l.length ≤ 16384) :
    rdY (wrB n fin m l) (!decide (m.length = 4)) = 1002 := by
  have h0 := mayB_le hmay (t := 0) (by omega)
  have h1 := hd1_nat n fin hn
  unfold rdY
  by_cases h : l.length ≤ 125
  · obtain ⟨c2, e, hc2⟩ := wrB_short n fin m l hm h
    rw [e, kY_two (!decide (m.length = 4)) h1 hn h0 hc2 (by omega) hmay]
    cases decide (m.length = 4) <;> rfl
  · obtain ⟨c2, c3, c4, e, hc2, hc3⟩ := wrB_long n fin m l hm h hl
    rw [e, kY_two (!decide (m.length = 4)) h1 hn h0 hc2 (by omega) (mayB_le hmay (by omega))]
    cases decide (m.length = 4) <;> rfl

/-- A shorter beginning is too short. -/
theorem rd_cut (n : Nat) (fin : Bool) (m l : List UInt8) (j : Nat) (hn : n ≤ 10) (hm : m = [] ∨ m.length = 4) (hmay : mayB (n : Int) fin (l.length : Int) = true) (hl : l.length ≤ 16384) (hj : j < (wrB n fin m l).length) :
    rdY ((wrB n fin m l).take j) (decide (m.length = 4)) = 1 := by
  have h0 := mayB_le hmay (t := 0) (by omega)
  have h1 := hd1_nat n fin hn
  have hx := xm_length m l
  have hf := four_of m hm
  match j, hj with
  | 0, _ => simp [rdY, kY]
  | 1, _ =>
      have : (wrB n fin m l).take 1 = [hd1 n fin] := by simp [wrB]
      rw [this]
      unfold rdY
      rw [kY_one h1 hn h0]
      rfl
  | j + 2, hj =>
      by_cases h : l.length ≤ 125
      · obtain ⟨c2, e, hc2⟩ := wrB_short n fin m l hm h
        have hs := (hi2 hc2 (by omega)).2
        rw [e] at hj ⊢
        simp only [List.length_cons, List.length_append, hx] at hj
        simp only [List.take_succ_cons]
        unfold rdY
        rw [kY_two (decide (m.length = 4)) h1 hn h0 hc2 (by omega) hmay, if_pos rfl, szY_short hs h, if_neg (by omega), if_neg (by omega)]
        unfold rdEnd
        rw [szA_short hs h, szS_short hs h, hf, if_pos (by simp [hx]; omega)]
      · obtain ⟨c2, c3, c4, e, hc2, hc3⟩ := wrB_long n fin m l hm h hl
        have hs := (hi2 hc2 (by omega)).2
        rw [e] at hj ⊢
        simp only [List.length_cons, List.length_append, hx] at hj
        simp only [List.take_succ_cons]
        unfold rdY
        rw [kY_two (decide (m.length = 4)) h1 hn h0 hc2 (by omega) (mayB_le hmay (by omega)), if_pos rfl]
        match j, hj with
        | 0, _ => rw [szY_cut hs (by simp)]; rfl
        | 1, _ => rw [szY_cut hs (by simp)]; rfl
        | j + 2, hj =>
            rw [show (c3 :: c4 :: (m ++ xm m l)).take (j + 2) = c3 :: c4 :: (m ++ xm m l).take j from rfl]
            rw [szY_long hs hc3 (by omega) hl, if_neg (by omega), if_neg (by omega)]
            unfold rdEnd
            rw [szA_long hs hc3 (by omega) hl, szS_long hs hc3 (by omega) hl, hf, if_pos (by simp [hx]; omega)]
#print axioms rd_back
#print axioms rd_cut
end Go.Proofs.YtegbcjfceooflaaDoor
end
