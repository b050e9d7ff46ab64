/-
  slices.Repeat of one true.
-/
import Derived.Test.YtkhpjlgbiicdcaaDnR
import Derived.Deep.RegionHeld3
set_option linter.unusedVariables false
namespace Go.Proofs.Ytkhpjlgbiicdcaa
open Go.RowKit Go.Maps

set_option maxRecDepth 20000 in
set_option maxHeartbeats 4000000 in
theorem repeat_any (V n : Nat) (w : World) (hn : n ≤ 2000) (hV : w.cell? ⟨V, 0, none⟩ = some (.bool true)) : Calls Try.prog 20 #[.slice (some ⟨V, 0, none⟩) 1 1, .int .i64 (n : Int)] w fun e w' => ∃ a c, e = .returned (.slice a n c) ∧ BRow w' a (List.replicate n true) ∧ Below w.heap.size w w' := by
  obtain ⟨ti, hi, hz0, hz1, hz2⟩ := info_parts Try.infoT
  have hsz1 : (Try.prog.info? 4).map (·.size) = some 1 := by rw [hi]; simp [hz1]
  obtain ⟨k0, hk0⟩ : ∃ k0, k0 = Nat.min 1 n := ⟨_, rfl⟩
  have hk1 : k0 ≤ n := by rw [hk0]; exact Nat.min_le_right _ _
  have hk2 : 0 < n → 0 < k0 := by intro h; rw [hk0]; show 0 < min 1 n; omega
  have hk3 : k0 ≤ 1 := by rw [hk0]; exact Nat.min_le_left _ _
  have HK0 : Hid ((List.replicate k0 (Value.bool true)).length = Nat.min 1 n) := by show _ = _; rw [List.length_replicate]; exact hk0
  clear hk0
  go_enter Try.func20, Try.ntmps20
  go_wp2_with fail
  refine (mul_one n _ hn).mono ?_
  rintro e w' ⟨rfl, rfl⟩
  go_wp2_with (first | (refine wpList_make_full _ rfl _ _ 34 rfl w'.heap.size 4 ti (.bool false) 1 Try.underlying34 hi hz0 hz1 .i64 .i64 (n : Int) (n : Int) n rfl rfl rfl rfl (by rw [hz2]; omega) (by unfold maxLen; omega) (Nat.le_refl _) ?_; rintro w1 ho1 gr1; obtain ⟨cur, hcur, hcl, b1, hV1⟩ := made_row hV ho1 gr1; clear ho1 gr1) | (refine wpList_copy_splice rfl _ _ 34 34 rfl 4 Try.underlying34 hsz1 (some ⟨w'.heap.size, 0, none⟩) (some ⟨V, 0, none⟩) n n 1 1 rfl rfl w'.heap.size 0 cur 4 hcur (List.replicate k0 (.bool true)) (unhide HK0) (fun _ => ⟨rfl, _, rfl, src_one hV1 hk3⟩) (by simp; omega) (fun v hv => by rw [List.eq_of_mem_replicate hv]; rfl) w'.heap.size w' b1 (Nat.le_refl _) ?_; rintro w2 hw2 b2))
  have hf0 : Fil n (splice cur 0 (List.replicate k0 (.bool true))) k0 := by
    have := fil_splice (n := n) (k := 0) (m := k0) (cur := cur) ⟨hcl, fun j hj => by omega⟩ (by omega)
    rw [Nat.zero_add] at this
    exact this
  have HF0 := hide hf0
  have HB2 := hide b2
  clear hcur hV1 b1 b2 HK0 hf0
  go_loopw [8] (fun v wr => ∃ (k : Nat) (cu : List Value), k ≤ n ∧ (0 < n → 0 < k) ∧ v = .int .i64 (k : Int) ∧ Hid (wr.heap[w'.heap.size]? = some (.cells cu.toArray 4 (0, 0))) ∧ Hid (Fil n cu k) ∧ Hid (Below w'.heap.size w' wr)) (fun v _ => n - (intOf v).toNat)
  case atStart => exact ⟨k0, _, hk1, hk2, rfl, hw2, HF0, HB2⟩
  case round =>
    obtain ⟨k, cu, hkn, hk0, rfl, HW, HF, HB⟩ := hrel
    by_cases hlt : k < n
    · have hlt2 : (k : Int) < (n : Int) := by omega
      have f1 := fun w => bools_from w'.heap.size n k w hlt
      have f2 := fun w => bools_to w'.heap.size n k w hkn
      obtain ⟨m, hm⟩ : ∃ m, m = Nat.min k (n - k) := ⟨_, rfl⟩
      have hm0 : 0 < m := by rw [hm]; show 0 < min k (n - k); omega
      have hm1 : m ≤ k := by rw [hm]; exact Nat.min_le_left _ _
      have hm2 : m ≤ n - k := by rw [hm]; exact Nat.min_le_right _ _
      have HM : Hid ((List.replicate m (Value.bool true)).length = Nat.min k (n - k)) := by show _ = _; rw [List.length_replicate]; exact hm
      have HWd : Hid (wr.drew.heap[w'.heap.size]? = some (.cells cu.toArray 4 (0, 0))) := HW
      have HBd := hide (unhide HB).drew
      have HSrc : Hid (∀ j v, (List.replicate m (Value.bool true))[j]? = some v → wr.drew.cell? ((⟨w'.heap.size, 0, none⟩ : Addr).add j) = some v) := by
        intro j v hv
        rw [List.getElem?_replicate] at hv
        split at hv
        · rename_i hj
          rw [← Option.some.inj hv, addr_add, Nat.zero_add, cell_of_row _ _ j _ _ _ (unhide HWd)]
          simpa using (unhide HF).2 j (by omega)
        · cases hv
      have hfit : k + (List.replicate m (Value.bool true)).length ≤ cu.length := by rw [List.length_replicate, (unhide HF).1]; omega
      have HFit := hide hfit
      have HF3 := hide (fil_splice (unhide HF) (m := m) (by omega))
      have h1c : Hid (∀ v ∈ List.replicate m (Value.bool true), v.oneCell' = true) := fun v hv => by rw [List.eq_of_mem_replicate hv]; rfl
      clear hm hfit
      go_wp2_with fail
      go_region_held3 (fun _ => True) (trivial) ((refine step_copy_splice rfl (.tmp 41) (.tmp 44) 34 34 rfl 4 Try.underlying34 hsz1 (some ⟨w'.heap.size, k, none⟩) (some ⟨w'.heap.size, 0, none⟩) (n - k) (n - k) k n rfl rfl w'.heap.size k cu 4 (unhide HWd) (List.replicate m (.bool true)) (unhide HM) (fun _ => ⟨rfl, _, rfl, unhide HSrc⟩) (unhide HFit) (unhide h1c) w'.heap.size w' (unhide HBd) (Nat.le_refl _) ?_; rintro w3 hw3 b3))
      have HW3 := hide hw3
      have HB3 := hide b3
      clear hw3 b3
      have hwk : IntKind.i64.wrap ((k : Int) + (m : Int)) = (k : Int) + (m : Int) := by
        have h1 : -9223372036854775808 ≤ (k : Int) + (m : Int) := by omega
        have h2 : (k : Int) + (m : Int) ≤ 9223372036854775807 := by omega
        simp [IntKind.wrap, IntKind.bits, IntKind.signed]
        omega
      rw [hwk]
      go_wp2
      go_roundw
      case rel => exact ⟨k + m, _, by omega, (fun _ => by omega), by go_num, HW3, HF3, HB3⟩
      case measure => simp [intOf]; omega
    · obtain rfl : k = n := by omega
      go_wp2
      go_ret
      refine ⟨_, _, rfl, fun _ => ⟨w'.heap.size, 0, rfl, fun i hi => ?_⟩, unhide HB⟩
      have hi' : i < k := by simpa using hi
      rw [cell_of_row _ _ (0 + i) _ _ _ (unhide HW), Nat.zero_add]
      have := (unhide HF).2 i hi'
      simpa [List.getD, hi'] using this
#print axioms repeat_any
end Go.Proofs.Ytkhpjlgbiicdcaa
