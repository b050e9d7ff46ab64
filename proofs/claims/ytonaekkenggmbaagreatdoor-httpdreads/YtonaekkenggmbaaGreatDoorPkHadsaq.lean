/-
  wsock: the document's SameHeaders at two rows of the same fields.; httpd: the statements' size of fields: what it bounds.; httpd: the statements' size of fields as a function.
-/
import Derived.Test.YtonaekkenggmbaaGreatDoorPkHadsae
import Derived.BigQuiet
section
set_option linter.unusedVariables false
set_option maxRecDepth 1000000
namespace Go.Proofs.YtonaekkenggmbaaGreatDoor
open Go.RowKit

set_option maxHeartbeats 4000000 in
theorem samh_eq (p q : Option Addr) (cp cq : Nat) (H : List Hd) (w : World) (hp : HdR w p H) (hq : HdR w q H) (hl : H.length ≤ 1000000) :
    Calls Tryz.prog 47 #[.slice p H.length cp, .slice q H.length cq] w fun e w' => e = .returned (.bool true) ∧ Hid (Below w.heap.size w w') := by
  have HP := hide hp
  have HQ := hide hq
  clear hp hq
  have hne : ((H.length : Int) != (H.length : Int)) = false := by simp
  go_enter Tryz.func47, Tryz.ntmps47
  go_wp2
  go_loopw [13] (fun i wr => ∃ k : Nat, k ≤ H.length ∧ i = .int .i64 (k : Int) ∧ Hid (Below w.heap.size w wr)) (fun i _ => H.length - (intOf i).toNat)
  case atStart => exact ⟨0, Nat.zero_le _, rfl, Below.refl _ _⟩
  case round =>
    obtain ⟨k, hk, rfl, HB⟩ := hrel
    by_cases hlt : k < H.length
    · obtain ⟨d, hd⟩ : ∃ d, H[k]? = some d := ⟨_, List.getElem?_eq_getElem hlt⟩
      obtain ⟨b, off, hpe, hc⟩ := ((unhide HP).below (unhide HB) (Nat.le_refl _)).mem (by intro e; subst e; simp at hd)
      obtain ⟨b2, off2, hqe, hc2⟩ := ((unhide HQ).below (unhide HB) (Nat.le_refl _)).mem (by intro e; subst e; simp at hd)
      subst hpe hqe
      obtain ⟨c0, c1⟩ := hc k d hd
      obtain ⟨d0, d1⟩ := hc2 k d hd
      have hlt' : (k : Int) < (H.length : Int) := by omega
      clear hc hc2 hd
      go_upto_region 6 with fail
      go_quiet (fail)
      go_wp2
      have HB2 := hide (below_drewN (unhide HB) nq)
      go_roundw
      case rel => exact ⟨k + 1, by omega, by go_num, HB2⟩
      case measure => simp [intOf]; omega
    · obtain rfl : k = H.length := by omega
      have hlt' : ¬ (H.length : Int) < (H.length : Int) := by omega
      clear hlt
      go_wp2
      go_ret
      exact ⟨rfl, HB⟩
#print axioms samh_eq
end Go.Proofs.YtonaekkenggmbaaGreatDoor
end
section
set_option linter.unusedVariables false
set_option maxRecDepth 1000000
namespace Go.Proofs.YtonaekkenggmbaaGreatDoor
open Go.RowKit

def hsz (H : List Hd) : Nat := (H.map fun h => 8 + h.1.length + h.2.length).sum
theorem hsz_step (H : List Hd) (k : Nat) (d : Hd) (hd : H[k]? = some d) : hsz (H.take (k + 1)) = hsz (H.take k) + (8 + d.1.length + d.2.length) := by
  obtain ⟨hlt, he⟩ := List.getElem?_eq_some_iff.1 hd
  unfold hsz
  rw [List.take_succ_eq_append_getElem hlt, List.map_append, List.sum_append, he]
  simp
theorem hsz_mem : ∀ (H : List Hd) (d : Hd), d ∈ H → 8 + d.1.length + d.2.length ≤ hsz H
  | [], d, h => by cases h
  | x :: H, d, h => by
    have e : hsz (x :: H) = 8 + x.1.length + x.2.length + hsz H := by simp [hsz]
    rcases List.mem_cons.1 h with rfl | h
    · omega
    · have := hsz_mem H d h; omega
theorem hsz_len : ∀ (H : List Hd), 8 * H.length ≤ hsz H
  | [] => Nat.zero_le _
  | x :: H => by
    have e : hsz (x :: H) = 8 + x.1.length + x.2.length + hsz H := by simp [hsz]
    have := hsz_len H
    simp only [List.length_cons]
    omega
set_option maxHeartbeats 4000000 in
theorem size8_any (p : Option Addr) (cp : Nat) (H : List Hd) (w : World) (h : HdR w p H) (hl : H.length ≤ 9223372036854775807) :
    Calls Tryz.prog 21 #[.slice p H.length cp] w fun e w' => ∃ n : Nat, e = .returned (.int .i64 (n : Int)) ∧ n ≤ 1000000 ∧ Hid (n ≤ 262144 → n = hsz H) ∧ Hid (Below w.heap.size w w') := by
  have HH := hide h
  clear h
  go_enter Tryz.func21, Tryz.ntmps21
  go_wp2
  go_loopw [3, 4] (fun v i wr => ∃ (n k : Nat), v = .int .i64 (n : Int) ∧ i = .int .i64 (k : Int) ∧ k ≤ H.length ∧ n ≤ 1000000 ∧ Hid (n ≤ 262144 → n = hsz (H.take k)) ∧ Hid (Below w.heap.size w wr)) (fun _ i _ => H.length - (intOf i).toNat)
  case atStart => exact ⟨0, 0, rfl, rfl, Nat.zero_le _, by decide, (fun _ => by simp [hsz]), Below.refl _ _⟩
  case round =>
    obtain ⟨n, k, rfl, rfl, hk, hn, HN, HB⟩ := hrel
    by_cases hlt : k < H.length
    · have hlt' : (k : Int) < (H.length : Int) := by omega
      by_cases hn2 : n ≤ 262144
      · have hn2' : (n : Int) ≤ 262144 := by omega
        obtain ⟨d, hd⟩ : ∃ d, H[k]? = some d := ⟨_, List.getElem?_eq_getElem hlt⟩
        obtain ⟨b, off, hpe, hc⟩ := ((unhide HH).below (unhide HB) (Nat.le_refl _)).mem (by intro e; subst e; simp at hd)
        subst hpe
        obtain ⟨c0, c1⟩ := hc k d hd
        have hz1 : (str d.1).size = d.1.length := str_size d.1
        have hz2 : (str d.2).size = d.2.length := str_size d.2
        have HD := hide (hsz_step H k d hd)
        clear hc hd
        go_upto_region 5 with fail
        go_quiet (fail)
        go_wp2
        refine ⟨⟨n + 8 + min 262144 d.1.length + min 262144 d.2.length, k + 1, ?_, ?_, by omega, by omega, ?_, below_drewN (unhide HB) nq⟩, ?_⟩
        · congr 1
          split <;> split <;> omega
        · congr 1
        · intro hle
          have := unhide HN (by omega)
          rw [unhide HD, ← this]
          omega
        · simp [intOf]; omega
      · have hn2' : ¬ (n : Int) ≤ 262144 := by omega
        go_wp2
        go_ret
        exact ⟨n, rfl, hn, fun h => absurd h hn2, HB⟩
    · have hlt' : ¬ (k : Int) < (H.length : Int) := by omega
      obtain rfl : k = H.length := by omega
      have HF : Hid (n ≤ 262144 → n = hsz H) := by
        intro hle
        have := unhide HN hle
        rwa [List.take_length] at this
      clear hlt HN
      go_wp2
      go_ret
      exact ⟨n, rfl, hn, HF, HB⟩
#print axioms size8_any
end Go.Proofs.YtonaekkenggmbaaGreatDoor
end
section
set_option linter.unusedVariables false
set_option maxRecDepth 1000000
namespace Go.Proofs.YtonaekkenggmbaaGreatDoor
open Go.RowKit

def szS (n : Nat) (h : Hd) : Nat := if n ≤ 262144 then n + 8 + min 262144 h.1.length + min 262144 h.2.length else n
def szM (H : List Hd) : Nat := H.foldl szS 0
theorem szM_step (H : List Hd) (k : Nat) (d : Hd) (hd : H[k]? = some d) : szM (H.take (k + 1)) = szS (szM (H.take k)) d := by
  obtain ⟨hlt, he⟩ := List.getElem?_eq_some_iff.1 hd
  unfold szM
  rw [List.take_succ_eq_append_getElem hlt, List.foldl_append, he]
  rfl
theorem szS_stay (n : Nat) (hn : 262144 < n) : ∀ L : List Hd, L.foldl szS n = n
  | [] => rfl
  | x :: L => by
    have : szS n x = n := by unfold szS; rw [if_neg (by omega)]
    rw [List.foldl_cons, this]
    exact szS_stay n hn L
theorem szM_big (H : List Hd) (k : Nat) (h : 262144 < szM (H.take k)) : szM H = szM (H.take k) := by
  have e : szM H = (H.drop k).foldl szS (szM (H.take k)) := by
    unfold szM
    rw [← List.foldl_append, List.take_append_drop]
  rw [e, szS_stay _ h]
set_option maxHeartbeats 4000000 in
theorem size8_det (p : Option Addr) (cp : Nat) (H : List Hd) (w : World) (h : HdR w p H) (hl : H.length ≤ 9223372036854775807) :
    Calls Tryz.prog 21 #[.slice p H.length cp] w fun e w' => e = .returned (.int .i64 (szM H : Int)) ∧ Hid (szM H ≤ 1000000 ∧ (szM H ≤ 262144 → szM H = hsz H)) ∧ Hid (Below w.heap.size w w') := by
  have HH := hide h
  clear h
  go_enter Tryz.func21, Tryz.ntmps21
  go_wp2
  go_loopw [3, 4] (fun v i wr => ∃ (n k : Nat), v = .int .i64 (n : Int) ∧ i = .int .i64 (k : Int) ∧ k ≤ H.length ∧ n ≤ 1000000 ∧ Hid (n = szM (H.take k) ∧ (n ≤ 262144 → n = hsz (H.take k))) ∧ Hid (Below w.heap.size w wr)) (fun _ i _ => H.length - (intOf i).toNat)
  case atStart => exact ⟨0, 0, rfl, rfl, Nat.zero_le _, by decide, ⟨by simp [szM], fun _ => by simp [hsz]⟩, Below.refl _ _⟩
  case round =>
    obtain ⟨n, k, rfl, rfl, hk, hn, HN, HB⟩ := hrel
    by_cases hlt : k < H.length
    · have hlt' : (k : Int) < (H.length : Int) := by omega
      by_cases hn2 : n ≤ 262144
      · have hn2' : (n : Int) ≤ 262144 := by omega
        obtain ⟨d, hd⟩ : ∃ d, H[k]? = some d := ⟨_, List.getElem?_eq_getElem hlt⟩
        obtain ⟨b, off, hpe, hc⟩ := ((unhide HH).below (unhide HB) (Nat.le_refl _)).mem (by intro e; subst e; simp at hd)
        subst hpe
        obtain ⟨c0, c1⟩ := hc k d hd
        have hz1 : (str d.1).size = d.1.length := str_size d.1
        have hz2 : (str d.2).size = d.2.length := str_size d.2
        have HD := hide (And.intro (hsz_step H k d hd) (szM_step H k d hd))
        clear hc hd
        go_upto_region 5 with fail
        go_quiet (fail)
        go_wp2
        refine ⟨⟨n + 8 + min 262144 d.1.length + min 262144 d.2.length, k + 1, ?_, ?_, by omega, by omega, ?_, below_drewN (unhide HB) nq⟩, ?_⟩
        · congr 1
          split <;> split <;> omega
        · congr 1
        · refine ⟨?_, fun hle => ?_⟩
          · rw [(unhide HD).2, ← (unhide HN).1]
            unfold szS
            rw [if_pos hn2]
          · have := (unhide HN).2 (by omega)
            rw [(unhide HD).1, ← this]
            omega
        · simp [intOf]; omega
      · have hn2' : ¬ (n : Int) ≤ 262144 := by omega
        have hz := szM_big H k (by rw [← (unhide HN).1]; omega)
        rw [← (unhide HN).1] at hz
        have HZ := hide hz
        clear hz
        go_wp2
        go_ret
        exact ⟨by rw [unhide HZ]; rfl, by rw [unhide HZ]; exact ⟨hn, fun h => absurd h hn2⟩, HB⟩
    · have hlt' : ¬ (k : Int) < (H.length : Int) := by omega
      obtain rfl : k = H.length := by omega
      have HF : Hid (n = szM H ∧ (n ≤ 262144 → n = hsz H)) := by
        have := unhide HN
        rw [List.take_length] at this
        exact this
      clear hlt HN
      go_wp2
      go_ret
      exact ⟨by rw [← (unhide HF).1]; rfl, by rw [← (unhide HF).1]; exact ⟨hn, (unhide HF).2⟩, HB⟩
theorem szM_ok (H : List Hd) : szM H ≤ 1000000 ∧ (szM H ≤ 262144 → szM H = hsz H) := by
  have h : ∀ k, k ≤ H.length → szM (H.take k) ≤ 1000000 ∧ (szM (H.take k) ≤ 262144 → szM (H.take k) = hsz (H.take k)) := by
    intro k
    induction k with
    | zero => intro _; simp [szM, hsz]
    | succ k ih =>
      intro hk
      have i := ih (by omega)
      have hd : H[k]? = some H[k] := List.getElem?_eq_getElem (by omega)
      rw [szM_step H k _ hd, hsz_step H k _ hd]
      unfold szS
      split
      · refine ⟨by omega, fun hle => ?_⟩
        have := i.2 (by omega)
        omega
      · exact ⟨i.1, fun hle => by omega⟩
  have := h H.length (Nat.le_refl _)
  rwa [List.take_length] at this
set_option maxHeartbeats 4000000 in
theorem size8_q (p : Option Addr) (cp : Nat) (H : List Hd) (w : World) (h : HdR w p H) (hl : H.length ≤ 9223372036854775807) :
    Calls Tryz.prog 21 #[.slice p H.length cp] w fun e w' => e = .returned (.int .i64 (szM H : Int)) ∧ ∃ q, w' = w.drewN q := by
  have HH := hide h
  clear h
  go_enter Tryz.func21, Tryz.ntmps21
  go_wp2
  go_loopw [3, 4] (fun v i wr => ∃ (n k : Nat), v = .int .i64 (n : Int) ∧ i = .int .i64 (k : Int) ∧ k ≤ H.length ∧ n ≤ 1000000 ∧ Hid (n = szM (H.take k)) ∧ Hid (∃ q, wr = w.drewN q)) (fun _ i _ => H.length - (intOf i).toNat)
  case atStart => exact ⟨0, 0, rfl, rfl, Nat.zero_le _, by decide, by simp [Hid, szM], ⟨0, rfl⟩⟩
  case round =>
    obtain ⟨n, k, rfl, rfl, hk, hn, HN, HB⟩ := hrel
    by_cases hlt : k < H.length
    · have hlt' : (k : Int) < (H.length : Int) := by omega
      by_cases hn2 : n ≤ 262144
      · have hn2' : (n : Int) ≤ 262144 := by omega
        obtain ⟨d, hd⟩ : ∃ d, H[k]? = some d := ⟨_, List.getElem?_eq_getElem hlt⟩
        have hHr : HdR wr p H := by
          obtain ⟨q, hq⟩ := unhide HB
          rw [hq]
          exact (unhide HH).below (below_drewN (Below.refl _ _) q) (Nat.le_refl _)
        obtain ⟨b, off, hpe, hc⟩ := hHr.mem (by intro e; subst e; simp at hd)
        subst hpe
        obtain ⟨c0, c1⟩ := hc k d hd
        have hz1 : (str d.1).size = d.1.length := str_size d.1
        have hz2 : (str d.2).size = d.2.length := str_size d.2
        have HD := hide (szM_step H k d hd)
        clear hc hd hHr
        go_upto_region 5 with fail
        go_quiet (fail)
        go_wp2
        refine ⟨⟨n + 8 + min 262144 d.1.length + min 262144 d.2.length, k + 1, ?_, ?_, by omega, by omega, ?_, ?_⟩, ?_⟩
        · congr 1
          split <;> split <;> omega
        · congr 1
        · show _ = _
          rw [unhide HD, ← unhide HN]
          unfold szS
          rw [if_pos hn2]
        · obtain ⟨q, hq⟩ := unhide HB
          exact ⟨q + nq, by rw [hq, World.drewN_drewN]⟩
        · simp [intOf]; omega
      · have hn2' : ¬ (n : Int) ≤ 262144 := by omega
        have hz := szM_big H k (by rw [← unhide HN]; omega)
        rw [← unhide HN] at hz
        have HZ := hide hz
        clear hz
        go_wp2
        go_ret
        exact ⟨by rw [unhide HZ]; rfl, unhide HB⟩
    · have hlt' : ¬ (k : Int) < (H.length : Int) := by omega
      obtain rfl : k = H.length := by omega
      have HF : Hid (n = szM H) := by
        have := unhide HN
        rw [List.take_length] at this
        exact this
      clear hlt HN
      go_wp2
      go_ret
      exact ⟨by rw [← unhide HF]; rfl, unhide HB⟩
end Go.Proofs.YtonaekkenggmbaaGreatDoor
end
