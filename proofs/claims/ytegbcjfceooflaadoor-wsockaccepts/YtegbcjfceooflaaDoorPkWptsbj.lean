/-
  wsock: the document's SameHeaders at two rows of the same fields.; wsock: the statements' size of fields: what it bounds.
-/
import Derived.Test.YtegbcjfceooflaaDoorPkWptsas
import Derived.BigQuiet
section
set_option linter.unusedVariables false
set_option maxRecDepth 1000000
namespace Go.Proofs.YtegbcjfceooflaaDoor
open Go.RowKit

set_option maxHeartbeats 4000000 in
theorem samh_eq (p q : Option Addr) (cp cq : Nat) (H : List Hd) (w : World) (hp : HdR w p H) (hq : HdR w q H) (hl : H.length ≤ 1000000) :
    Calls Tryd.prog 28 #[.slice p H.length cp, .slice q H.length cq] w fun e w' => e = .returned (.bool true) ∧ Hid (Below w.heap.size w w') := by
  have HP := hide hp
  have HQ := hide hq
  clear hp hq
  have hne : ((H.length : Int) != (H.length : Int)) = false := by simp
  go_enter Tryd.func28, Tryd.ntmps28
  go_wp2
  go_loopw [13] (fun i wr => ∃ k : Nat, k ≤ H.length ∧ i = .int .i64 (k : Int) ∧ Hid (Below w.heap.size w wr)) (fun i _ => H.length - (intOf i).toNat)
  case atStart => exact ⟨0, Nat.zero_le _, rfl, Below.refl _ _⟩
  case round =>
    obtain ⟨k, hk, rfl, HB⟩ := hrel
    by_cases hlt : k < H.length
    · obtain ⟨d, hd⟩ : ∃ d, H[k]? = some d := ⟨_, List.getElem?_eq_getElem hlt⟩
      obtain ⟨b, off, hpe, hc⟩ := ((unhide HP).below (unhide HB) (Nat.le_refl _)).mem (by intro e; subst e; simp at hd)
      obtain ⟨b2, off2, hqe, hc2⟩ := ((unhide HQ).below (unhide HB) (Nat.le_refl _)).mem (by intro e; subst e; simp at hd)
      subst hpe hqe
      obtain ⟨c0, c1⟩ := hc k d hd
      obtain ⟨d0, d1⟩ := hc2 k d hd
      have hlt' : (k : Int) < (H.length : Int) := by omega
      clear hc hc2 hd
      go_upto_region 6 with fail
      go_quiet (fail)
      go_wp2
      have HB2 := hide (below_drewN (unhide HB) nq)
      go_roundw
      case rel => exact ⟨k + 1, by omega, by go_num, HB2⟩
      case measure => simp [intOf]; omega
    · obtain rfl : k = H.length := by omega
      have hlt' : ¬ (H.length : Int) < (H.length : Int) := by omega
      clear hlt
      go_wp2
      go_ret
      exact ⟨rfl, HB⟩
#print axioms samh_eq
end Go.Proofs.YtegbcjfceooflaaDoor
end
section
set_option linter.unusedVariables false
set_option maxRecDepth 1000000
namespace Go.Proofs.YtegbcjfceooflaaDoor
open Go.RowKit

set_option maxHeartbeats 4000000 in
theorem size_any (p : Option Addr) (cp : Nat) (H : List Hd) (w : World) (h : HdR w p H) (hl : H.length ≤ 9223372036854775807) :
    Calls Tryd.prog 4 #[.slice p H.length cp] w fun e w' => ∃ n : Nat, e = .returned (.int .i64 (n : Int)) ∧ n ≤ 1000000 ∧ Hid (n ≤ 262144 → 8 * H.length ≤ 262144 ∧ HdS H) ∧ Hid (Below w.heap.size w w') := by
  have HH := hide h
  clear h
  go_enter Tryd.func4, Tryd.ntmps4
  go_wp2
  go_loopw [3, 4] (fun v i wr => ∃ (n k : Nat), v = .int .i64 (n : Int) ∧ i = .int .i64 (k : Int) ∧ k ≤ H.length ∧ n ≤ 1000000 ∧ Hid (8 * k ≤ n) ∧ Hid (n ≤ 262144 → ∀ (t : Nat) (h : Hd), t < k → H[t]? = some h → h.1.length ≤ 262144 ∧ h.2.length ≤ 262144) ∧ Hid (Below w.heap.size w wr)) (fun _ i _ => H.length - (intOf i).toNat)
  case atStart => exact ⟨0, 0, rfl, rfl, Nat.zero_le _, by decide, Nat.le_refl _, (fun _ t h ht => by omega), Below.refl _ _⟩
  case round =>
    obtain ⟨n, k, rfl, rfl, hk, hn, H8, HN, HB⟩ := hrel
    by_cases hlt : k < H.length
    · have hlt' : (k : Int) < (H.length : Int) := by omega
      by_cases hn2 : n ≤ 262144
      · have hn2' : (n : Int) ≤ 262144 := by omega
        obtain ⟨d, hd⟩ : ∃ d, H[k]? = some d := ⟨_, List.getElem?_eq_getElem hlt⟩
        obtain ⟨b, off, hpe, hc⟩ := ((unhide HH).below (unhide HB) (Nat.le_refl _)).mem (by intro e; subst e; simp at hd)
        subst hpe
        obtain ⟨c0, c1⟩ := hc k d hd
        have hz1 : (str d.1).size = d.1.length := str_size d.1
        have hz2 : (str d.2).size = d.2.length := str_size d.2
        have HD := hide hd
        clear hc hd
        go_upto_region 5 with fail
        go_quiet (fail)
        go_wp2
        refine ⟨⟨n + 8 + min 262144 d.1.length + min 262144 d.2.length, k + 1, ?_, ?_, by omega, by omega, ?_, ?_, below_drewN (unhide HB) nq⟩, ?_⟩
        · congr 1
          split <;> split <;> omega
        · congr 1
        · show _ ≤ _
          have := unhide H8
          omega
        · intro hle t x ht hx
          by_cases e : t = k
          · subst e
            rw [unhide HD] at hx
            cases hx
            omega
          · exact unhide HN (by omega) t x (by omega) hx
        · simp [intOf]; omega
      · have hn2' : ¬ (n : Int) ≤ 262144 := by omega
        go_wp2
        go_ret
        exact ⟨n, rfl, hn, fun h => absurd h hn2, HB⟩
    · have hlt' : ¬ (k : Int) < (H.length : Int) := by omega
      obtain rfl : k = H.length := by omega
      have HF : Hid (n ≤ 262144 → 8 * H.length ≤ 262144 ∧ HdS H) := by
        intro hle
        refine ⟨Nat.le_trans (unhide H8) hle, fun t x hx => ?_⟩
        have := unhide HN hle t x (List.getElem?_eq_some_iff.1 hx).1 hx
        omega
      clear hlt H8 HN
      go_wp2
      go_ret
      exact ⟨n, rfl, hn, HF, HB⟩
#print axioms size_any
end Go.Proofs.YtegbcjfceooflaaDoor
end
