/-
  A SLICE OF ASKS THAT CAME IN, opened.
-/
import Derived.Test.YthpalohjjkmhdaaCursL
import Derived.Deep.SlicePairs
set_option linter.unusedVariables false
namespace Go.Proofs.Ythpalohjjkmhdaa
open Go.RowKit

theorem ask_nil (w : World) : AsR w none [] := ⟨fun h => absurd rfl h, fun i x h => by simp at h⟩
theorem wf_i64a {n : Int} (h : (Lit.int .i64 n).wf = true) : -9223372036854775808 ≤ n ∧ n ≤ 9223372036854775807 := by
  simp [Lit.wf, IntKind.min, IntKind.max, IntKind.bits, IntKind.signed] at h
  omega
theorem ask_mk (w : World) (x : Addr) (l c : Nat) (V0 V1 : Nat → Value) (hl : l ≤ c)
    (hr : ∀ i, i < c → w.cell? (x.add (i * 2)) = some (V0 i) ∧ w.cell? (x.add (i * 2 + 1)) = some (V1 i) ∧ (∃ n, V0 i = .int .i64 n ∧ (Lit.int .i64 n).wf = true) ∧ ∃ n, V1 i = .int .i64 n ∧ (Lit.int .i64 n).wf = true) :
    ∃ ps : List (Int × Int), l = ps.length ∧ AsR w (some x) ps := by
  have each : ∀ r, r < l → ∃ q : Int × Int, V0 r = .int .i64 q.1 ∧ V1 r = .int .i64 q.2 ∧ (-9223372036854775808 ≤ q.1 ∧ q.1 ≤ 9223372036854775807 ∧ -9223372036854775808 ≤ q.2 ∧ q.2 ≤ 9223372036854775807) := by
    intro r hrl
    obtain ⟨_, _, ⟨n, e1, w1⟩, m, e2, w2⟩ := hr r (by omega)
    exact ⟨(n, m), e1, e2, (wf_i64a w1).1, (wf_i64a w1).2, (wf_i64a w2).1, (wf_i64a w2).2⟩
  obtain ⟨f, hf⟩ : ∃ f : Nat → Int × Int, ∀ r, r < l → V0 r = .int .i64 (f r).1 ∧ V1 r = .int .i64 (f r).2 ∧ (-9223372036854775808 ≤ (f r).1 ∧ (f r).1 ≤ 9223372036854775807 ∧ -9223372036854775808 ≤ (f r).2 ∧ (f r).2 ≤ 9223372036854775807) :=
    ⟨fun r => if h : r < l then (each r h).choose else (0, 0), fun r h => by simp only [dif_pos h]; exact (each r h).choose_spec⟩
  have hget : ∀ (i : Nat) (y : Int × Int), ((List.range l).map f)[i]? = some y → i < l ∧ f i = y := by
    intro i y hy
    have hi : i < l := by
      have := (List.getElem?_eq_some_iff.1 hy).1
      simpa using this
    exact ⟨hi, by simpa [hi] using hy⟩
  refine ⟨(List.range l).map f, by simp, ⟨fun hne => ?_, fun i y hy => ?_⟩⟩
  · have h0 : 0 < l := by
      rcases Nat.eq_zero_or_pos l with h | h
      · subst h; simp at hne
      · exact h
    obtain ⟨b, off, spot⟩ := x
    have hc0 := (hr 0 (by omega)).1
    have hspot : spot = Option.none := by simpa [Addr.add] using World.cell?_spot hc0
    subst hspot
    refine ⟨b, off, rfl, fun i y hy => ?_⟩
    obtain ⟨hi, rfl⟩ := hget i y hy
    obtain ⟨k0, k1, _⟩ := hr i (by omega)
    rw [addr_add] at k0 k1
    rw [(hf i hi).1] at k0
    rw [(hf i hi).2.1] at k1
    exact ⟨k0, k1⟩
  · obtain ⟨hi, rfl⟩ := hget i y hy
    exact (hf i hi).2.2
#print axioms ask_mk
end Go.Proofs.Ythpalohjjkmhdaa
