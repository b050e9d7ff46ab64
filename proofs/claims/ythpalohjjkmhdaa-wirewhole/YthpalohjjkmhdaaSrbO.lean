/-
  A SLICE OF SLICES OF BYTES THAT CAME IN, opened.
-/
import Derived.Test.YthpalohjjkmhdaaWhoM
import Derived.Deep.Matrix
set_option linter.unusedVariables false
namespace Go.Proofs.Ythpalohjjkmhdaa
open Go.RowKit

theorem srb_nil (w : World) : SRB w none 0 [] [] :=
  ⟨⟨rfl, fun h => absurd rfl h, fun i p h => by simp at h⟩, fun i p h => by simp at h, Nat.le_refl _, by unfold maxLen; omega⟩
theorem srb_mk (w : World) (x : Addr) (l c : Nat) (A : Nat → Option Addr) (L C : Nat → Nat) (Z : Nat → List Int) (hl : l ≤ c) (hm : c ≤ maxLen)
    (hr : ∀ r, r < c → w.cell? (x.add r) = some (.slice (A r) (L r) (C r)) ∧ L r ≤ C r ∧ C r ≤ maxLen ∧ (Z r).length = C r ∧ (∀ n ∈ Z r, (Lit.int .u8 n).wf = true) ∧ (A r = none → C r = 0) ∧
      ∀ a', A r = some a' → 0 ≤ a'.block ∧ ∀ i, i < C r → w.cell? (a'.add i) = some (.int .u8 ((Z r).getD i 0))) :
    ∃ (vs : List Sl) (ps : List (List UInt8)), l = vs.length ∧ SRB w (some x) c vs ps := by
  have each : ∀ r, r < l → ∃ q : List UInt8, L r = q.length ∧ Bs w (A r) (C r) q := by
    intro r hrl
    obtain ⟨_, h1, h2, h3, h4, h5, h6⟩ := hr r (by omega)
    refine bs_of (zs := Z r) ?_
    cases hA : A r with
    | none =>
      have := h5 hA
      exact .inl ⟨rfl, by omega, this, List.eq_nil_of_length_eq_zero (by omega)⟩
    | some a' =>
      exact .inr ⟨a', rfl, h1, h2, h3, fun i hi => (h6 a' hA).2 i (by omega), h4⟩
  obtain ⟨f, hf⟩ : ∃ f : Nat → List UInt8, ∀ r, r < l → L r = (f r).length ∧ Bs w (A r) (C r) (f r) :=
    ⟨fun r => if h : r < l then (each r h).choose else [], fun r h => by simp only [dif_pos h]; exact (each r h).choose_spec⟩
  have hpay : ∀ (i : Nat) (p : List UInt8), ((List.range l).map f)[i]? = some p → ((List.range l).map fun r => (A r, L r, C r))[i]? = some (A i, p.length, C i) ∧ Bs w (A i) (C i) p := by
    intro i p hp
    have hi : i < l := by
      have := (List.getElem?_eq_some_iff.1 hp).1
      simpa using this
    have hp2 : f i = p := by simpa [hi] using hp
    subst hp2
    refine ⟨?_, (hf i hi).2⟩
    simp [hi, (hf i hi).1]
  refine ⟨(List.range l).map fun r => (A r, L r, C r), (List.range l).map f, by simp, ⟨⟨by simp, fun hne => ?_, fun i p hp => ⟨A i, C i, (hpay i p hp).1, (hpay i p hp).2.row⟩⟩, fun i p hp => ⟨A i, C i, (hpay i p hp).1, (hpay i p hp).2⟩, by simpa using hl, hm⟩⟩
  have h0 : 0 < l := by
    rcases Nat.eq_zero_or_pos l with h | h
    · subst h; simp at hne
    · exact h
  obtain ⟨b, off, spot⟩ := x
  have hc0 := (hr 0 (by omega)).1
  have hspot : spot = Option.none := by simpa [Addr.add] using World.cell?_spot hc0
  subst hspot
  refine ⟨b, off, rfl, fun i y hy => ?_⟩
  have hi : i < l := by
    have := (List.getElem?_eq_some_iff.1 hy).1
    simpa using this
  have hy2 : (A i, L i, C i) = y := by simpa [hi] using hy
  subst hy2
  have := (hr i (by omega)).1
  rw [addr_add] at this
  exact this
#print axioms srb_mk
end Go.Proofs.Ythpalohjjkmhdaa
