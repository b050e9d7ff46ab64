/-
  FRAMES ONE BEHIND THE OTHER, the last of them cut off: the model; slices of slices that came in.
-/
import Derived.Test.YthpalohjjkmhdaaFrsM
import Derived.Test.YthpalohjjkmhdaaEqfW
import Derived.Test.YthpalohjjkmhdaaOwnI
set_option linter.unusedVariables false
namespace Go.Proofs.Ythpalohjjkmhdaa
open Go.RowKit

def cat (ps : List (List UInt8)) : List UInt8 := ps.flatMap frameOf
def endAt (ps : List (List UInt8)) (n : Nat) : Nat := (cat (ps.take n)).length
theorem cat_cons (p : List UInt8) (ps : List (List UInt8)) : cat (p :: ps) = frameOf p ++ cat ps := by simp [cat]
theorem endAt_zero (ps : List (List UInt8)) : endAt ps 0 = 0 := by simp [endAt, cat]
theorem endAt_succ (p : List UInt8) (ps : List (List UInt8)) (n : Nat) : endAt (p :: ps) (n + 1) = p.length + 7 + endAt ps n := by
  simp [endAt, cat_cons, frameOf_length]
theorem cat_take (ps : List (List UInt8)) (i : Nat) (p : List UInt8) (h : ps[i]? = some p) : cat (ps.take (i + 1)) = cat (ps.take i) ++ frameOf p := by
  rw [List.take_add_one, h]
  simp [cat]
theorem frs_whole : ∀ (ps : List (List UInt8)) (K n : Nat), (∀ p ∈ ps, p.length ≤ 65536) → n ≤ ps.length → endAt ps n ≤ K → (n = ps.length ∨ K < endAt ps (n + 1)) → K ≤ (cat ps).length → frs ((cat ps).take K) = (ps.take n, endAt ps n)
  | [], K, n, hp, hn, h1, h2, hK => by
    obtain rfl : n = 0 := by simpa using hn
    simp [cat, frs_nil, endAt_zero]
  | p :: ps, K, n, hp, hn, h1, h2, hK => by
    have hl := frameOf_length p
    have hp0 := hp p (by simp)
    rcases n with _ | m
    · have hK7 : K < p.length + 7 := by
        rcases h2 with h | h
        · simp at h
        · rw [endAt_succ, endAt_zero] at h; omega
      rw [cat_cons, List.take_append_of_le_length (by omega), frs_cut p hp0 K hK7, endAt_zero]
      simp
    · rw [endAt_succ] at h1
      rw [cat_cons, List.length_append] at hK
      have e : (cat (p :: ps)).take K = frameOf p ++ (cat ps).take (K - (p.length + 7)) := by
        rw [cat_cons, List.take_append, List.take_of_length_le (by omega), hl]
      rw [e, frs_lead p _ hp0, frs_whole ps (K - (p.length + 7)) m (fun q hq => hp q (by simp [hq])) (by simpa using hn) (by omega) ?_ (by omega), endAt_succ]
      · simp
      · rcases h2 with h | h
        · left; simpa using h
        · right; rw [endAt_succ] at h; omega
theorem endAt_mono (ps : List (List UInt8)) (i : Nat) (p : List UInt8) (h : ps[i]? = some p) : endAt ps (i + 1) = endAt ps i + (p.length + 7) := by
  rw [endAt, cat_take ps i p h, List.length_append, frameOf_length]; rfl

/-- A slice of slices that came in. -/
structure SRB (w : World) (a : Option Addr) (cap : Nat) (vs : List Sl) (ps : List (List UInt8)) : Prop where
  sr : SR w a vs ps
  pay : ∀ (i : Nat) (p : List UInt8), ps[i]? = some p → ∃ c d, vs[i]? = some (c, p.length, d) ∧ Bs w c d p
  le : vs.length ≤ cap
  most : cap ≤ maxLen
theorem SRB.below {w w' : World} {a : Option Addr} {cap : Nat} {vs : List Sl} {ps : List (List UInt8)} (h : SRB w a cap vs ps) (hb : Below w.heap.size w w') : SRB w' a cap vs ps := by
  have hc : ∀ x v, w.cell? x = some v → w'.cell? x = some v := fun x v hx => by
    rw [hb.cell (World.block_lt_of_cell? w _ hx)]; exact hx
  refine ⟨⟨h.sr.len, fun hne => ?_, fun i p hp => ?_⟩, fun i p hp => ?_, h.le, h.most⟩
  · obtain ⟨b, off, e, k⟩ := h.sr.row hne
    exact ⟨b, off, e, fun i x hx => hc _ _ (k i x hx)⟩
  · obtain ⟨c, d, e, k⟩ := h.sr.pay i p hp
    exact ⟨c, d, e, k.below hb (Nat.le_refl _)⟩
  · obtain ⟨c, d, e, k⟩ := h.pay i p hp
    exact ⟨c, d, e, k.below hb (Nat.le_refl _)⟩
theorem SR.take {w : World} {a : Option Addr} {vs : List Sl} {ps : List (List UInt8)} (h : SR w a vs ps) (n : Nat) : SR w a (vs.take n) (ps.take n) := by
  refine ⟨by simp [h.len], fun hne => ?_, fun i p hp => ?_⟩
  · obtain ⟨b, off, e, k⟩ := h.row (by intro e; subst e; simp at hne)
    refine ⟨b, off, e, fun i x hx => k i x ?_⟩
    by_cases hi : i < n
    · rwa [List.getElem?_take_of_lt hi] at hx
    · rw [List.getElem?_take_eq_none (by omega)] at hx; cases hx
  · by_cases hi : i < n
    · rw [List.getElem?_take_of_lt hi] at hp ⊢
      exact h.pay i p hp
    · rw [List.getElem?_take_eq_none (by omega)] at hp; cases hp

theorem Try.sizeS (w : World) : (sizeOf (Try.prog.elem 26)).run Try.prog w = .ok 1 w := by kernel_rfl
theorem Try.elemS : Try.prog.underlying 26 = some (.slice (Try.prog.elem 26)) := by kernel_rfl
/-- b[:H]. -/
theorem slice_head (a : Option Addr) (n cap H : Nat) (l : List UInt8) (h1 : H ≤ l.length) (hle : l.length ≤ cap) (hrow : l ≠ [] → ∃ b off, a = some ⟨b, off, none⟩) :
    ∃ a', (∀ w, (Instr.slice 22 (.slice a n cap) none (some (.int .i64 (H : Int))) none).run Try.prog w = .ok (.slice a' H cap) w) ∧ ∀ w, Bs w a cap l → Bs w a' cap (l.take H) := by
  refine ⟨if cap = 0 then a else a.map (·.add (0 * 1)), fun w => ?_, fun w hB => ?_⟩
  · rw [run_slice_h (P := Try.prog) w 22 _ n cap Try.elemB .i64 (H : Int) (by omega) (by omega), Try.sizeB]
    simp only [Result.andThen, sliced, Int.toNat_natCast, Nat.sub_zero]
  · refine ⟨?_, by simp; omega, hB.most, ?_⟩
    · by_cases hc : cap = 0
      · intro h; exact absurd (by rw [show l = [] from List.eq_nil_of_length_eq_zero (by omega)]; simp) h
      · rw [if_neg hc]
        by_cases hl : l = []
        · subst hl; intro h; simp at h
        · obtain ⟨b, off, rfl⟩ := hrow hl
          rw [Option.map_some, Nat.zero_mul, addr_add, Nat.add_zero]
          exact hB.row.take H
    · intro h
      by_cases hc : cap = 0
      · exact hc
      · rw [if_neg hc] at h
        exact hB.nz (by cases a <;> simp_all)
theorem slice_headS (a : Option Addr) (n cap H : Nat) (vs : List Sl) (h1 : H ≤ vs.length) (hle : vs.length ≤ cap) (hrow : vs ≠ [] → ∃ b off, a = some ⟨b, off, none⟩) :
    ∃ a', (∀ w, (Instr.slice 26 (.slice a n cap) none (some (.int .i64 (H : Int))) none).run Try.prog w = .ok (.slice a' H cap) w) ∧ ∀ w ps, SR w a vs ps → SR w a' (vs.take H) (ps.take H) := by
  refine ⟨if cap = 0 then a else a.map (·.add (0 * 1)), fun w => ?_, fun w ps hS => ?_⟩
  · rw [run_slice_h (P := Try.prog) w 26 _ n cap Try.elemS .i64 (H : Int) (by omega) (by omega), Try.sizeS]
    simp only [Result.andThen, sliced, Int.toNat_natCast, Nat.sub_zero]
  · by_cases hc : cap = 0
    · rw [if_pos hc]; exact hS.take H
    · rw [if_neg hc]
      by_cases hl : vs = []
      · have t := hS.take H
        subst hl
        exact ⟨t.len, fun h => by simp at h, t.pay⟩
      · obtain ⟨b, off, rfl⟩ := hrow hl
        rw [Option.map_some, Nat.zero_mul, addr_add, Nat.add_zero]
        exact hS.take H

/-- The row of ends. -/
def endsL (ps : List (List UInt8)) (i : Nat) : List Nat := (List.range i).map fun j => endAt ps (j + 1)
theorem endsL_succ (ps : List (List UInt8)) (i : Nat) : endsL ps (i + 1) = endsL ps i ++ [endAt ps (i + 1)] := by simp [endsL, List.range_succ]
theorem endsL_length (ps : List (List UInt8)) (i : Nat) : (endsL ps i).length = i := by simp [endsL]
theorem endsL_get (ps : List (List UInt8)) (i j : Nat) (h : j < i) : (endsL ps i).getD j 0 = endAt ps (j + 1) := by simp [endsL, h]
end Go.Proofs.Ythpalohjjkmhdaa
