/-
  httpd: bytes.Index of a head's end.
-/
import Derived.Test.YtonaekkenggmbaaGreatDoorPkHadsar
import Derived.Test.YtonaekkenggmbaaGreatDoorPkHadsaa
section
set_option linter.unusedVariables false
set_option maxRecDepth 1000000
namespace Go.Proofs.YtonaekkenggmbaaGreatDoor
open Go.RowKit

def nums (l : List UInt8) : List Int := l.map (fun c => (c.toNat : Int))
theorem nums_bytes (l : List UInt8) : Lib.bytesOf (nums l) = l := by
  induction l with
  | nil => rfl
  | cons c l ih =>
    simp only [Lib.bytesOf, nums, List.map_cons] at ih ⊢
    rw [ih]
    simp
theorem nums_getD (l : List UInt8) (i : Nat) (hi : i < l.length) : (nums l).getD i 0 = ((l.getD i 0).toNat : Int) := by
  simp [nums, List.getD_eq_getElem?_getD, hi]
theorem nums_rng (l : List UInt8) : ∀ x ∈ nums l, 0 ≤ x ∧ x < 256 := by
  intro x hx
  obtain ⟨c, _, rfl⟩ := List.mem_map.1 hx
  have := c.toNat_lt
  omega
theorem index_w (w : World) (a1 : Option Addr) (c1 : Nat) (b : List UInt8) (A : Nat) (c2 : Nat) (hE : EnvH w) (h1 : Bs w a1 c1 b) (h2 : Bs w (some ⟨A, 0, none⟩) c2 hend) (hl : b.length ≤ 1000000) :
    Calls Tryz.prog 108 #[.slice a1 b.length c1, .slice (some ⟨A, 0, none⟩) 4 c2] w fun e w' => e = .returned (.int .i64 (Lib.index b hend)) ∧ Hid (Below w.heap.size w w') := by
  have k2 : ∀ i, i < 4 → w.cell? ((⟨A, 0, none⟩ : Addr).add i) = some (.int .u8 ((nums hend).getD i 0)) := fun i hi => by
    obtain ⟨bb, off, e, hc⟩ := h2.row (by simp [hend])
    simp only [Option.some.injEq, Addr.mk.injEq, and_true] at e
    obtain ⟨rfl, rfl⟩ := e
    rw [addr_add, nums_getD hend i (by simpa [hend] using hi)]
    exact hc i (by simpa [hend] using hi)
  obtain ⟨m, hm⟩ := hE.1
  cases a1 with
  | none =>
    obtain rfl := h1.nz rfl
    obtain rfl : b = [] := List.eq_nil_of_length_eq_zero (by have := h1.le; omega)
    refine (Any.bytes_Index_nil (ρ := Tryz.lays185_ren) Tryz.lays185 (some ⟨A, 0, none⟩) 4 c2 w (by decide) (fun h => by cases h)).mono ?_
    rintro e w' ⟨rfl, rfl⟩
    exact ⟨by simp [Lib.index, hend], Below.refl _ _⟩
  | some ad =>
    have k1 : ∀ i, i < b.length → w.cell? (ad.add i) = some (.int .u8 ((nums b).getD i 0)) := fun i hi => by
      obtain ⟨bb, off, e, hc⟩ := h1.row (by intro e; subst e; simp at hi)
      simp only [Option.some.injEq] at e
      subst e
      rw [addr_add, nums_getD b i hi]
      exact hc i hi
    refine (Any.bytes_Index_at (ρ := Tryz.lays185_ren) Tryz.lays185 ad ⟨A, 0, none⟩ b.length c1 4 c2 (nums b) (nums hend) m w (by simp [nums]) (by simp [nums, hend]) (nums_rng b) (nums_rng hend) k1 k2 h1.le (by omega) (by decide) hm).mono ?_
    rintro e w' ⟨rfl, q, rfl⟩
    refine ⟨by rw [nums_bytes, nums_bytes], below_drewN (Below.refl _ _) q⟩
#print axioms index_w
end Go.Proofs.YtonaekkenggmbaaGreatDoor
end
