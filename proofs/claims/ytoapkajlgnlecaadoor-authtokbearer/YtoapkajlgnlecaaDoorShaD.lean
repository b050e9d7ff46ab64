/-
  THE WALK of digest's (short).behind; the tables.
-/
import Derived.Test.YtoapkajlgnlecaaDoorShaC
set_option linter.unusedVariables false
namespace Go.Proofs.YtoapkajlgnlecaaDoor
open Go.RowKit

/-- The two tables, as the program's text lays them. -/
structure Tb (w : World) : Prop where
  i2 : ∀ i, i < 8 → w.cell? ⟨0, i, none⟩ = some (.int .u32 ((ini2.list.getD i 0).toNat : Int))
  r2 : ∀ i, i < 64 → w.cell? ⟨2, i, none⟩ = some (.int .u32 ((k2 i).toNat : Int))
theorem Tb.big {w : World} (h : Tb w) : 3 ≤ w.heap.size := by
  have := World.block_lt_of_cell? w _ (h.r2 0 (by omega))
  exact this
theorem Tb.below {w w' : World} {B : Nat} (h : Tb w) (hb : Below B w w') (hB : 3 ≤ B) : Tb w' :=
  ⟨fun i hi => by rw [hb.cell (by show 0 < B; omega)]; exact h.i2 i hi, fun i hi => by rw [hb.cell (by show 2 < B; omega)]; exact h.r2 i hi⟩

theorem run_idx (w : World) (t : TypeId) (n : Nat) (l : List UInt32) (k : Nat) (hu : Tryd.prog.underlying t = some (.array n 93)) (hl : l.length = n) (hk : k < n) :
    (Instr.index t (.agg (us l).toArray) (.int .i64 (k : Int))).run Tryd.prog w = .ok (.int .u32 ((l.getD k 0).toNat : Int)) w := by
  have hn : 0 ≤ (k : Int) ∧ (k : Int) < (n : Int) := by omega
  have hg := us_get l k (by omega)
  simp [Instr.index, run_underlying hu, asIntOf, go_sem, hk, hg]

end Go.Proofs.YtoapkajlgnlecaaDoor
