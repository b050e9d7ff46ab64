/-
  THE WALKS of digest's word, shortSchedule, longSchedule.
-/
import Derived.Test.YthhcaalafacjlaaDoorPkAetsac
import Derived.Test.YthhcaalafacjlaaDoorPkAetsae
import Derived.Test.YthhcaalafacjlaaDoorPkAetsad
import Derived.WalkSpells
import Derived.WalkLawsBesides
import Derived.Deep.QuietTactic
import Derived.BigQuiet
import Derived.BigRegion
import Derived.Deep.RegionHeld3
import Derived.Deep.WholeRow
section
set_option linter.unusedVariables false
namespace Go.Proofs.YthhcaalafacjlaaDoor
open Go.RowKit

theorem b4_lt (a b c d : UInt8) : a.toNat * 16777216 + b.toNat * 65536 + c.toNat * 256 + d.toNat < 4294967296 := by
  have := a.toNat_lt; have := b.toNat_lt; have := c.toNat_lt; have := d.toNat_lt; omega
theorem b4_nat (a b c d : UInt8) : (b4 a b c d).toNat = a.toNat * 16777216 + b.toNat * 65536 + c.toNat * 256 + d.toNat := by
  have := b4_lt a b c d
  simp only [b4, UInt32.toNat_ofNat']
  exact Nat.mod_eq_of_lt this
theorem b4_or (a b c d : UInt8) : bits .or .u32 (bits .or .u32 (bits .or .u32 ((a.toNat : Int) * 16777216) ((b.toNat : Int) * 65536)) ((c.toNat : Int) * 256)) (d.toNat : Int) = ((b4 a b c d).toNat : Int) := by
  have ha := a.toNat_lt; have hb := b.toNat_lt; have hc := c.toNat_lt; have hd := d.toNat_lt
  have e1 := u32_or_nat (a.toNat * 16777216) (b.toNat * 65536) (by omega) (by omega)
  rw [nat_join 24 _ _ (by omega) (by omega)] at e1
  have e2 := u32_or_nat (a.toNat * 16777216 + b.toNat * 65536) (c.toNat * 256) (by omega) (by omega)
  rw [nat_join 16 _ _ (by omega) (by omega)] at e2
  have e3 := u32_or_nat (a.toNat * 16777216 + b.toNat * 65536 + c.toNat * 256) d.toNat (by omega) (by omega)
  rw [nat_join 8 _ _ (by omega) (by omega)] at e3
  rw [b4_nat, ← e3, ← e2, ← e1]
  simp only [Int.natCast_mul]
  rfl

theorem b4_or' (a b c d : UInt8) : bits .or .u32 (bits .or .u32 (bits .or .u32 ((a.toNat : Int) % 4294967296 * 16777216 % 4294967296) ((b.toNat : Int) % 4294967296 * 65536 % 4294967296)) ((c.toNat : Int) % 4294967296 * 256 % 4294967296)) ((d.toNat : Int) % 4294967296) = ((b4 a b c d).toNat : Int) := by
  have ha := a.toNat_lt; have hb := b.toNat_lt; have hc := c.toNat_lt; have hd := d.toNat_lt
  rw [← b4_or]
  congr 1
  · congr 1
    · congr 1 <;> omega
    · omega
  · omega

set_option maxHeartbeats 1000000 in
theorem word_any (C : Nat) (t : TypeId) (m : List UInt8) (i : Nat) (w : World) (hc : Cel w C t (bs m)) (hm : m.length = 64) (hi : i < 16) :
    Calls Tryd.prog 85 #[.pointer (some ⟨C, 0, none⟩), .int .i64 (i : Int)] w fun e w' => e = .returned (.int .u32 ((wd m i).toNat : Int)) ∧ ∃ n, w' = w.drewN n := by
  have c0 := hc.byte (4 * i) (by omega)
  have c1 := hc.byte (4 * i + 1) (by omega)
  have c2 := hc.byte (4 * i + 2) (by omega)
  have c3 := hc.byte (4 * i + 3) (by omega)
  have HW : Hid (wd m i = b4 (m.getD (4 * i) 0) (m.getD (4 * i + 1) 0) (m.getD (4 * i + 2) 0) (m.getD (4 * i + 3) 0)) := rfl
  generalize m.getD (4 * i) 0 = x0 at *
  generalize m.getD (4 * i + 1) 0 = x1 at *
  generalize m.getD (4 * i + 2) 0 = x2 at *
  generalize m.getD (4 * i + 3) 0 = x3 at *
  clear hc hm
  have h1 : (0 : Int) ≤ (i : Int) := by omega
  have h2 : (i : Int) < 16 := by omega
  go_enter Tryd.func85, Tryd.ntmps85
  go_wp2
  go_quiet (fail)
  go_wp2
  go_ret
  exact ⟨ret_int (by rw [HW.out]; exact b4_or' x0 x1 x2 x3), nq, rfl⟩

end Go.Proofs.YthhcaalafacjlaaDoor
end
