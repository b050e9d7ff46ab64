/-
  httpd: strings.Cut at any text, strconv.Atoi of any text, an answer's first line read (readStatus).
-/
import Derived.Test.YtonaekkenggmbaaGreatDoorPkHadsay
import Derived.Test.YtonaekkenggmbaaGreatDoorPkHadsal
import Derived.Test.YtonaekkenggmbaaGreatDoorPkHadsam
import Derived.Shelf.Strconv.AtoiAll
section
set_option linter.unusedVariables false
set_option maxRecDepth 1000000
namespace Go.Proofs.YtonaekkenggmbaaGreatDoor
open Go.RowKit

theorem scut_any (l s : List UInt8) (w : World) (hl : l.length ≤ 1000000) (hm : Mx w) :
    Calls Tryz.prog 110 #[.string (str l), .string (str s)] w fun e w' => e = .returned (.tuple #[.string (str (Lib.cut l s).1), .string (str (Lib.cut l s).2.1), .bool (Lib.cut l s).2.2]) ∧ Hid (Below w.heap.size w w') := by
  obtain ⟨m, hm⟩ := hm
  have hz2 : (str l).size = l.length := str_size l
  have h := Any.strings_Cut (ρ := Tryz.lays145_ren) Tryz.lays145 (str l) (str s) m w (by omega) hm
  refine h.mono ?_
  rintro e w' ⟨rfl, n, rfl⟩
  exact ⟨rfl, bdr (Below.refl _ _) n⟩
/-- strconv.ErrRange is laid. -/
def Rx (w : World) : Prop := ∃ te pe, w.cell? ⟨5, 0, none⟩ = some (.iface te pe)
theorem Rx.below {w w' : World} (h : Rx w) (hb : Below w.heap.size w w') : Rx w' := by
  obtain ⟨a, b, hc⟩ := h
  exact ⟨a, b, by rw [hb.cell (World.block_lt_of_cell? w _ hc)]; exact hc⟩
theorem rx_of_reads {w : World} {nm : String} {d : DataW Unit} (h : Lib.VarReads Tryz.prog w "strconv.ErrRange" (.iface nm d)) : Rx w := by
  obtain ⟨g', t', cs, fuel, p, hg, hty, hvar, hd⟩ := h
  obtain rfl := Option.some.inj ((show Tryz.prog.globalNamed "strconv.ErrRange" = some 5 by kernel_rfl).symm.trans hg)
  obtain rfl := Option.some.inj ((show (Tryz.prog.globals[5]?).map (·.type) = some 140 by kernel_rfl).symm.trans hty)
  obtain ⟨f1, u, v, hcs, _, _⟩ := iface_of_trod Tryz.underlying140 hd
  refine ⟨u, v, ?_⟩
  rw [World.var?_cell hg hvar 0, ← Array.getElem?_toList, hcs]
  rfl
/-- What strconv.Atoi says: the number where there is one. -/
def atO (l : List UInt8) : Option Int := match Lib.atoiAll l with | .ok v => some v | _ => none
theorem atoi_all9 (l : List UInt8) (w : World) (hl : l.length ≤ 1000000) (hs : Sx w) (hr : Rx w) :
    Calls Tryz.prog 111 #[.string (str l)] w fun e w' => ∃ v ev, e = .returned (.tuple #[.int .i64 v, ev]) ∧ Hid (Below w.heap.size w w') ∧ ((atO l = some v ∧ ev = .nilIface) ∨ (atO l = none ∧ ∃ t p, ev = .iface t p)) := by
  have hz : (str l).size = l.length := str_size l
  cases h : Lib.atoiAll l with
  | ok v =>
    refine (Any.strconv_Atoi_ok (ρ := Tryz.laysC172_ren) Tryz.laysC172 (str l) (by omega) v h w).mono ?_
    rintro e w' ⟨rfl, hw⟩
    refine ⟨v, .nilIface, rfl, ?_, .inl ⟨by unfold atO; rw [h], rfl⟩⟩
    rcases hw with rfl | ⟨t, rfl⟩
    · exact Below.refl _ _
    · exact Lib.bytesWorld_below _ _ _
  | «syntax» =>
    obtain ⟨te, pe, hc⟩ := hs
    refine (Any.strconv_Atoi_syntax (ρ := Tryz.laysC172_ren) Tryz.laysC172 (str l) (by omega) h (.iface te pe) w hc (.inr ⟨te, pe, rfl⟩)).mono ?_
    rintro e w' ⟨N, rfl, hN, hrow, hb⟩
    exact ⟨0, _, rfl, hb, .inr ⟨by unfold atO; rw [h], _, _, rfl⟩⟩
  | range =>
    obtain ⟨te, pe, hc⟩ := hr
    refine (Any.strconv_Atoi_range (ρ := Tryz.laysC172_ren) Tryz.laysC172 (str l) (by omega) h (.iface te pe) w hc (.inr ⟨te, pe, rfl⟩)).mono ?_
    rintro e w' ⟨N, rfl, hN, hrow, hb⟩
    exact ⟨_, _, rfl, hb, .inr ⟨by unfold atO; rw [h], _, _, rfl⟩⟩
#print axioms atoi_all9
end Go.Proofs.YtonaekkenggmbaaGreatDoor
end
