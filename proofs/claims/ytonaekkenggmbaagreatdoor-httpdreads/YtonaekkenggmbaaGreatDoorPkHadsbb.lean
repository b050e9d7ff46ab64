/-
  httpd: the document's SameRequest at equal requests.; httpd: Find of 'host'; slices.Contains of ints; HttpdOneOf's walk.; slices.Equal of the same bytes.
-/
import Derived.Test.YtonaekkenggmbaaGreatDoorPkHadsar
import Derived.Test.YtonaekkenggmbaaGreatDoorPkHadsba
import Derived.Test.YtonaekkenggmbaaGreatDoorPkHadsap
section
set_option linter.unusedVariables false
set_option maxRecDepth 1000000
namespace Go.Proofs.YtonaekkenggmbaaGreatDoor
open Go.RowKit

set_option maxHeartbeats 4000000 in
theorem same_eq (m p : List UInt8) (H : List Hd) (B : List UInt8) (hp hq bp bq : Option Addr) (hc hd bc bd : Nat) (w : World) (h1 : HdR w hp H) (h2 : HdR w hq H) (b1 : Bs w bp bc B) (b2 : Bs w bq bd B) (hl : H.length ≤ 1000000) (hbl : B.length ≤ 100000000) :
    Calls Tryz.prog 17 #[.agg #[.string (str m), .string (str p), .slice hp H.length hc, .slice bp B.length bc], .agg #[.string (str m), .string (str p), .slice hq H.length hd, .slice bq B.length bd]] w fun e w' => e = .returned (.bool true) ∧ Hid (Below w.heap.size w w') := by
  have H1 := hide h1
  have H2 := hide h2
  have B1 := hide b1
  have B2 := hide b2
  clear h1 h2 b1 b2
  obtain ⟨o1, ho1⟩ : ∃ o, o = Obj.cells #[.string (str m), .string (str p), .slice hp H.length hc, .slice bp B.length bc] 39 := ⟨_, rfl⟩
  obtain ⟨o2, ho2⟩ : ∃ o, o = Obj.cells #[.string (str m), .string (str p), .slice hq H.length hd, .slice bq B.length bd] 39 := ⟨_, rfl⟩
  have hb : Below w.heap.size w ((w.alloc o1).alloc o2) := ((Below.refl _ _).alloc (Nat.le_refl _) _).alloc (by simp) _
  have k1 := run_str _ _ _ bc B (unhide B1 |>.below hb (Nat.le_refl _)).row rfl
  have k2 := run_str _ _ _ bd B (unhide B2 |>.below hb (Nat.le_refl _)).row rfl
  have HS := hide (samh_eq hp hq hc hd H _ ((unhide H1).below hb (Nat.le_refl _)) ((unhide H2).below hb (Nat.le_refl _)) hl)
  have HB := hide hb
  clear hb
  rw [ho1, ho2] at k1 k2 HS HB
  clear ho1 ho2
  have HBS := hide (unhide HB).size
  go_enter Tryz.func17, Tryz.ntmps17
  go_wp2_with fail
  refine (unhide HS).mono ?_
  rintro e w' ⟨rfl, HB2⟩
  go_wp2_with fail
  go_ret
  exact ⟨rfl, hide ((unhide HB).trans ((unhide HB2).mono (unhide HBS)))⟩
#print axioms same_eq
end Go.Proofs.YtonaekkenggmbaaGreatDoor
end
section
set_option linter.unusedVariables false
set_option maxRecDepth 1000000
namespace Go.Proofs.YtonaekkenggmbaaGreatDoor
open Go.RowKit

/-- A row of ints. -/
def IRow (w : World) (a : Option Addr) (l : List Int) : Prop :=
  l ≠ [] → ∃ b off, a = some ⟨b, off, none⟩ ∧ ∀ i s, l[i]? = some s → w.cell? ⟨b, off + i, none⟩ = some (.int .i64 s)
/-! ### slices.Contains -/
theorem first_ix : ∀ (l : List Int) (x : Int), x ∈ l → ∃ i0 : Nat, l[i0]? = some x ∧ ∀ j, j < i0 → l[j]? ≠ some x
  | [], x, h => by simp at h
  | a :: r, x, h => by
    by_cases e : a = x
    · exact ⟨0, by simp [e], fun j hj => by omega⟩
    · have hr : x ∈ r := by
        rcases List.mem_cons.1 h with h | h
        · exact absurd h.symm e
        · exact h
      obtain ⟨i, h1, h2⟩ := first_ix r x hr
      refine ⟨i + 1, by simpa using h1, fun j hj => ?_⟩
      cases j with
      | zero => simpa using e
      | succ j => simpa using h2 j (by omega)
theorem HdS.of {N : Nat} {H : List Hd} (h : ∀ d ∈ H, d.1.length ≤ N ∧ d.2.length ≤ N) (hN : N ≤ 1000000) : HdS H := fun t d hd => by
  have := h d (List.mem_of_getElem? hd)
  omega
set_option maxHeartbeats 4000000 in
theorem find_host (p : Option Addr) (cp : Nat) (H : List Hd) (w : World) (h : HdR w p H) (hS : HdS H) (hl : H.length ≤ 1000000) (h1 : (vals wHost H).length = 1) :
    Calls Tryz.prog 23 #[.slice p H.length cp, .string (str wHost)] w fun e w' => e = .returned (.tuple #[.string (str ((vals wHost H).getD 0 [])), .bool true]) ∧ Hid (Below w.heap.size w w') := by
  have HV := hide (values_any wHost (by decide) (by decide) p cp H w h hS hl)
  clear h hS
  generalize vals wHost H = L at *
  obtain ⟨x, hx⟩ : ∃ x, L.getD 0 [] = x := ⟨_, rfl⟩
  rw [hx]
  have HX := hide hx
  clear hx
  go_enter Tryz.func23, Tryz.ntmps23
  go_wp2_with fail
  refine (unhide HV).mono ?_
  rintro e w' ⟨a, c, L', rfl, HL, HO, HB⟩
  obtain rfl : L' = L := unhide HL
  obtain ⟨g, rfl, _, _, hc⟩ := (unhide HO).some (by omega)
  have c0 := hc 0 (by omega)
  rw [unhide HX] at c0
  have hn : ((L'.length : Int) == 0) = false := beq_eq_false_iff_ne.2 (by omega)
  have hn1 : ¬ (L'.length : Int) = 0 := by omega
  have hn2 : (0 : Int) < (L'.length : Int) := by omega
  clear hc HV HL HX
  go_wp2_with fail
  go_ret2
  exact ⟨rfl, HB⟩
#print axioms find_host
end Go.Proofs.YtonaekkenggmbaaGreatDoor
end
section
set_option linter.unusedVariables false
set_option maxRecDepth 1000000
namespace Go.Proofs.YtonaekkenggmbaaGreatDoor
open Go.RowKit

set_option maxHeartbeats 2000000 in
theorem eq8_same (a1 : Option Addr) (c1 : Nat) (a2 : Option Addr) (c2 : Nat) (l : List UInt8) (w : World) (h1 : Bs w a1 c1 l) (h2 : Bs w a2 c2 l) (hl : l.length ≤ 1000000000) :
    Calls Tryz.prog 18 #[.slice a1 l.length c1, .slice a2 l.length c2] w fun e w' => e = .returned (.bool true) ∧ Hid (Below w.heap.size w w') := by
  have H1 := hide h1
  have H2 := hide h2
  clear h1 h2
  go_enter Tryz.func18, Tryz.ntmps18
  go_wp2
  go_loopw [13] (fun i wr => ∃ k : Nat, k ≤ l.length ∧ i = .int .i64 (k : Int) ∧ Hid (Below w.heap.size w wr)) (fun i _ => l.length - (intOf i).toNat)
  case atStart => exact ⟨0, Nat.zero_le _, rfl, Below.refl _ _⟩
  case round =>
    obtain ⟨k, hk, rfl, HB⟩ := hrel
    by_cases hlt : k < l.length
    · obtain ⟨b1, o1, ea1, hc1⟩ := ((unhide H1).row.below (unhide HB) (Nat.le_refl _)) (by intro e; subst e; simp at hlt)
      obtain ⟨b2, o2, ea2, hc2⟩ := ((unhide H2).row.below (unhide HB) (Nat.le_refl _)) (by intro e; subst e; simp at hlt)
      subst ea1
      subst ea2
      have k1 := hc1 k hlt
      have k2 := hc2 k hlt
      have hlt2 : (k : Int) < (l.length : Int) := by omega
      generalize l.getD k 0 = x at *
      have hb1 : ((x.toNat : Int) != (x.toNat : Int)) = false := by simp
      clear hc1 hc2
      go_wp2_with fail
      go_quiet (fail)
      have HB2 := hide (below_drewN (unhide HB) nq)
      go_wp2
      go_roundw
      case rel => exact ⟨k + 1, by omega, by go_num, HB2⟩
      case measure => simp [intOf]; omega
    · obtain rfl : k = l.length := by omega
      go_wp2
      go_ret
      exact ⟨rfl, HB⟩
#print axioms eq8_same
end Go.Proofs.YtonaekkenggmbaaGreatDoor
end
