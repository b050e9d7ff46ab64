/-
  jsonx: JsonxParses.
-/
import Derived.Test.YtbnbngmnoffmkaaGreatDoorPkJsesbm
import Derived.Test.YtbnbngmnoffmkaaGreatDoorPkJsesbc
import Derived.Test.YtbnbngmnoffmkaaGreatDoorPkJsesax
section
set_option linter.unusedVariables false
set_option maxRecDepth 1000000
namespace Go.Proofs.YtbnbngmnoffmkaaGreatDoor
open Go.RowKit

set_option maxHeartbeats 8000000 in
theorem jparses_any (s : List UInt8) (w : World) (hE : Env4 w) :
  Calls Tryz.prog 3 #[.string (str s)] w fun e w' => e = .returned (.bool true) ∧ Hid (Below w.heap.size w w') := by
 have HP1 := hide (parse_any s w hE.tb hE.et)
 have HP2 : Hid (∀ u, Below w.heap.size w u → Calls Tryz.prog 7 #[.string (str s)] u fun e w' => PsP u s e w') := fun u hb => rparse_any s u (hE.below hb).tb
 have HAW : Hid (∀ u, Below w.heap.size w u → Calls Tryz.prog 9 #[] u fun e w' => e = .returned (.bool true) ∧ Hid (Below u.heap.size u w')) := fun u hb => awake4 u (hE.below hb)
 unfold PsP at HP1 HP2
 generalize psM s = R1 at HP1 HP2
 clear hE
 obtain ⟨j1, P1, E1⟩ := R1
 simp only at HP1 HP2
 have x1 : ((E1 : Int) == (E1 : Int)) = true := by simp
 have x2 : ((P1 : Int) == (P1 : Int)) = true := by simp
 go_enter Tryz.func3, Tryz.ntmps3
 go_wp2_with fail
 refine (unhide HP1).mono ?_
 rintro e w2 ⟨hb2, ht2, v1, rfl, hJ1⟩
 obtain ⟨jk, jn, jt, ja1, jn1, jc1, ja2, jn2, jc2, rfl⟩ := hJ1.form
 clear HP1 ht2
 obtain ⟨V, hV⟩ : ∃ V, V = w2.heap.size := ⟨_, rfl⟩
 obtain ⟨U, hU⟩ : ∃ U, U = w2.alloc (.cells #[.int .i64 jk, .int .i64 jn, .string (str jt), .slice ja1 jn1 jc1, .slice ja2 jn2 jc2] 25) := ⟨_, rfl⟩
 have bU : Below w2.heap.size w2 U := by rw [hU]; exact (Below.refl _ _).alloc (Nat.le_refl _) _
 have hbU := hb2.trans (bU.mono hb2.size)
 have rU : U.heap[V]? = some (.cells #[.int .i64 jk, .int .i64 jn, .string (str jt), .slice ja1 jn1 jc1, .slice ja2 jn2 jc2] 25 (0, 0)) := by rw [hU, hV]; exact heap_alloc_new _ _
 have HJ1 : Hid (JV U (Al U) _ j1) := hJ1.al (fun k hk => hk.2) bU
 have HQ2 := hide (unhide HP2 U hbU)
 have HBU := hide hbU
 have HRU := hide rU
 clear HP2 bU hbU rU hb2 hJ1
 go_upto_region 2 with fail
 rw [← hU, ← hV]
 clear hU hV
 go_wp2_with fail
 refine (unhide HQ2).mono ?_
 rintro e w3 ⟨hb3, ht3, v2, rfl, hJ2⟩
 obtain ⟨ik, inn, it, ia1, in1, ic1, ia2, in2, ic2, rfl⟩ := hJ2.form
 clear HQ2 ht3
 obtain ⟨X, hX⟩ : ∃ X, X = w3.heap.size := ⟨_, rfl⟩
 obtain ⟨Y, hY⟩ : ∃ Y, Y = w3.alloc (.cells #[.int .i64 ik, .int .i64 inn, .string (str it), .slice ia1 in1 ic1, .slice ia2 in2 ic2] 25) := ⟨_, rfl⟩
 have bY : Below w3.heap.size w3 Y := by rw [hY]; exact (Below.refl _ _).alloc (Nat.le_refl _) _
 have bUY := hb3.trans (bY.mono hb3.size)
 have rX : Y.heap[X]? = some (.cells #[.int .i64 ik, .int .i64 inn, .string (str it), .slice ia1 in1 ic1, .slice ia2 in2 ic2] 25 (0, 0)) := by rw [hY, hX]; exact heap_alloc_new _ _
 have rV : Y.heap[V]? = some (.cells #[.int .i64 jk, .int .i64 jn, .string (str jt), .slice ja1 jn1 jc1, .slice ja2 jn2 jc2] 25 (0, 0)) := (bUY.block V (Array.getElem?_eq_some_iff.1 (unhide HRU)).1).trans (unhide HRU)
 have HJ2 : Hid (JV Y (Al Y) _ j1) := hJ2.al (fun k hk => hk.2) bY
 have HJ1' : Hid (JV Y (Al Y) _ j1) := (unhide HJ1).al (fun k hk => hk) bUY
 have HBY : Hid (Below w.heap.size w Y) := (unhide HBU).trans (bUY.mono (unhide HBU).size)
 obtain ⟨p0, p1, p2, p3, p4⟩ := cells5 rV
 obtain ⟨q0, q1, q2, q3, q4⟩ := cells5 rX
 have HEQ := hide (equal_same j1 (Al Y) _ _ Y (unhide HJ1') (unhide HJ2) (fun k hk => hk))
 clear HJ1 HRU HBU bY bUY rX rV hb3 hJ2 HJ1' HJ2
 go_upto_region 3 with fail
 rw [← hY, ← hX]
 clear hY hX
 go_wp2_with fail
 refine (unhide HEQ).mono ?_
 rintro e w4 ⟨rfl, h4⟩
 have HB4 : Hid (Below w.heap.size w w4) := (unhide HBY).trans ((unhide h4).mono (unhide HBY).size)
 have HA4 := hide (unhide HAW w4 (unhide HB4))
 clear HEQ HAW HBY h4 p0 p1 p2 p3 p4 q0 q1 q2 q3 q4
 go_wp2_with fail
 refine (unhide HA4).mono ?_
 rintro e w5 ⟨rfl, h5⟩
 have HB5 : Hid (Below w.heap.size w w5) := (unhide HB4).trans ((unhide h5).mono (unhide HB4).size)
 go_wp2_with fail
 go_ret
 exact ⟨rfl, HB5⟩
#print axioms jparses_any
theorem jsonxParses_walk (s : List UInt8) (w : World) (hl : s.length ≤ maxLen) (hE : Env4 w) :
  Calls Tryz.prog 3 #[.string (str s)] w fun e w' => e = .returned (.bool true) ∧ Below w.heap.size w w' :=
 (jparses_any s w hE).mono fun e w' h => ⟨h.1, unhide h.2⟩
end Go.Proofs.YtbnbngmnoffmkaaGreatDoor
end
