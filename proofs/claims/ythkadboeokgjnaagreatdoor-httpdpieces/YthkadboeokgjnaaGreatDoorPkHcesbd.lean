/-
  httpd: the document's SameRequest at equal requests.
-/
import Derived.Test.YthkadboeokgjnaaGreatDoorPkHcesax
import Derived.Test.YthkadboeokgjnaaGreatDoorPkHcesbc
section
set_option linter.unusedVariables false
set_option maxRecDepth 1000000
namespace Go.Proofs.YthkadboeokgjnaaGreatDoor
open Go.RowKit

set_option maxHeartbeats 4000000 in
theorem same_eq (m p : List UInt8) (H : List Hd) (B : List UInt8) (hp hq bp bq : Option Addr) (hc hd bc bd : Nat) (w : World) (h1 : HdR w hp H) (h2 : HdR w hq H) (b1 : Bs w bp bc B) (b2 : Bs w bq bd B) (hl : H.length ≤ 1000000) (hbl : B.length ≤ 100000000) :
    Calls Tryz.prog 13 #[.agg #[.string (str m), .string (str p), .slice hp H.length hc, .slice bp B.length bc], .agg #[.string (str m), .string (str p), .slice hq H.length hd, .slice bq B.length bd]] w fun e w' => e = .returned (.bool true) ∧ Hid (Below w.heap.size w w') := by
  have H1 := hide h1
  have H2 := hide h2
  have B1 := hide b1
  have B2 := hide b2
  clear h1 h2 b1 b2
  obtain ⟨o1, ho1⟩ : ∃ o, o = Obj.cells #[.string (str m), .string (str p), .slice hp H.length hc, .slice bp B.length bc] 27 := ⟨_, rfl⟩
  obtain ⟨o2, ho2⟩ : ∃ o, o = Obj.cells #[.string (str m), .string (str p), .slice hq H.length hd, .slice bq B.length bd] 27 := ⟨_, rfl⟩
  have hb : Below w.heap.size w ((w.alloc o1).alloc o2) := ((Below.refl _ _).alloc (Nat.le_refl _) _).alloc (by simp) _
  have k1 := run_str _ _ _ bc B (unhide B1 |>.below hb (Nat.le_refl _)).row rfl
  have k2 := run_str _ _ _ bd B (unhide B2 |>.below hb (Nat.le_refl _)).row rfl
  have HS := hide (samh_eq hp hq hc hd H _ ((unhide H1).below hb (Nat.le_refl _)) ((unhide H2).below hb (Nat.le_refl _)) hl)
  have HB := hide hb
  clear hb
  rw [ho1, ho2] at k1 k2 HS HB
  clear ho1 ho2
  have HBS := hide (unhide HB).size
  go_enter Tryz.func13, Tryz.ntmps13
  go_wp2_with fail
  refine (unhide HS).mono ?_
  rintro e w' ⟨rfl, HB2⟩
  go_wp2_with fail
  go_ret
  exact ⟨rfl, hide ((unhide HB).trans ((unhide HB2).mono (unhide HBS)))⟩
#print axioms same_eq
end Go.Proofs.YthkadboeokgjnaaGreatDoor
end
