/-
  jsonx: names by their bytes: strings.Compare, the closure of rising.
-/
import Derived.Test.YtmpjeahibfdehaaGreatDoorPkMtesas
import Derived.Lib.Bytealg
section
set_option linter.unusedVariables false
set_option maxRecDepth 1000000
namespace Go.Proofs.YtmpjeahibfdehaaGreatDoor
open Go.RowKit Go.Extern.Stop Go.Stop Go.Extern

set_option maxHeartbeats 2000000 in
theorem scmp_any (a b : List UInt8) (w : World) :
  Calls Tryz.prog 151 #[.string (str a), .string (str b)] w fun e w' => e = .returned (.int .i64 (Lib.compareBytes a b)) ∧ w' = w := by
 have hx := @run_callFunc_extern Tryz.prog 201 _ BytealgCompare.compare Tryz.func201 (by kernel_rfl) (by kernel_rfl) (by kernel_rfl) (by kernel_rfl)
 have hc : ∀ w, (BytealgCompare.compare #[.string (str a), .string (str b)]).run Tryz.prog w = .ok (.int .i64 (Lib.compareBytes a b)) w := fun w => Lib.run_compareString (str a) (str b) w
 obtain ⟨X, hX⟩ : ∃ X, X = Lib.compareBytes a b := ⟨_, rfl⟩
 rw [← hX] at hc ⊢
 clear hX
 have H : Hid (Calls Tryz.prog 172 #[.string (str a), .string (str b)] w fun e w' => e = .returned (.int .i64 X) ∧ w' = w) := by
  show Calls _ _ _ _ _
  go_enter Tryz.func172, Tryz.ntmps172
  go_wp2
  go_ret
  exact ⟨rfl, rfl⟩
 clear hx hc
 go_enter Tryz.func151, Tryz.ntmps151
 go_wp2_with fail
 refine (uh H).mono ?_
 rintro e w1 ⟨rfl, rfl⟩
 go_wp2_with fail
 go_ret
 exact ⟨rfl, rfl⟩
set_option maxHeartbeats 2000000 in
theorem rise1 (C B o n cap i j : Nat) (a b : List UInt8) (w : World) (hC : w.cell? ⟨C, 0, none⟩ = some (.slice (some ⟨B, o, none⟩) n cap)) (hi : i < n) (hj : j < n) (ha : w.cell? ⟨B, o + i, none⟩ = some (.string (str a))) (hb : w.cell? ⟨B, o + j, none⟩ = some (.string (str b))) :
  Calls Tryz.prog 150 #[.int .i64 (i : Int), .int .i64 (j : Int), .pointer (some ⟨C, 0, none⟩)] w fun e w' => e = .returned (.int .i64 (Lib.compareBytes a b)) ∧ w' = w.drew := by
 have HC := fun w => hide (scmp_any a b w)
 have hi' : (i : Int) < (n : Int) := by omega
 have hj' : (j : Int) < (n : Int) := by omega
 go_enter Tryz.func150, Tryz.ntmps150
 go_wp2_with fail
 go_region_held3 (fun w' => w'.cell? ⟨C, 0, none⟩ = some (.slice (some ⟨B, o, none⟩) n cap) ∧ w'.cell? ⟨B, o + i, none⟩ = some (.string (str a)) ∧ w'.cell? ⟨B, o + j, none⟩ = some (.string (str b))) (first | exact ⟨hC, ha, hb⟩ | assumption | go_keep) ((first | (go_at_call 151; refine (uh (HC _)).mono ?_; rintro e w1 ⟨rfl, hw1⟩; subst hw1)))
 all_goals
  go_wp2_with fail
  go_ret
  exact ⟨rfl, rfl⟩
end Go.Proofs.YtmpjeahibfdehaaGreatDoor
end
