/-
  THE WALK of wire.Frame.
-/
import Derived.Test.YtmcgghjeocnpnaaGreatDoorPkKewsau
import Derived.Test.YtmcgghjeocnpnaaGreatDoorPkKewsas
section
set_option linter.unusedVariables false
namespace Go.Proofs.YtmcgghjeocnpnaaGreatDoor
open Go.RowKit

set_option maxHeartbeats 1000000 in
theorem frame_ok (a : Option Addr) (n cap : Nat) (l : List UInt8) (w : World) (hB : Bs w a cap l) (hn : n = l.length) (hb : ¬ 65536 < l.length) :
    Calls Tryz.prog 63 #[.slice a n cap] w fun e w' => ∃ a' cap' r, e = .returned (.tuple #[.slice a' r.length cap', .int .i64 0]) ∧ Hid (r = frameOf l) ∧ OwnB w' w.heap.size a' cap' r ∧ Below w.heap.size w w' := by
  subst hn
  go_enter Tryz.func63, Tryz.ntmps63
  go_wp2_with (at_make; refine wp_make0 _ rfl _ _ rfl _ _ _ _ (l.length + 7) rfl rfl ?c1 ?c2 (Nat.le_refl _) ?_)
  case c1 => omega
  case c2 => omega
  intro a1 w1 ho1 hg1
  have hb1 : Below w.heap.size w w1 := (Below.refl _ _).grown hg1 (Nat.le_refl _) (fun k h => by cases h)
  have hB1 : Bs w1 a cap l := hB.below hb1 (Nat.le_refl _)
  clear hg1
  go_wp2_with fail
  refine (highest_any a1 (l.length + 7) [] l.length 3 w.heap.size w1 ho1 (by omega) (by omega) (by simp) hb1.size).mono ?_
  rintro e w2 ⟨a2, cap2, r2, rfl, hr2, ho2, hb2⟩
  have hb2 := hb1.trans hb2
  have hB2 : Bs w2 a cap l := hB.below hb2 (Nat.le_refl _)
  have hl2 : r2.length = 3 := by rw [hr2.out]; simp [be_length]
  have HL2 : Hid (r2.length = 3) := hl2
  clear hl2 hB1 ho1 hb1
  go_wp2_with (at_builtin; refine wp_app _ rfl _ _ rfl w.heap.size a2 cap2 r2 rfl ho2 a cap l _ rfl rfl hB2.row hB2.nz ?c3 hb2.size ?_)
  case c3 => have := HL2.out; omega
  intro a3 cap3 r3 w3 hr3 ho3 hg3
  have hb3 : Below w.heap.size w w3 := below_grown hb2 hg3 (Nat.le_refl _) (fun k hk => (ho2.lt k hk).1)
  have hl3 : r3.length ≤ 65539 := by rw [hr3.out]; have := HL2.out; simp; omega
  have HR3 : Hid (r3 = be 3 l.length ++ l) := by show _ = _; rw [hr3.out, hr2.out]; simp
  clear hg3 hr2 hr3 ho2 hb2 hB2 HL2
  go_wp2_with fail
  refine (sumBytes_any a3 _ cap3 r3 w3 ho3.toBs.row rfl (by omega)).mono ?_
  rintro e w4 ⟨c0, c1, c2, c3, hc, rfl, rfl⟩
  have ho4 := ho3.alloc (.cells #[.int .u8 (c0.toNat : Int), .int .u8 (c1.toNat : Int), .int .u8 (c2.toNat : Int), .int .u8 (c3.toNat : Int)] 152)
  have hb4 := hb3.alloc hb3.size (.cells #[.int .u8 (c0.toNat : Int), .int .u8 (c1.toNat : Int), .int .u8 (c2.toNat : Int), .int .u8 (c3.toNat : Int)] 152)
  generalize w3.alloc (.cells #[.int .u8 (c0.toNat : Int), .int .u8 (c1.toNat : Int), .int .u8 (c2.toNat : Int), .int .u8 (c3.toNat : Int)] 152) = w4 at *
  clear ho3 hb3
  go_wp2_with (at_builtin; refine wp_app _ rfl _ _ rfl w.heap.size a3 cap3 r3 rfl (ho4.alloc _) (some ⟨w4.heap.size, 0, none⟩) 4 [c0, c1, c2, c3] 4 rfl rfl (row_four _ _ _ _ _ _ _) (fun h => by cases h) ?c5 ?c6 ?_)
  case c5 => simp; omega
  case c6 => have := hb4.size; simp; omega
  intro a5 cap5 r5 w5 hr5 ho5 hg5
  have hb5 : Below w.heap.size w w5 := below_grown (hb4.alloc hb4.size _) hg5 (Nat.le_refl _) (fun k hk => (ho4.lt k hk).1)
  have HR5 : Hid (r5 = frameOf l) := by
    show _ = _
    rw [hr5.out, hc.out, HR3.out]
    rfl
  clear hr5 hg5 hc HR3
  go_wp2
  go_ret2
  exact ⟨a5, cap5, r5, rfl, HR5, ho5, hb5⟩
#print axioms frame_ok
end Go.Proofs.YtmcgghjeocnpnaaGreatDoor
end
