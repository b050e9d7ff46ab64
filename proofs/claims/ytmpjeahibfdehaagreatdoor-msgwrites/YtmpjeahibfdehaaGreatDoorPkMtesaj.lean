/-
  THE WALKS of strings.Builder's methods at a builder in a block of the call's own.; strings.Builder: Write, WriteString, String.
-/
import Derived.Test.YtmpjeahibfdehaaGreatDoorPkMtesai
import Derived.Test.YtmpjeahibfdehaaGreatDoorPkMtesac
import Derived.Test.YtmpjeahibfdehaaGreatDoorPkMtesad
import Derived.Lib.Builder
import Derived.Lib.UnsafeStr
section
set_option linter.unusedVariables false
namespace Go.Proofs.YtmpjeahibfdehaaGreatDoor
open Go.RowKit

/-- A builder in block b that holds these bytes. -/
def Bld (w : World) (base b : Nat) (p : Value) (l : List UInt8) : Prop :=
 base ≤ b ∧ ∃ a cap, Cel w b 168 [p, .slice a l.length cap] ∧ OwnB w base a cap l ∧ blk a ≠ some b ∧ (l = [] → a = none ∧ cap = 0)
def selfP (b : Nat) : Value := .pointer (some ⟨b, 0, none⟩)

theorem bSize : (Tryz.prog.info? 168).map (·.size) = some 2 := by kernel_rfl
theorem bLies : liesAt Tryz.prog Tryz.prog.depth 168 (2 / Tryz.prog.cellsOf 168) 0 168 1 = true := by kernel_rfl

set_option maxHeartbeats 1000000 in
theorem check_used (b : Nat) (w : World) (h0 : w.cell? ⟨b, 0, none⟩ = some (.pointer (some ⟨b, 0, none⟩))) :
  Calls Tryz.prog 164 #[.pointer (some ⟨b, 0, none⟩)] w fun e w' => e = .returned (.tuple #[]) ∧ w' = w := by
 obtain ⟨j, hj, _⟩ := Option.map_eq_some_iff.1 bSize
 have hnq := fun w => Lib.run_neq_ptr_same (P := Tryz.prog) w ⟨b, 0, none⟩ Tryz.underlying166 hj
 go_enter Tryz.func164, Tryz.ntmps164
 go_wp2
 go_end0
 exact ⟨rfl, rfl⟩

set_option maxRecDepth 100000 in
set_option maxHeartbeats 1000000 in
theorem check_fresh (b : Nat) (w : World) (h0 : w.cell? ⟨b, 0, none⟩ = some (.pointer none)) (hsh : w.shape? b = some (168, 2)) (hfz : w.frozen? ⟨b, 0, none⟩ = false) :
  Calls Tryz.prog 164 #[.pointer (some ⟨b, 0, none⟩)] w fun e w' => e = .returned (.tuple #[]) ∧ w' = w.setCell ⟨b, 0, none⟩ (.pointer (some ⟨b, 0, none⟩)) := by
 obtain ⟨j, hj, hjs⟩ := Option.map_eq_some_iff.1 bSize
 have hnq := fun w => Lib.run_neq_ptr_same (P := Tryz.prog) w ⟨b, 0, none⟩ Tryz.underlying166 hj
 have ht : (convert 166 102 (.pointer (some ⟨b, 0, none⟩))).run Tryz.prog w = .ok (.pointer (some ⟨b, 0, none⟩)) w := Lib.run_to_unsafe w ⟨b, 0, none⟩ Tryz.underlying166 Tryz.underlying102 hj (by rw [hjs]; decide) hsh (Nat.zero_lt_succ 1)
 have hf : (convert 102 166 (.pointer (some ⟨b, 0, none⟩))).run Tryz.prog w = .ok (.pointer (some ⟨b, 0, none⟩)) w := Lib.run_from_unsafe w ⟨b, 0, none⟩ Tryz.underlying102 Tryz.underlying166 hj hsh bLies
 have hne : ∀ (x : Value) (w : World), (callFunc 182 #[x]).run Tryz.prog w = .ok (.value x) w := by
  intro x w
  rw [run_callFunc_extern Tryz.func182 (by kernel_rfl) (by kernel_rfl) (by kernel_rfl) (e := Extern.AbiNoEscape.same) (by kernel_rfl)]
  rw [Lib.run_noEscape]
  rfl
 go_enter Tryz.func164, Tryz.ntmps164
 go_wp2
 go_end0
 exact ⟨rfl, rfl⟩

theorem check_any (base b : Nat) (p : Value) (l : List UInt8) (w : World) (h : Bld w base b p l) (hp : p = .pointer none ∨ p = selfP b) :
  Calls Tryz.prog 164 #[.pointer (some ⟨b, 0, none⟩)] w fun e w' => e = .returned (.tuple #[]) ∧ Hid (Bld w' base b (selfP b) l) ∧ Hid (w.grownBy w' (some b)) := by
 obtain ⟨hb, a, cap, hC, hO, hne, hz⟩ := h
 rcases hp with rfl | rfl
 ·refine (check_fresh b w (by rw [hC.cell]; rfl) (by have h := hC; unfold Cel at h; simp [World.shape?, h]) (hC.fr 0)).mono ?_
  rintro e w' ⟨rfl, rfl⟩
  exact ⟨rfl, ⟨hb, a, cap, hC.set 0 _, hO.kept (cg_set w ⟨b, 0, none⟩ _) (.inr hne), hne, hz⟩, cg_set w ⟨b, 0, none⟩ _⟩
 ·refine (check_used b w (by rw [hC.cell]; rfl)).mono ?_
  rintro e w' ⟨rfl, rfl⟩
  exact ⟨rfl, ⟨hb, a, cap, hC, hO, hne, hz⟩, ⟨rfl, rfl, rfl, Nat.le_refl _, fun _ _ _ => rfl⟩⟩
end Go.Proofs.YtmpjeahibfdehaaGreatDoor
end
section
set_option linter.unusedVariables false
namespace Go.Proofs.YtmpjeahibfdehaaGreatDoor
open Go.RowKit

theorem own_ne {w : World} {base b cap : Nat} {a : Option Addr} {l : List UInt8} {vs : List Value} (hO : OwnB w base a cap l) (hC : Cel w b 168 vs) : blk a ≠ some b := by
 intro e
 rcases hO.cases with ⟨rfl, _, _⟩ | ⟨g, cur, rfl, _, hg, _⟩
 ·cases e
 ·simp [blk] at e
  subst e
  unfold Cel at hC
  rw [hC] at hg
  simp at hg

/-- What a write leaves. -/
theorem bld_put {base b cap a1c : Nat} {a a1 : Option Addr} {l r : List UInt8} {w1 w2 : World} {p : Value} (hb : base ≤ b) (hC : Cel w1 b 168 [p, .slice a1 l.length a1c]) (hn1 : blk a1 ≠ some b) (hO : OwnB w2 base a cap r) (hg : w1.grownBy w2 (blk a1)) (hr : r ≠ []) :
  Bld (w2.setCell ⟨b, 1, none⟩ (.slice a r.length cap)) base b p r := by
 have hC2 := hC.grown hg hn1
 have hne := own_ne hO hC2
 exact ⟨hb, a, cap, hC2.set 1 _, hO.kept (cg_set w2 ⟨b, 1, none⟩ _) (.inr hne), hne, fun h => absurd h hr⟩

set_option maxRecDepth 100000 in
set_option maxHeartbeats 1000000 in
theorem bws_any (base b : Nat) (p : Value) (l : List UInt8) (w : World) (h : Bld w base b p l) (hp : p = .pointer none ∨ p = selfP b) (s : ByteArray) (hs : s.data.toList ≠ []) (hlen : l.length + s.size ≤ 100000000) (hbase : base ≤ w.heap.size) :
  Calls Tryz.prog 142 #[.pointer (some ⟨b, 0, none⟩), .string s] w fun e w' => e = .returned (.tuple #[.int .i64 (s.size : Int), .nilIface]) ∧ Hid (Bld w' base b (selfP b) (l ++ s.data.toList)) ∧ Hid (Below base w w') := by
 have HH := hide h
 have HP := hide hp
 have HL := hide hs
 have HLB : Hid (l.length + s.size ≤ 140737488355328) := (by omega : l.length + s.size ≤ 140737488355328)
 have HB := hide hbase
 have hll : s.size ≤ 100000000 := by omega
 clear h hp hs hlen hbase
 go_enter Tryz.func142, Tryz.ntmps142
 go_wp2_with (first
  | (go_at_call 164; refine (check_any base b p l _ HH.out HP.out).mono ?_; rintro e w1 ⟨rfl, hB1, hg1⟩; obtain ⟨hbb, a1, c1, hC1, hO1, hn1, hz1⟩ := hB1.out; have HC1 := hide hC1; have HO1 := hide hO1; have HN1 := hide hn1; have c0 := hC1.cell 1; have f0 := hC1.fr 1; simp only [List.getElem?_cons_succ, List.getElem?_cons_zero] at c0; clear hC1 hO1 hn1 hz1 hB1)
  | (refine wp_apps _ rfl _ _ rfl base a1 c1 l rfl HO1.out s rfl HLB.out (Nat.le_trans HB.out hg1.out.size) ?_; intro a3 c3 r w2 hr hO3 hg3; have HO3 := hide hO3; have HG3 := hide hg3; have f2 : w2.frozen? ⟨b, 1, none⟩ = false := (HC1.out.grown hg3 HN1.out).fr 1; have c2 := (HC1.out.grown hg3 HN1.out).cell 1; simp only [List.getElem?_cons_succ, List.getElem?_cons_zero] at c2; clear hO3 hg3))
 go_ret2
 refine ⟨rfl, ?_, ?_⟩
 ·have hr2 : r ≠ [] := by rw [hr.out]; simp [HL.out]
  have := bld_put (p := selfP b) hbb HC1.out HN1.out HO3.out HG3.out hr2
  rw [← hr.out]
  exact this
 ·exact (((cg_to_below hg1.out hbb HB.out)).grown HG3.out (Nat.le_trans HB.out hg1.out.size) (fun k hk => (HO1.out.lt k hk).1)).setCell hbb _

set_option maxRecDepth 100000 in
set_option maxHeartbeats 1000000 in
theorem bstr_any (base b : Nat) (p : Value) (l : List UInt8) (w : World) (h : Bld w base b p l) (hlen : l.length ≤ 100000000) :
  Calls Tryz.prog 144 #[.pointer (some ⟨b, 0, none⟩)] w fun e w' => e = .returned (.string (str l)) ∧ Hid (Below base w w') := by
 obtain ⟨hbb, a, cap, hC, hO, hne, hz⟩ := h
 have c1 := hC.cell 1
 simp only [List.getElem?_cons_succ, List.getElem?_cons_zero] at c1
 by_cases h0 : l = []
 ·obtain ⟨rfl, rfl⟩ := hz h0
  subst h0
  have hUS : ∀ (w : World) (q : Option Addr), (Builtin.unsafeString_ #[193, 3] 9 #[.pointer q, .int .i64 0]).run Tryz.prog w = .ok (.string .empty) w := fun w q => Lib.run_unsafeString_none w _ _ _ q
  have hSD : ∀ w : World, (Builtin.unsafeSliceData_ #[80] 193 #[.slice none 0 0]).run Tryz.prog w = .ok (.pointer none) w := fun _ => rfl
  clear hC hO hne hz
  go_enter Tryz.func144, Tryz.ntmps144
  go_wp2
  go_region
  all_goals
   go_wp2
   go_ret
   exact ⟨rfl, Below.drew (Below.refl base w)⟩
 ·rcases hO.cases with ⟨_, _, rfl⟩ | ⟨g, cur, rfl, hbg, hg, hle, hm, hs, ht⟩
  ·exact absurd rfl h0
  have hl0 : l.length ≠ 0 := by simpa using h0
  have hSD : ∀ w : World, (Builtin.unsafeSliceData_ #[80] 193 #[.slice (some ⟨g, 0, none⟩) l.length cap]).run Tryz.prog w = .ok (.pointer (some ⟨g, 0, none⟩)) w := fun w => Lib.run_unsafeSliceData_row _ _ _ _ _ _ (by omega)
  have hUS : (Builtin.unsafeString_ #[193, 3] 9 #[.pointer (some ⟨g, 0, none⟩), .int .i64 l.length]).run Tryz.prog w.drew = .ok (.string ⟨l.toArray⟩) (w.drew.freeze ⟨g, 0, none⟩ l.length) := by
   refine Lib.run_unsafeString_row w.drew _ _ _ 5 Tryz.underlying193 (by kernel_rfl) g cur.size (by have hg' : w.drew.heap[g]? = some (.cells cur 5 (0, 0)) := hg; simp [World.shape?, hg']) l h0 (by omega) (by omega) ?_
   intro j x hx
   have hj : j < l.length := (List.getElem?_eq_some_iff.1 hx).1
   have hrow := hO.toBs.row
   obtain ⟨b', off', e, hcell⟩ := hrow h0
   obtain ⟨rfl, rfl⟩ : b' = g ∧ off' = 0 := by simp at e; exact ⟨e.1.symm, e.2.symm⟩
   rw [addr_add]
   have := hcell j hj
   have e2 : l.getD j 0 = x := by simp [hx]
   rw [e2] at this
   exact this
  clear hC hO hne hz hg hle hm hs ht
  go_enter Tryz.func144, Tryz.ntmps144
  go_wp2
  go_region
  all_goals
   go_wp2
   go_ret
   exact ⟨rfl, Lib.below_freeze (Below.drew (Below.refl base w)) (p := ⟨g, 0, none⟩) hbg _⟩
end Go.Proofs.YtmpjeahibfdehaaGreatDoor
end
