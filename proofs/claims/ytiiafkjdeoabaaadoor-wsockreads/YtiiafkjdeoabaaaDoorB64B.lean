/-
  strings.Builder: Write, WriteString, String.
-/
import Derived.Test.YtiiafkjdeoabaaaDoorB64A
set_option linter.unusedVariables false
namespace Go.Proofs.YtiiafkjdeoabaaaDoor
open Go.RowKit

theorem own_ne {w : World} {base b cap : Nat} {a : Option Addr} {l : List UInt8} {vs : List Value} (hO : OwnB w base a cap l) (hC : Cel w b 67 vs) : blk a ≠ some b := by
  intro e
  rcases hO.cases with ⟨rfl, _, _⟩ | ⟨g, cur, rfl, _, hg, _⟩
  · cases e
  · simp [blk] at e
    subst e
    unfold Cel at hC
    rw [hC] at hg
    simp at hg

/-- What a write leaves. -/
theorem bld_put {base b cap a1c : Nat} {a a1 : Option Addr} {l r : List UInt8} {w1 w2 : World} {p : Value} (hb : base ≤ b) (hC : Cel w1 b 67 [p, .slice a1 l.length a1c]) (hn1 : blk a1 ≠ some b) (hO : OwnB w2 base a cap r) (hg : w1.grownBy w2 (blk a1)) (hr : r ≠ []) :
    Bld (w2.setCell ⟨b, 1, none⟩ (.slice a r.length cap)) base b p r := by
  have hC2 := hC.grown hg hn1
  have hne := own_ne hO hC2
  exact ⟨hb, a, cap, hC2.set 1 _, hO.kept (cg_set w2 ⟨b, 1, none⟩ _) (.inr hne), hne, fun h => absurd h hr⟩

set_option maxRecDepth 100000 in
set_option maxHeartbeats 1000000 in
theorem bw_any (base b : Nat) (p : Value) (l : List UInt8) (w : World) (h : Bld w base b p l) (hp : p = .pointer none ∨ p = selfP b) (a2 : Option Addr) (cap2 : Nat) (l2 : List UInt8) (hrow : Row w a2 l2) (hnz : a2 = none → cap2 = 0) (hl2 : l2 ≠ []) (hne2 : blk a2 ≠ some b) (hlen : l.length + l2.length ≤ 100000000) (hbase : base ≤ w.heap.size) :
    Calls Tryd.prog 29 #[.pointer (some ⟨b, 0, none⟩), .slice a2 l2.length cap2] w fun e w' => e = .returned (.tuple #[.int .i64 (l2.length : Int), .nilIface]) ∧ Hid (Bld w' base b (selfP b) (l ++ l2)) ∧ Hid (Below base w w') := by
  have HH := hide h
  have HP := hide hp
  have HR := hide hrow
  have HNZ := hide hnz
  have HL := hide hl2
  have HN2 := hide hne2
  have HLB : Hid (l.length + l2.length ≤ 140737488355328) := (by omega : l.length + l2.length ≤ 140737488355328)
  have HB := hide hbase
  have hll : l2.length ≤ 100000000 := by omega
  clear h hp hrow hnz hl2 hne2 hlen hbase
  go_enter Tryd.func29, Tryd.ntmps29
  go_wp2_with (first
    | (go_at_call 39; refine (check_any base b p l _ HH.out HP.out).mono ?_; rintro e w1 ⟨rfl, hB1, hg1⟩; obtain ⟨hbb, a1, c1, hC1, hO1, hn1, hz1⟩ := hB1.out; have HC1 := hide hC1; have HO1 := hide hO1; have HN1 := hide hn1; have c0 := hC1.cell 1; have f0 := hC1.fr 1; simp only [List.getElem?_cons_succ, List.getElem?_cons_zero] at c0; clear hC1 hO1 hn1 hz1 hB1)
    | (refine wp_app _ rfl _ _ rfl base a1 c1 l rfl HO1.out a2 cap2 l2 l2.length rfl rfl (HR.out.grown hg1.out (.inr HN2.out)) HNZ.out HLB.out (Nat.le_trans HB.out hg1.out.size) ?_; intro a3 c3 r w2 hr hO3 hg3; have HO3 := hide hO3; have HG3 := hide hg3; have f2 : w2.frozen? ⟨b, 1, none⟩ = false := (HC1.out.grown hg3 HN1.out).fr 1; have c2 := (HC1.out.grown hg3 HN1.out).cell 1; simp only [List.getElem?_cons_succ, List.getElem?_cons_zero] at c2; clear hO3 hg3))
  go_ret2
  refine ⟨rfl, ?_, ?_⟩
  · have hr2 : r ≠ [] := by rw [hr.out]; simp [HL.out]
    have := bld_put (p := selfP b) hbb HC1.out HN1.out HO3.out HG3.out hr2
    rw [← hr.out]
    exact this
  · exact (((cg_to_below hg1.out hbb HB.out)).grown HG3.out (Nat.le_trans HB.out hg1.out.size) (fun k hk => (HO1.out.lt k hk).1)).setCell hbb _

set_option maxRecDepth 100000 in
set_option maxHeartbeats 1000000 in
theorem bws_any (base b : Nat) (p : Value) (l : List UInt8) (w : World) (h : Bld w base b p l) (hp : p = .pointer none ∨ p = selfP b) (s : ByteArray) (hs : s.data.toList ≠ []) (hlen : l.length + s.size ≤ 100000000) (hbase : base ≤ w.heap.size) :
    Calls Tryd.prog 30 #[.pointer (some ⟨b, 0, none⟩), .string s] w fun e w' => e = .returned (.tuple #[.int .i64 (s.size : Int), .nilIface]) ∧ Hid (Bld w' base b (selfP b) (l ++ s.data.toList)) ∧ Hid (Below base w w') := by
  have HH := hide h
  have HP := hide hp
  have HL := hide hs
  have HLB : Hid (l.length + s.size ≤ 140737488355328) := (by omega : l.length + s.size ≤ 140737488355328)
  have HB := hide hbase
  have hll : s.size ≤ 100000000 := by omega
  clear h hp hs hlen hbase
  go_enter Tryd.func30, Tryd.ntmps30
  go_wp2_with (first
    | (go_at_call 39; refine (check_any base b p l _ HH.out HP.out).mono ?_; rintro e w1 ⟨rfl, hB1, hg1⟩; obtain ⟨hbb, a1, c1, hC1, hO1, hn1, hz1⟩ := hB1.out; have HC1 := hide hC1; have HO1 := hide hO1; have HN1 := hide hn1; have c0 := hC1.cell 1; have f0 := hC1.fr 1; simp only [List.getElem?_cons_succ, List.getElem?_cons_zero] at c0; clear hC1 hO1 hn1 hz1 hB1)
    | (refine wp_apps _ rfl _ _ rfl base a1 c1 l rfl HO1.out s rfl HLB.out (Nat.le_trans HB.out hg1.out.size) ?_; intro a3 c3 r w2 hr hO3 hg3; have HO3 := hide hO3; have HG3 := hide hg3; have f2 : w2.frozen? ⟨b, 1, none⟩ = false := (HC1.out.grown hg3 HN1.out).fr 1; have c2 := (HC1.out.grown hg3 HN1.out).cell 1; simp only [List.getElem?_cons_succ, List.getElem?_cons_zero] at c2; clear hO3 hg3))
  go_ret2
  refine ⟨rfl, ?_, ?_⟩
  · have hr2 : r ≠ [] := by rw [hr.out]; simp [HL.out]
    have := bld_put (p := selfP b) hbb HC1.out HN1.out HO3.out HG3.out hr2
    rw [← hr.out]
    exact this
  · exact (((cg_to_below hg1.out hbb HB.out)).grown HG3.out (Nat.le_trans HB.out hg1.out.size) (fun k hk => (HO1.out.lt k hk).1)).setCell hbb _

set_option maxRecDepth 100000 in
set_option maxHeartbeats 1000000 in
theorem bstr_any (base b : Nat) (p : Value) (l : List UInt8) (w : World) (h : Bld w base b p l) (hlen : l.length ≤ 100000000) :
    Calls Tryd.prog 31 #[.pointer (some ⟨b, 0, none⟩)] w fun e w' => e = .returned (.string (str l)) ∧ Hid (Below base w w') := by
  obtain ⟨hbb, a, cap, hC, hO, hne, hz⟩ := h
  have c1 := hC.cell 1
  simp only [List.getElem?_cons_succ, List.getElem?_cons_zero] at c1
  by_cases h0 : l = []
  · obtain ⟨rfl, rfl⟩ := hz h0
    subst h0
    have hUS : ∀ (w : World) (q : Option Addr), (Builtin.unsafeString_ #[88, 3] 9 #[.pointer q, .int .i64 0]).run Tryd.prog w = .ok (.string .empty) w := fun w q => Lib.run_unsafeString_none w _ _ _ q
    have hSD : ∀ w : World, (Builtin.unsafeSliceData_ #[22] 88 #[.slice none 0 0]).run Tryd.prog w = .ok (.pointer none) w := fun _ => rfl
    clear hC hO hne hz
    go_enter Tryd.func31, Tryd.ntmps31
    go_wp2
    go_region
    all_goals
      go_wp2
      go_ret
      exact ⟨rfl, Below.drew (Below.refl base w)⟩
  · rcases hO.cases with ⟨_, _, rfl⟩ | ⟨g, cur, rfl, hbg, hg, hle, hm, hs, ht⟩
    · exact absurd rfl h0
    have hl0 : l.length ≠ 0 := by simpa using h0
    have hSD : ∀ w : World, (Builtin.unsafeSliceData_ #[22] 88 #[.slice (some ⟨g, 0, none⟩) l.length cap]).run Tryd.prog w = .ok (.pointer (some ⟨g, 0, none⟩)) w := fun w => Lib.run_unsafeSliceData_row _ _ _ _ _ _ (by omega)
    have hUS : (Builtin.unsafeString_ #[88, 3] 9 #[.pointer (some ⟨g, 0, none⟩), .int .i64 l.length]).run Tryd.prog w.drew = .ok (.string ⟨l.toArray⟩) (w.drew.freeze ⟨g, 0, none⟩ l.length) := by
      refine Lib.run_unsafeString_row w.drew _ _ _ 5 Tryd.underlying88 (by kernel_rfl) g cur.size (by have hg' : w.drew.heap[g]? = some (.cells cur 5 (0, 0)) := hg; simp [World.shape?, hg']) l h0 (by omega) (by omega) ?_
      intro j x hx
      have hj : j < l.length := (List.getElem?_eq_some_iff.1 hx).1
      have hrow := hO.toBs.row
      obtain ⟨b', off', e, hcell⟩ := hrow h0
      obtain ⟨rfl, rfl⟩ : b' = g ∧ off' = 0 := by simp at e; exact ⟨e.1.symm, e.2.symm⟩
      rw [addr_add]
      have := hcell j hj
      have e2 : l.getD j 0 = x := by simp [hx]
      rw [e2] at this
      exact this
    clear hC hO hne hz hg hle hm hs ht
    go_enter Tryd.func31, Tryd.ntmps31
    go_wp2
    go_region
    all_goals
      go_wp2
      go_ret
      exact ⟨rfl, Lib.below_freeze (Below.drew (Below.refl base w)) (p := ⟨g, 0, none⟩) hbg _⟩
#print axioms bstr_any
end Go.Proofs.YtiiafkjdeoabaaaDoor
