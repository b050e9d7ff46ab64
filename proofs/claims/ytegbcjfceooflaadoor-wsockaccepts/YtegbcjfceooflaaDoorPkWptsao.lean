/-
  THE WALKS of strings.Builder's methods at a builder in a block of the call's own.; strings.Builder: Write, WriteString, String.; BASE64: plain mathematics, and the walk of digest's fourLetters.; wsock: which texts are keys: what the program asks (spelt back, it is the same) and what the document asks, as mathematics.; THE WALK of digest's Base64.; wsock: the document's six and Key, whatever they are asked.
-/
import Derived.Test.YtegbcjfceooflaaDoorPkWptsai
import Derived.Test.YtegbcjfceooflaaDoorPkWptsam
import Derived.Lib.Builder
import Derived.Lib.UnsafeStr
import Derived.Test.YtegbcjfceooflaaDoorPkWptsan
section
set_option linter.unusedVariables false
namespace Go.Proofs.YtegbcjfceooflaaDoor
open Go.RowKit

/-- A builder in block b that holds these bytes. -/
def Bld (w : World) (base b : Nat) (p : Value) (l : List UInt8) : Prop :=
  base ≤ b ∧ ∃ a cap, Cel w b 81 [p, .slice a l.length cap] ∧ OwnB w base a cap l ∧ blk a ≠ some b ∧ (l = [] → a = none ∧ cap = 0)
def selfP (b : Nat) : Value := .pointer (some ⟨b, 0, none⟩)

theorem bSize : (Tryd.prog.info? 81).map (·.size) = some 2 := by kernel_rfl
theorem bLies : liesAt Tryd.prog Tryd.prog.depth 81 (2 / Tryd.prog.cellsOf 81) 0 81 1 = true := by kernel_rfl

set_option maxHeartbeats 1000000 in
theorem check_used (b : Nat) (w : World) (h0 : w.cell? ⟨b, 0, none⟩ = some (.pointer (some ⟨b, 0, none⟩))) :
    Calls Tryd.prog 62 #[.pointer (some ⟨b, 0, none⟩)] w fun e w' => e = .returned (.tuple #[]) ∧ w' = w := by
  obtain ⟨j, hj, _⟩ := Option.map_eq_some_iff.1 bSize
  have hnq := fun w => Lib.run_neq_ptr_same (P := Tryd.prog) w ⟨b, 0, none⟩ Tryd.underlying79 hj
  go_enter Tryd.func62, Tryd.ntmps62
  go_wp2
  go_end0
  exact ⟨rfl, rfl⟩

set_option maxRecDepth 100000 in
set_option maxHeartbeats 1000000 in
theorem check_fresh (b : Nat) (w : World) (h0 : w.cell? ⟨b, 0, none⟩ = some (.pointer none)) (hsh : w.shape? b = some (81, 2)) (hfz : w.frozen? ⟨b, 0, none⟩ = false) :
    Calls Tryd.prog 62 #[.pointer (some ⟨b, 0, none⟩)] w fun e w' => e = .returned (.tuple #[]) ∧ w' = w.setCell ⟨b, 0, none⟩ (.pointer (some ⟨b, 0, none⟩)) := by
  obtain ⟨j, hj, hjs⟩ := Option.map_eq_some_iff.1 bSize
  have hnq := fun w => Lib.run_neq_ptr_same (P := Tryd.prog) w ⟨b, 0, none⟩ Tryd.underlying79 hj
  have ht : (convert 79 131 (.pointer (some ⟨b, 0, none⟩))).run Tryd.prog w = .ok (.pointer (some ⟨b, 0, none⟩)) w := Lib.run_to_unsafe w ⟨b, 0, none⟩ Tryd.underlying79 Tryd.underlying131 hj (by rw [hjs]; decide) hsh (Nat.zero_lt_succ 1)
  have hf : (convert 131 79 (.pointer (some ⟨b, 0, none⟩))).run Tryd.prog w = .ok (.pointer (some ⟨b, 0, none⟩)) w := Lib.run_from_unsafe w ⟨b, 0, none⟩ Tryd.underlying131 Tryd.underlying79 hj hsh bLies
  have hne : ∀ (x : Value) (w : World), (callFunc 79 #[x]).run Tryd.prog w = .ok (.value x) w := by
    intro x w
    rw [run_callFunc_extern Tryd.func79 (by kernel_rfl) (by kernel_rfl) (by kernel_rfl) (e := Extern.AbiNoEscape.same) (by kernel_rfl)]
    rw [Lib.run_noEscape]
    rfl
  go_enter Tryd.func62, Tryd.ntmps62
  go_wp2
  go_end0
  exact ⟨rfl, rfl⟩

theorem check_any (base b : Nat) (p : Value) (l : List UInt8) (w : World) (h : Bld w base b p l) (hp : p = .pointer none ∨ p = selfP b) :
    Calls Tryd.prog 62 #[.pointer (some ⟨b, 0, none⟩)] w fun e w' => e = .returned (.tuple #[]) ∧ Hid (Bld w' base b (selfP b) l) ∧ Hid (w.grownBy w' (some b)) := by
  obtain ⟨hb, a, cap, hC, hO, hne, hz⟩ := h
  rcases hp with rfl | rfl
  · refine (check_fresh b w (by rw [hC.cell]; rfl) (by have h := hC; unfold Cel at h; simp [World.shape?, h]) (hC.fr 0)).mono ?_
    rintro e w' ⟨rfl, rfl⟩
    exact ⟨rfl, ⟨hb, a, cap, hC.set 0 _, hO.kept (cg_set w ⟨b, 0, none⟩ _) (.inr hne), hne, hz⟩, cg_set w ⟨b, 0, none⟩ _⟩
  · refine (check_used b w (by rw [hC.cell]; rfl)).mono ?_
    rintro e w' ⟨rfl, rfl⟩
    exact ⟨rfl, ⟨hb, a, cap, hC, hO, hne, hz⟩, ⟨rfl, rfl, rfl, Nat.le_refl _, fun _ _ _ => rfl⟩⟩
#print axioms check_any
end Go.Proofs.YtegbcjfceooflaaDoor
end
section
set_option linter.unusedVariables false
namespace Go.Proofs.YtegbcjfceooflaaDoor
open Go.RowKit

theorem own_ne {w : World} {base b cap : Nat} {a : Option Addr} {l : List UInt8} {vs : List Value} (hO : OwnB w base a cap l) (hC : Cel w b 81 vs) : blk a ≠ some b := by
  intro e
  rcases hO.cases with ⟨rfl, _, _⟩ | ⟨g, cur, rfl, _, hg, _⟩
  · cases e
  · simp [blk] at e
    subst e
    unfold Cel at hC
    rw [hC] at hg
    simp at hg

/-- What a write leaves. -/
theorem bld_put {base b cap a1c : Nat} {a a1 : Option Addr} {l r : List UInt8} {w1 w2 : World} {p : Value} (hb : base ≤ b) (hC : Cel w1 b 81 [p, .slice a1 l.length a1c]) (hn1 : blk a1 ≠ some b) (hO : OwnB w2 base a cap r) (hg : w1.grownBy w2 (blk a1)) (hr : r ≠ []) :
    Bld (w2.setCell ⟨b, 1, none⟩ (.slice a r.length cap)) base b p r := by
  have hC2 := hC.grown hg hn1
  have hne := own_ne hO hC2
  exact ⟨hb, a, cap, hC2.set 1 _, hO.kept (cg_set w2 ⟨b, 1, none⟩ _) (.inr hne), hne, fun h => absurd h hr⟩

set_option maxRecDepth 100000 in
set_option maxHeartbeats 1000000 in
theorem bw_any (base b : Nat) (p : Value) (l : List UInt8) (w : World) (h : Bld w base b p l) (hp : p = .pointer none ∨ p = selfP b) (a2 : Option Addr) (cap2 : Nat) (l2 : List UInt8) (hrow : Row w a2 l2) (hnz : a2 = none → cap2 = 0) (hl2 : l2 ≠ []) (hne2 : blk a2 ≠ some b) (hlen : l.length + l2.length ≤ 100000000) (hbase : base ≤ w.heap.size) :
    Calls Tryd.prog 40 #[.pointer (some ⟨b, 0, none⟩), .slice a2 l2.length cap2] w fun e w' => e = .returned (.tuple #[.int .i64 (l2.length : Int), .nilIface]) ∧ Hid (Bld w' base b (selfP b) (l ++ l2)) ∧ Hid (Below base w w') := by
  have HH := hide h
  have HP := hide hp
  have HR := hide hrow
  have HNZ := hide hnz
  have HL := hide hl2
  have HN2 := hide hne2
  have HLB : Hid (l.length + l2.length ≤ 140737488355328) := (by omega : l.length + l2.length ≤ 140737488355328)
  have HB := hide hbase
  have hll : l2.length ≤ 100000000 := by omega
  clear h hp hrow hnz hl2 hne2 hlen hbase
  go_enter Tryd.func40, Tryd.ntmps40
  go_wp2_with (first
    | (go_at_call 62; refine (check_any base b p l _ HH.out HP.out).mono ?_; rintro e w1 ⟨rfl, hB1, hg1⟩; obtain ⟨hbb, a1, c1, hC1, hO1, hn1, hz1⟩ := hB1.out; have HC1 := hide hC1; have HO1 := hide hO1; have HN1 := hide hn1; have c0 := hC1.cell 1; have f0 := hC1.fr 1; simp only [List.getElem?_cons_succ, List.getElem?_cons_zero] at c0; clear hC1 hO1 hn1 hz1 hB1)
    | (refine wp_app _ rfl _ _ rfl base a1 c1 l rfl HO1.out a2 cap2 l2 l2.length rfl rfl (HR.out.grown hg1.out (.inr HN2.out)) HNZ.out HLB.out (Nat.le_trans HB.out hg1.out.size) ?_; intro a3 c3 r w2 hr hO3 hg3; have HO3 := hide hO3; have HG3 := hide hg3; have f2 : w2.frozen? ⟨b, 1, none⟩ = false := (HC1.out.grown hg3 HN1.out).fr 1; have c2 := (HC1.out.grown hg3 HN1.out).cell 1; simp only [List.getElem?_cons_succ, List.getElem?_cons_zero] at c2; clear hO3 hg3))
  go_ret2
  refine ⟨rfl, ?_, ?_⟩
  · have hr2 : r ≠ [] := by rw [hr.out]; simp [HL.out]
    have := bld_put (p := selfP b) hbb HC1.out HN1.out HO3.out HG3.out hr2
    rw [← hr.out]
    exact this
  · exact (((cg_to_below hg1.out hbb HB.out)).grown HG3.out (Nat.le_trans HB.out hg1.out.size) (fun k hk => (HO1.out.lt k hk).1)).setCell hbb _

set_option maxRecDepth 100000 in
set_option maxHeartbeats 1000000 in
theorem bws_any (base b : Nat) (p : Value) (l : List UInt8) (w : World) (h : Bld w base b p l) (hp : p = .pointer none ∨ p = selfP b) (s : ByteArray) (hs : s.data.toList ≠ []) (hlen : l.length + s.size ≤ 100000000) (hbase : base ≤ w.heap.size) :
    Calls Tryd.prog 41 #[.pointer (some ⟨b, 0, none⟩), .string s] w fun e w' => e = .returned (.tuple #[.int .i64 (s.size : Int), .nilIface]) ∧ Hid (Bld w' base b (selfP b) (l ++ s.data.toList)) ∧ Hid (Below base w w') := by
  have HH := hide h
  have HP := hide hp
  have HL := hide hs
  have HLB : Hid (l.length + s.size ≤ 140737488355328) := (by omega : l.length + s.size ≤ 140737488355328)
  have HB := hide hbase
  have hll : s.size ≤ 100000000 := by omega
  clear h hp hs hlen hbase
  go_enter Tryd.func41, Tryd.ntmps41
  go_wp2_with (first
    | (go_at_call 62; refine (check_any base b p l _ HH.out HP.out).mono ?_; rintro e w1 ⟨rfl, hB1, hg1⟩; obtain ⟨hbb, a1, c1, hC1, hO1, hn1, hz1⟩ := hB1.out; have HC1 := hide hC1; have HO1 := hide hO1; have HN1 := hide hn1; have c0 := hC1.cell 1; have f0 := hC1.fr 1; simp only [List.getElem?_cons_succ, List.getElem?_cons_zero] at c0; clear hC1 hO1 hn1 hz1 hB1)
    | (refine wp_apps _ rfl _ _ rfl base a1 c1 l rfl HO1.out s rfl HLB.out (Nat.le_trans HB.out hg1.out.size) ?_; intro a3 c3 r w2 hr hO3 hg3; have HO3 := hide hO3; have HG3 := hide hg3; have f2 : w2.frozen? ⟨b, 1, none⟩ = false := (HC1.out.grown hg3 HN1.out).fr 1; have c2 := (HC1.out.grown hg3 HN1.out).cell 1; simp only [List.getElem?_cons_succ, List.getElem?_cons_zero] at c2; clear hO3 hg3))
  go_ret2
  refine ⟨rfl, ?_, ?_⟩
  · have hr2 : r ≠ [] := by rw [hr.out]; simp [HL.out]
    have := bld_put (p := selfP b) hbb HC1.out HN1.out HO3.out HG3.out hr2
    rw [← hr.out]
    exact this
  · exact (((cg_to_below hg1.out hbb HB.out)).grown HG3.out (Nat.le_trans HB.out hg1.out.size) (fun k hk => (HO1.out.lt k hk).1)).setCell hbb _

set_option maxRecDepth 100000 in
set_option maxHeartbeats 1000000 in
theorem bstr_any (base b : Nat) (p : Value) (l : List UInt8) (w : World) (h : Bld w base b p l) (hlen : l.length ≤ 100000000) :
    Calls Tryd.prog 42 #[.pointer (some ⟨b, 0, none⟩)] w fun e w' => e = .returned (.string (str l)) ∧ Hid (Below base w w') := by
  obtain ⟨hbb, a, cap, hC, hO, hne, hz⟩ := h
  have c1 := hC.cell 1
  simp only [List.getElem?_cons_succ, List.getElem?_cons_zero] at c1
  by_cases h0 : l = []
  · obtain ⟨rfl, rfl⟩ := hz h0
    subst h0
    have hUS : ∀ (w : World) (q : Option Addr), (Builtin.unsafeString_ #[114, 3] 9 #[.pointer q, .int .i64 0]).run Tryd.prog w = .ok (.string .empty) w := fun w q => Lib.run_unsafeString_none w _ _ _ q
    have hSD : ∀ w : World, (Builtin.unsafeSliceData_ #[23] 114 #[.slice none 0 0]).run Tryd.prog w = .ok (.pointer none) w := fun _ => rfl
    clear hC hO hne hz
    go_enter Tryd.func42, Tryd.ntmps42
    go_wp2
    go_region
    all_goals
      go_wp2
      go_ret
      exact ⟨rfl, Below.drew (Below.refl base w)⟩
  · rcases hO.cases with ⟨_, _, rfl⟩ | ⟨g, cur, rfl, hbg, hg, hle, hm, hs, ht⟩
    · exact absurd rfl h0
    have hl0 : l.length ≠ 0 := by simpa using h0
    have hSD : ∀ w : World, (Builtin.unsafeSliceData_ #[23] 114 #[.slice (some ⟨g, 0, none⟩) l.length cap]).run Tryd.prog w = .ok (.pointer (some ⟨g, 0, none⟩)) w := fun w => Lib.run_unsafeSliceData_row _ _ _ _ _ _ (by omega)
    have hUS : (Builtin.unsafeString_ #[114, 3] 9 #[.pointer (some ⟨g, 0, none⟩), .int .i64 l.length]).run Tryd.prog w.drew = .ok (.string ⟨l.toArray⟩) (w.drew.freeze ⟨g, 0, none⟩ l.length) := by
      refine Lib.run_unsafeString_row w.drew _ _ _ 5 Tryd.underlying114 (by kernel_rfl) g cur.size (by have hg' : w.drew.heap[g]? = some (.cells cur 5 (0, 0)) := hg; simp [World.shape?, hg']) l h0 (by omega) (by omega) ?_
      intro j x hx
      have hj : j < l.length := (List.getElem?_eq_some_iff.1 hx).1
      have hrow := hO.toBs.row
      obtain ⟨b', off', e, hcell⟩ := hrow h0
      obtain ⟨rfl, rfl⟩ : b' = g ∧ off' = 0 := by simp at e; exact ⟨e.1.symm, e.2.symm⟩
      rw [addr_add]
      have := hcell j hj
      have e2 : l.getD j 0 = x := by simp [hx]
      rw [e2] at this
      exact this
    clear hC hO hne hz hg hle hm hs ht
    go_enter Tryd.func42, Tryd.ntmps42
    go_wp2
    go_region
    all_goals
      go_wp2
      go_ret
      exact ⟨rfl, Lib.below_freeze (Below.drew (Below.refl base w)) (p := ⟨g, 0, none⟩) hbg _⟩
#print axioms bstr_any
end Go.Proofs.YtegbcjfceooflaaDoor
end
section
set_option linter.unusedVariables false
namespace Go.Proofs.YtegbcjfceooflaaDoor
open Go.RowKit

def lets6 : List UInt8 := [65, 66, 67, 68, 69, 70, 71, 72, 73, 74, 75, 76, 77, 78, 79, 80, 81, 82, 83, 84, 85, 86, 87, 88, 89, 90, 97, 98, 99, 100, 101, 102, 103, 104, 105, 106, 107, 108, 109, 110, 111, 112, 113, 114, 115, 116, 117, 118, 119, 120, 121, 122, 48, 49, 50, 51, 52, 53, 54, 55, 56, 57, 43, 47]
def l6 (n : Nat) : UInt8 := lets6.getD n 0
def fl (x y z : UInt8) : List UInt8 := [l6 (x.toNat / 4), l6 (x.toNat % 4 * 16 + y.toNat / 16), l6 (y.toNat % 16 * 4 + z.toNat / 64), l6 (z.toNat % 64)]
/-- Bytes in base64, filled up. -/
def b64 : List UInt8 → List UInt8
  | [] => []
  | [x] => [l6 (x.toNat / 4), l6 (x.toNat % 4 * 16), 61, 61]
  | [x, y] => [l6 (x.toNat / 4), l6 (x.toNat % 4 * 16 + y.toNat / 16), l6 (y.toNat % 16 * 4), 61]
  | x :: y :: z :: r => fl x y z ++ b64 r
theorem b64_zero : b64 [0] = [65, 65, 61, 61] := by decide
theorem b64_length : ∀ l : List UInt8, (b64 l).length = 4 * ((l.length + 2) / 3)
  | [] => rfl
  | [x] => by simp [b64]
  | [x, y] => by simp [b64]
  | x :: y :: z :: r => by
    have := b64_length r
    simp only [b64, fl, List.length_append, List.length_cons, List.length_nil, this]
    omega

theorem lets6_at : ∀ n : Fin 64, (lets6.toArray[n.val]?) = some (l6 n.val) := by decide +kernel
theorem run_lets6 (w : World) (X : Nat) (h : X < 64) : (Instr.index 9 (.string { data := #[65, 66, 67, 68, 69, 70, 71, 72, 73, 74, 75, 76, 77, 78, 79, 80, 81, 82, 83, 84, 85, 86, 87, 88, 89, 90, 97, 98, 99, 100, 101, 102, 103, 104, 105, 106, 107, 108, 109, 110, 111, 112, 113, 114, 115, 116, 117, 118, 119, 120, 121, 122, 48, 49, 50, 51, 52, 53, 54, 55, 56, 57, 43, 47] }) (.int .u32 (X : Int))).run Tryd.prog w = .ok (.int .u8 ((l6 X).toNat : Int)) w := by
  have h0 : (Instr.index 9 (.string (str lets6)) (.int .u32 (X : Int))).run Tryd.prog w = .ok (.int .u8 ((l6 X).toNat : Int)) w := by
    rw [run_index_string w 9 (str lets6) .u32 (X : Int) Tryd.underlying9]
    have hs : (str lets6).size = 64 := rfl
    rw [dif_pos (by rw [hs]; omega)]
    have e := lets6_at ⟨X, h⟩
    have e2 : ((str lets6)[(X : Int).toNat]'(by rw [hs]; omega)) = l6 X := by
      have : (lets6.toArray[X]'(by show X < 64; exact h)) = l6 X := by
        have e3 := Array.getElem?_eq_getElem (xs := lets6.toArray) (i := X) (by show X < 64; exact h)
        rw [e3] at e
        exact Option.some.inj e
      exact this
    rw [e2]
  exact h0

theorem three_or (x y z : UInt8) : bits .or .u32 (bits .or .u32 ((x.toNat : Int) % 4294967296 * 65536 % 4294967296) ((y.toNat : Int) % 4294967296 * 256 % 4294967296)) ((z.toNat : Int) % 4294967296) = ((x.toNat * 65536 + y.toNat * 256 + z.toNat : Nat) : Int) := by
  have h := b4_or' 0 x y z
  have hx := x.toNat_lt; have hy := y.toNat_lt; have hz := z.toNat_lt
  have e1 := u32_or_nat (x.toNat * 65536) (y.toNat * 256) (by omega) (by omega)
  rw [nat_join 16 _ _ (by omega) (by omega)] at e1
  have e2 := u32_or_nat (x.toNat * 65536 + y.toNat * 256) z.toNat (by omega) (by omega)
  rw [nat_join 8 _ _ (by omega) (by omega)] at e2
  rw [← e2, ← e1]
  congr 1
  · congr 1 <;> omega
  · omega
theorem and63 (n : Nat) (h : n < 4294967296) : bits .and .u32 (n : Int) 63 = ((n % 64 : Nat) : Int) := by
  have := u32_and_nat n 63 h (by decide)
  rw [nat_mask6] at this
  exact this

set_option maxRecDepth 1000000 in
set_option maxHeartbeats 2000000 in
theorem four_any (x y z : UInt8) (w : World) :
    Calls Tryd.prog 39 #[.int .u8 (x.toNat : Int), .int .u8 (y.toNat : Int), .int .u8 (z.toNat : Int)] w
      fun e w' => e = .returned (.agg (bs (fl x y z)).toArray) ∧ Below w.heap.size w w' := by
  have hx := x.toNat_lt; have hy := y.toNat_lt; have hz := z.toNat_lt
  have eN := three_or x y z
  obtain ⟨N, hN⟩ : ∃ N, x.toNat * 65536 + y.toNat * 256 + z.toNat = N := ⟨_, rfl⟩
  rw [hN] at eN
  obtain ⟨I0, hI0⟩ : ∃ I, x.toNat / 4 = I := ⟨_, rfl⟩
  obtain ⟨I1, hI1⟩ : ∃ I, x.toNat % 4 * 16 + y.toNat / 16 = I := ⟨_, rfl⟩
  obtain ⟨I2, hI2⟩ : ∃ I, y.toNat % 16 * 4 + z.toNat / 64 = I := ⟨_, rfl⟩
  obtain ⟨I3, hI3⟩ : ∃ I, z.toNat % 64 = I := ⟨_, rfl⟩
  have q0 : (N : Int) / 262144 = (I0 : Int) := by omega
  have q1 : bits .and .u32 ((N : Int) / 4096) 63 = (I1 : Int) := by
    have := and63 (N / 4096) (by omega)
    have e : ((N / 4096 : Nat) : Int) = (N : Int) / 4096 := by omega
    rw [e] at this
    rw [this]; omega
  have q2 : bits .and .u32 ((N : Int) / 64) 63 = (I2 : Int) := by
    have := and63 (N / 64) (by omega)
    have e : ((N / 64 : Nat) : Int) = (N : Int) / 64 := by omega
    rw [e] at this
    rw [this]; omega
  have q3 : bits .and .u32 (N : Int) 63 = (I3 : Int) := by
    rw [and63 N (by omega)]; omega
  have r0 := fun w => run_lets6 w I0 (by omega)
  have r1 := fun w => run_lets6 w I1 (by omega)
  have r2 := fun w => run_lets6 w I2 (by omega)
  have r3 := fun w => run_lets6 w I3 (by omega)
  have HF : Hid (fl x y z = [l6 I0, l6 I1, l6 I2, l6 I3]) := by show _ = _; rw [← hI0, ← hI1, ← hI2, ← hI3]; rfl
  clear hI0 hI1 hI2 hI3 hN hx hy hz
  rw [HF.out]
  generalize l6 I0 = d0 at *
  generalize l6 I1 = d1 at *
  generalize l6 I2 = d2 at *
  generalize l6 I3 = d3 at *
  go_enter Tryd.func39, Tryd.ntmps39
  go_wp2
  refine rs_tail 15 follows (by kernel_rfl) ?_
  simp only [List.take_succ_cons, List.take_zero, List.drop_succ_cons, List.drop_zero]
  iterate 15 still_step
  refine wpStill_nil ?_
  go_wp2_with (refine wpL_store rfl 82 _ _ rfl _ rfl (bs [d0, d1, d2, d3]) rfl 82 (bs [0, 0, 0, 0]) (Cel.newAt' w _ _ _ _ rfl rfl).drew rfl (by kernel_rfl) (bs_one' _) ?_; intro w9 c9 g9)
  exact bodyPost_ret (results_cel rfl _ _ _ _ _ _ _ rfl c9 Tryd.underlying82 (by kernel_rfl)) rfl ⟨rfl, cg_to_below (cg_trans (cg_trans (cg_alloc w _ _) (cg_drew _ _)) g9) (Nat.le_refl _) (Nat.le_refl _)⟩
#print axioms four_any
end Go.Proofs.YtegbcjfceooflaaDoor
end
section
set_option linter.unusedVariables false
namespace Go.Proofs.YtegbcjfceooflaaDoor
open Go.RowKit

def rp (x : UInt8) : UInt8 := if x = 43 then 45 else if x = 47 then 95 else x
def ur (x : UInt8) : UInt8 := if x = 45 then 43 else if x = 95 then 47 else x
/-- A letter's number in base64. -/
def n6 (x : UInt8) : Option Nat := if x = 45 ∨ x = 95 then none else numOf (rp x)

theorem l6_ur : ∀ n : Fin 64, l6 n.val = ur (lt n.val) := by decide +kernel
theorem l6_lt (n : Nat) (h : n < 64) : l6 n = ur (lt n) := l6_ur ⟨n, h⟩
theorem ur_rp_all : ∀ c : Fin 256, (ur (rp (UInt8.ofNat c.val)) == UInt8.ofNat c.val) = !(UInt8.ofNat c.val == 45 || UInt8.ofNat c.val == 95) := by decide +kernel
theorem ur_rp (x : UInt8) : ur (rp x) = x ↔ ¬ (x = 45 ∨ x = 95) := by
  have h := ur_rp_all ⟨x.toNat, x.toNat_lt⟩
  simp only [UInt8.ofNat_toNat] at h
  constructor
  · intro e hx
    rw [e, beq_self_eq_true] at h
    rcases hx with rfl | rfl <;> revert h <;> decide
  · intro hx
    have : (x == 45 || x == 95) = false := by simpa using hx
    rw [this] at h
    simpa using h

theorem b64_sp : ∀ l : List UInt8, b64 l = (spR l 0 0).map ur ++ List.replicate ((3 - l.length % 3) % 3) 61
  | [] => rfl
  | [x] => by
    have hx := x.toNat_lt
    rw [sp1]
    simp only [b64, List.map_cons, List.map_nil, List.length_cons, List.length_nil]
    rw [l6_lt _ (by omega), l6_lt _ (by omega)]
    rfl
  | [x, y] => by
    have hx := x.toNat_lt
    have hy := y.toNat_lt
    rw [sp2]
    simp only [b64, List.map_cons, List.map_nil, List.length_cons, List.length_nil]
    rw [l6_lt _ (by omega), l6_lt _ (by omega), l6_lt _ (by omega)]
    rfl
  | x :: y :: z :: r => by
    have hx := x.toNat_lt
    have hy := y.toNat_lt
    have hz := z.toNat_lt
    have ih := b64_sp r
    rw [sp3]
    simp only [b64, fl, List.map_cons]
    rw [l6_lt _ (by omega), l6_lt _ (by omega), l6_lt _ (by omega), l6_lt _ (by omega), ih]
    have hm : (x :: y :: z :: r).length % 3 = r.length % 3 := by simp only [List.length_cons]; omega
    rw [hm]
    rfl

/-- The last letter's number leaves nothing over. -/
def lastOk (l : List UInt8) : Prop := ∃ m, (l.getLast?.bind numOf) = some m ∧ m % 16 = 0
theorem un_iff : ∀ l : List UInt8, l.length % 4 = 2 → ((∃ b, unR l 0 0 = some b) ↔ (∀ x ∈ l, ∃ n, numOf x = some n) ∧ lastOk l)
  | [], h => by simp at h
  | [x], h => by simp at h
  | [x, y], h => by
    constructor
    · rintro ⟨b, hb⟩
      have ha := unR_all _ _ _ _ hb
      obtain ⟨m, hm⟩ := ha x (by simp)
      obtain ⟨n, hn⟩ := ha y (by simp)
      rw [un2 x y m n hm hn] at hb
      refine ⟨ha, n, by simpa using hn, ?_⟩
      by_cases h16 : n % 16 = 0
      · exact h16
      · rw [if_neg h16] at hb; cases hb
    · rintro ⟨ha, n, hn, h16⟩
      obtain ⟨m, hm⟩ := ha x (by simp)
      have hn' : numOf y = some n := by simpa using hn
      rw [un2 x y m n hm hn', if_pos h16]
      exact ⟨_, rfl⟩
  | [x, y, z], h => by simp at h
  | x :: y :: z :: t :: l, h => by
    have hl : l.length % 4 = 2 := by simp only [List.length_cons] at h; omega
    have ih := un_iff l hl
    have hne : l ≠ [] := by rintro rfl; simp at hl
    have hlast : lastOk (x :: y :: z :: t :: l) ↔ lastOk l := by
      obtain ⟨u, l', rfl⟩ := List.exists_cons_of_ne_nil hne
      unfold lastOk
      simp only [List.getLast?_cons_cons]
    rw [hlast]
    constructor
    · rintro ⟨b, hb⟩
      have ha := unR_all _ _ _ _ hb
      obtain ⟨m, hm⟩ := ha x (by simp)
      obtain ⟨n, hn⟩ := ha y (by simp)
      obtain ⟨o, ho⟩ := ha z (by simp)
      obtain ⟨p, hp⟩ := ha t (by simp)
      rw [un4 x y z t l m n o p hm hn ho hp] at hb
      cases hu : unR l 0 0 with
      | none => rw [hu] at hb; cases hb
      | some r => exact ⟨ha, (ih.1 ⟨r, hu⟩).2⟩
    · rintro ⟨ha, hk⟩
      obtain ⟨m, hm⟩ := ha x (by simp)
      obtain ⟨n, hn⟩ := ha y (by simp)
      obtain ⟨o, ho⟩ := ha z (by simp)
      obtain ⟨p, hp⟩ := ha t (by simp)
      obtain ⟨r, hr⟩ := ih.2 ⟨fun u hu => ha u (by simp [hu]), hk⟩
      rw [un4 x y z t l m n o p hm hn ho hp, hr]
      exact ⟨_, rfl⟩

/-- The document's key. -/
def kyR (s : List UInt8) : Prop := s.drop 22 = [61, 61] ∧ (∀ x ∈ s.take 22, ∃ n, n6 x = some n) ∧ ∃ m, ((s.take 22).getLast?.bind n6) = some m ∧ m % 16 = 0
/-- The program's. -/
def kyP (s : List UInt8) : Prop := ∃ b, unR ((s.take 22).map rp) 0 0 = some b ∧ b.length = 16 ∧ b64 b = s

theorem n6_of (x : UInt8) (n : Nat) : n6 x = some n ↔ ¬ (x = 45 ∨ x = 95) ∧ numOf (rp x) = some n := by
  unfold n6
  split <;> simp [*]

theorem ky_eq (s : List UInt8) (hl : s.length = 24) : kyP s ↔ kyR s := by
  have h22 : (s.take 22).length = 22 := by rw [List.length_take]; omega
  have hm22 : ((s.take 22).map rp).length = 22 := by rw [List.length_map, h22]
  have hun := un_iff ((s.take 22).map rp) (by rw [hm22])
  have hlast : ∀ k : List UInt8, (k.map rp).getLast? = k.getLast?.map rp := fun k => by rw [List.getLast?_map]
  constructor
  · rintro ⟨b, hb, hbl, he⟩
    have hsp := sp_un _ _ hb
    rw [b64_sp, hsp, hbl, List.map_map] at he
    have ht : (s.take 22).map (ur ∘ rp) = s.take 22 := by
      have := congrArg (List.take 22) he
      rw [List.take_left' (by rw [List.length_map, h22])] at this
      exact this
    have hd : s.drop 22 = [61, 61] := by
      have := congrArg (List.drop 22) he
      rw [List.drop_left' (by rw [List.length_map, h22])] at this
      exact this.symm
    have hno : ∀ x ∈ s.take 22, ¬ (x = 45 ∨ x = 95) := by
      intro x hx
      refine (ur_rp x).1 ?_
      have : (s.take 22).map (ur ∘ rp) = (s.take 22).map id := by rw [List.map_id]; exact ht
      exact List.map_inj_left.1 this x hx
    obtain ⟨ha, m, hm, h16⟩ := hun.1 ⟨b, hb⟩
    refine ⟨hd, fun x hx => ?_, m, ?_, h16⟩
    · obtain ⟨n, hn⟩ := ha (rp x) (List.mem_map_of_mem hx)
      exact ⟨n, (n6_of x n).2 ⟨hno x hx, hn⟩⟩
    · rw [hlast] at hm
      cases hg : (s.take 22).getLast? with
      | none => rw [hg] at hm; cases hm
      | some x =>
        rw [hg] at hm
        exact (n6_of x m).2 ⟨hno x (List.mem_of_getLast? hg), hm⟩
  · rintro ⟨hd, ha, m, hm, h16⟩
    obtain ⟨b, hb⟩ := hun.2 ⟨fun x hx => by
      obtain ⟨y, hy, rfl⟩ := List.mem_map.1 hx
      obtain ⟨n, hn⟩ := ha y hy
      exact ⟨n, ((n6_of y n).1 hn).2⟩, m, by
      rw [hlast]
      cases hg : (s.take 22).getLast? with
      | none => rw [hg] at hm; cases hm
      | some x =>
        rw [hg] at hm
        exact ((n6_of x m).1 hm).2, h16⟩
    have hbl : b.length = 16 := by
      have := un_length _ _ hb
      rw [hm22] at this
      omega
    refine ⟨b, hb, hbl, ?_⟩
    rw [b64_sp, sp_un _ _ hb, hbl, List.map_map]
    have ht : (s.take 22).map (ur ∘ rp) = s.take 22 := by
      have : (s.take 22).map (ur ∘ rp) = (s.take 22).map id := List.map_inj_left.2 fun x hx => by
        obtain ⟨n, hn⟩ := ha x hx
        exact (ur_rp x).2 ((n6_of x n).1 hn).1
      rw [this, List.map_id]
    rw [ht]
    have : List.replicate ((3 - 16 % 3) % 3) (61 : UInt8) = s.drop 22 := by rw [hd]; rfl
    rw [this, List.take_append_drop]
#print axioms ky_eq
end Go.Proofs.YtegbcjfceooflaaDoor
end
section
set_option linter.unusedVariables false
namespace Go.Proofs.YtegbcjfceooflaaDoor
open Go.RowKit

theorem four_lit (x y z d0 d1 d2 d3 : UInt8) (h : fl x y z = [d0, d1, d2, d3]) (w : World) :
    Calls Tryd.prog 39 #[.int .u8 (x.toNat : Int), .int .u8 (y.toNat : Int), .int .u8 (z.toNat : Int)] w
      fun e w' => e = .returned (.agg #[.int .u8 (d0.toNat : Int), .int .u8 (d1.toNat : Int), .int .u8 (d2.toNat : Int), .int .u8 (d3.toNat : Int)]) ∧ Below w.heap.size w w' := by
  have := four_any x y z w
  rw [h] at this
  exact this
theorem keep3 {w w' : World} (hb : Below w.heap.size w w') {p0 p1 p2 : Addr} {v0 v1 v2 : Value} (h : w.cell? p0 = some v0 ∧ w.cell? p1 = some v1 ∧ w.cell? p2 = some v2) : w'.cell? p0 = some v0 ∧ w'.cell? p1 = some v1 ∧ w'.cell? p2 = some v2 :=
  ⟨by rw [hb.cell (World.block_lt_of_cell? _ _ h.1)]; exact h.1, by rw [hb.cell (World.block_lt_of_cell? _ _ h.2.1)]; exact h.2.1, by rw [hb.cell (World.block_lt_of_cell? _ _ h.2.2)]; exact h.2.2⟩

theorem keep2 {w w' : World} (hb : Below w.heap.size w w') {p0 p1 : Addr} {v0 v1 : Value} (h : w.cell? p0 = some v0 ∧ w.cell? p1 = some v1) : w'.cell? p0 = some v0 ∧ w'.cell? p1 = some v1 :=
  ⟨by rw [hb.cell (World.block_lt_of_cell? _ _ h.1)]; exact h.1, by rw [hb.cell (World.block_lt_of_cell? _ _ h.2)]; exact h.2⟩
theorem Bld.below {w w' : World} {base b : Nat} {p : Value} {l : List UInt8} (h : Bld w base b p l) (hb : Below w.heap.size w w') : Bld w' base b p l := by
  obtain ⟨h1, a, cap, hC, hO, hn, hz⟩ := h
  exact ⟨h1, a, cap, hC.below hb hC.lt, hO.below hb (Nat.le_refl _), hn, hz⟩
theorem undrew {w w' : World} (h : Below w.drew.heap.size w.drew w') : Below w.heap.size w w' := ⟨h.os, h.tape, h.output, h.size, h.block⟩
theorem Bld.lt {w : World} {base b : Nat} {p : Value} {l : List UInt8} (h : Bld w base b p l) : b < w.heap.size := by
  obtain ⟨_, _, _, hC, _⟩ := h
  exact hC.lt

set_option maxRecDepth 1000000 in
set_option maxHeartbeats 4000000 in
theorem base64_any (a : Option Addr) (cap : Nat) (l : List UInt8) (w : World) (hB : Bs w a cap l) (hl : l.length ≤ 1000000) :
    Calls Tryd.prog 18 #[.slice a l.length cap] w fun e w' => e = .returned (.string (str (b64 l))) ∧ Below w.heap.size w w' := by
  have HB : Hid (∀ wx, Below w.heap.size w wx → Bs wx a cap l) := fun wx h => hB.below h (Nat.le_refl _)
  have HLT : Hid (l ≠ [] → ∀ k, blk a = some k → k < w.heap.size) := fun h => hB.row.lt h
  clear hB
  go_enter Tryd.func18, Tryd.ntmps18
  go_wp2
  go_loopw [0] (fun v wr => ∃ (ax : Option Addr) (cx : Nat) (r acc : List UInt8) (p : Value), v = .slice ax r.length cx ∧ r.length ≤ l.length ∧ Hid (∀ wx, Below w.heap.size w wx → Bs wx ax cx r) ∧ Hid (blk ax = blk a) ∧ Hid (acc ++ b64 r = b64 l) ∧ Hid (Bld wr w.heap.size w.heap.size p acc) ∧ Hid (p = .pointer none ∨ p = selfP w.heap.size) ∧ Hid (Below w.heap.size w wr)) (fun v _ => slen v)
  case atStart => exact ⟨a, cap, l, [], .pointer none, rfl, Nat.le_refl _, HB, rfl, rfl, ⟨Nat.le_refl _, none, 0, Cel.newAt' w _ _ _ _ rfl rfl, OwnB.nil _ _, (by intro h; cases h), fun _ => ⟨rfl, rfl⟩⟩, .inl rfl, (Below.refl _ _).alloc (Nat.le_refl _) _⟩
  case round =>
    obtain ⟨ax, cx, r, acc, p, rfl, hrl, hB, hbk, hac, hD, hp, hb⟩ := hrel
    have hal : acc.length + (b64 r).length = (b64 l).length := by rw [← hac.out, List.length_append]
    rw [b64_length, b64_length] at hal
    by_cases h3 : 2 < r.length
    · obtain ⟨x, y, z, r3, hr⟩ : ∃ x y z r3, r = x :: y :: z :: r3 := by
        match r, h3 with
        | x :: y :: z :: r3, _ => exact ⟨x, y, z, r3, rfl⟩
      obtain ⟨d0, d1, d2, d3, hd⟩ : ∃ d0 d1 d2 d3, fl x y z = [d0, d1, d2, d3] := ⟨_, _, _, _, rfl⟩
      have hBr := hB.out wr hb.out
      obtain ⟨b, off, rfl, hcell⟩ := hBr.row (by intro e; rw [e] at h3; simp at h3)
      have c0 := hcell 0 (by omega)
      have c1 := hcell 1 (by omega)
      have c2 := hcell 2 (by omega)
      rw [hr] at c0 c1 c2
      simp only [List.getD_cons_zero, List.getD_cons_succ, Nat.add_zero] at c0 c1 c2
      have hrow : r ≠ [] → ∃ b' off', some (⟨b, off, none⟩ : Addr) = some ⟨b', off', none⟩ := fun _ => ⟨b, off, rfl⟩
      obtain ⟨xt, ht, htB, htb⟩ := cut_tail (some ⟨b, off, none⟩) cx 3 r hBr.le (by omega) hrow
      have ht' : ∀ w, (Instr.slice 23 (.slice (some ⟨b, off, none⟩) r.length cx) (some (.int .i64 3)) none none).run Tryd.prog w = .ok (.slice xt (r.length - 3) (cx - 3)) w := ht
      have hbl : b < w.heap.size := HLT.out (by intro e; rw [e, List.length_nil] at hrl; omega) b (by rw [← hbk.out]; rfl)
      have hsz := hb.out.size
      have i0 : (0 : Int) < (r.length : Int) := by omega
      have i00 : 0 < r.length := by omega
      have i0' : r ≠ [] := by intro e; rw [e] at h3; simp at h3
      have i1 : (1 : Int) < (r.length : Int) := by omega
      have i2 : (2 : Int) < (r.length : Int) := by omega
      have n0 : wr.heap.size ≠ b := by omega
      have HFD := hide hd
      have HXT : Hid (∀ wx, Below w.heap.size w wx → Bs wx xt (cx - 3) (r.drop 3)) := fun wx h => htB wx (hB.out wx h)
      have HTB := hide (htb.trans hbk.out)
      have HAC : Hid ((acc ++ [d0, d1, d2, d3]) ++ b64 (r.drop 3) = b64 l) := by
        show _ = _
        rw [← hac.out, hr, List.append_assoc]
        congr 1
        show [d0, d1, d2, d3] ++ b64 r3 = fl x y z ++ b64 r3
        rw [hd]
      have HAL : Hid (acc.length + 4 ≤ 100000000) := (by omega : acc.length + 4 ≤ 100000000)
      have HBN := hide hbl
      have hcx : 3 ≤ cx := by have := hBr.le; omega
      have HM := hide hBr.most
      clear hr hBr hcell hrow ht htB htb hac hB hbk hal hd
      go_wp2
      go_region_held3 (fun w' => w'.cell? ⟨b, off, none⟩ = some (.int .u8 (x.toNat : Int)) ∧ w'.cell? ⟨b, off + 1, none⟩ = some (.int .u8 (y.toNat : Int)) ∧ w'.cell? ⟨b, off + 2, none⟩ = some (.int .u8 (z.toNat : Int))) (first | exact keep3 hb4 ‹_› | go_keep) ((go_at_call 39; refine (four_lit x y z d0 d1 d2 d3 HFD.out _).mono ?_; rintro e w4 ⟨rfl, hb4⟩; have k4 := keep3 hb4 ‹_ ∧ _ ∧ _›; have n4 : w4.heap.size ≠ b := (by have := hb4.size; simp at this; omega); have hc4 := fun (b o : Nat) (h : b < _) => hb4.cell (p := ⟨b, o, none⟩) h; have hf4 := fun (b o : Nat) (h : b < _) => hb4.frozen (p := ⟨b, o, none⟩) h))
      · have hbel : Hid (Below wr.heap.size wr (w4.alloc (.cells #[.int .u8 (d0.toNat : Int), .int .u8 (d1.toNat : Int), .int .u8 (d2.toNat : Int), .int .u8 (d3.toNat : Int)] 82))) := (undrew hb4).alloc hb4.size _
        have hlt := hD.out.lt
        have h4s : wr.heap.size ≤ w4.heap.size := hb4.size
        go_wp2_with fail
        refine (bw_any w.heap.size w.heap.size p acc _ (hD.out.below hbel.out) hp.out _ 4 [d0, d1, d2, d3] (Cel.new' w4 _ (bs [d0, d1, d2, d3]) _ rfl).row (by intro h; cases h) (by simp) (by intro h; have : w4.heap.size = w.heap.size := Option.some.inj h; omega) HAL.out (Nat.le_trans hb.out.size hbel.out.size)).mono ?_
        rintro e w6 ⟨rfl, hB6, hb6⟩
        have HB6 := hide ((hb.out.trans (hbel.out.mono hb.out.size)).trans hb6.out)
        clear hb6 hb4 k4 n4 hc4 hf4
        go_wp2
        go_roundw
        case rel => exact ⟨xt, cx - 3, r.drop 3, acc ++ [d0, d1, d2, d3], selfP w.heap.size, by rw [List.length_drop], by rw [List.length_drop]; omega, HXT, HTB, HAC, hB6, .inr rfl, HB6⟩
        case measure => simp [slen]; omega
      · have hb40 : Below wr.heap.size wr w4 := ((Below.refl wr.heap.size wr).alloc (Nat.le_refl _) _).trans ((undrew hb4).mono (by simp))
        have hbel : Hid (Below wr.heap.size wr ((((w4.setCell ⟨wr.heap.size, 0, none⟩ (.int .u8 (d0.toNat : Int))).setCell ⟨wr.heap.size, 1, none⟩ (.int .u8 (d1.toNat : Int))).setCell ⟨wr.heap.size, 2, none⟩ (.int .u8 (d2.toNat : Int))).setCell ⟨wr.heap.size, 3, none⟩ (.int .u8 (d3.toNat : Int)))) := (((hb40.setCell (Nat.le_refl _) _).setCell (Nat.le_refl _) _).setCell (Nat.le_refl _) _).setCell (Nat.le_refl _) _
        have hC4 : Cel w4 wr.heap.size 82 (bs [0, 0, 0, 0]) := (Cel.new' wr _ (bs [0, 0, 0, 0]) _ rfl).below (undrew hb4) (by simp)
        have hCd := (((hC4.setB 0 d0).setB 1 d1).setB 2 d2).setB 3 d3
        have HCd := hide hCd
        have hlt := hD.out.lt
        clear hC4 hCd
        go_wp2_with fail
        refine (bw_any w.heap.size w.heap.size p acc _ (hD.out.below hbel.out) hp.out _ 4 [d0, d1, d2, d3] HCd.out.row (by intro h; cases h) (by simp) (by intro h; have : wr.heap.size = w.heap.size := Option.some.inj h; omega) HAL.out (Nat.le_trans hb.out.size hbel.out.size)).mono ?_
        rintro e w6 ⟨rfl, hB6, hb6⟩
        have HB6 := hide ((hb.out.trans (hbel.out.mono hb.out.size)).trans hb6.out)
        clear hb6 hb4 hb40 k4 n4 hc4 hf4
        go_wp2
        go_roundw
        case rel => exact ⟨xt, cx - 3, r.drop 3, acc ++ [d0, d1, d2, d3], selfP w.heap.size, by rw [List.length_drop], by rw [List.length_drop]; omega, HXT, HTB, HAC, hB6, .inr rfl, HB6⟩
        case measure => simp [slen]; omega
    · by_cases h2 : r.length = 2
      · obtain ⟨x, y, hr⟩ : ∃ x y, r = [x, y] := by
          match r, h2 with
          | [x, y], _ => exact ⟨x, y, rfl⟩
        obtain ⟨d0, d1, d2, d3, hd⟩ : ∃ d0 d1 d2 d3, fl x y 0 = [d0, d1, d2, d3] := ⟨_, _, _, _, rfl⟩
        have hBr := hB.out wr hb.out
        obtain ⟨b, off, rfl, hcell⟩ := hBr.row (by rw [hr]; simp)
        have c0 := hcell 0 (by omega)
        have c1 := hcell 1 (by omega)
        rw [hr] at c0 c1
        simp only [List.getD_cons_zero, List.getD_cons_succ, Nat.add_zero] at c0 c1
        have hbl : b < w.heap.size := HLT.out (by intro e; rw [e, List.length_nil] at hrl; omega) b (by rw [← hbk.out]; rfl)
        have hsz := hb.out.size
        have n0 : wr.heap.size ≠ b := by omega
        have HFD := hide hd
        have HAC : Hid ((acc ++ [d0, d1, d2]) ++ [61] = b64 l) := by
          show _ = _
          rw [← hac.out, hr, List.append_assoc]
          congr 1
          have e0 : d0 = l6 (x.toNat / 4) := (congrArg (·.getD 0 0) hd).symm
          have e1 : d1 = l6 (x.toNat % 4 * 16 + y.toNat / 16) := (congrArg (·.getD 1 0) hd).symm
          have e2 : d2 = l6 (y.toNat % 16 * 4 + (0 : UInt8).toNat / 64) := (congrArg (·.getD 2 0) hd).symm
          rw [e0, e1, e2]
          rfl
        have HAL : Hid (acc.length + 4 ≤ 100000000) := (by omega : acc.length + 4 ≤ 100000000)
        have HAL2 : Hid ((acc ++ [d0, d1, d2]).length + (⟨#[61]⟩ : ByteArray).size ≤ 100000000) := (by simp [ByteArray.size]; omega : (acc ++ [d0, d1, d2]).length + (⟨#[61]⟩ : ByteArray).size ≤ 100000000)
        have HAL3 : Hid ((acc ++ [d0, d1, d2] ++ (⟨#[61]⟩ : ByteArray).data.toList).length ≤ 100000000) := (by simp; omega : (acc ++ [d0, d1, d2] ++ (⟨#[61]⟩ : ByteArray).data.toList).length ≤ 100000000)
        have h4 := four_lit x y 0 d0 d1 d2 d3 hd
        have h4' : ∀ w : World, Calls Tryd.prog 39 #[.int .u8 (x.toNat : Int), .int .u8 (y.toNat : Int), .int .u8 0] w
            fun e w' => e = .returned (.agg #[.int .u8 (d0.toNat : Int), .int .u8 (d1.toNat : Int), .int .u8 (d2.toNat : Int), .int .u8 (d3.toNat : Int)]) ∧ Below w.heap.size w w' := h4
        have H4 := hide h4'
        clear hr hBr hcell hac hB hbk hal hd h4 h4' h3
        rw [h2]
        go_wp2
        go_region_held3 (fun w' => w'.cell? ⟨b, off, none⟩ = some (.int .u8 (x.toNat : Int)) ∧ w'.cell? ⟨b, off + 1, none⟩ = some (.int .u8 (y.toNat : Int))) (first | exact keep2 hb4 ‹_› | go_keep) ((go_at_call 39; refine (H4.out _).mono ?_; rintro e w4 ⟨rfl, hb4⟩; have k4 := keep2 hb4 ‹_ ∧ _›; have n4 : w4.heap.size ≠ b := (by have := hb4.size; simp at this; omega); have hc4 := fun (b o : Nat) (h : b < _) => hb4.cell (p := ⟨b, o, none⟩) h; have hf4 := fun (b o : Nat) (h : b < _) => hb4.frozen (p := ⟨b, o, none⟩) h))
        · have hbel : Hid (Below wr.heap.size wr (w4.alloc (.cells #[.int .u8 (d0.toNat : Int), .int .u8 (d1.toNat : Int), .int .u8 (d2.toNat : Int), .int .u8 (d3.toNat : Int)] 82))) := (undrew hb4).alloc hb4.size _
          have hlt := hD.out.lt
          have h4s : wr.heap.size ≤ w4.heap.size := hb4.size
          have HRW := hide ((Cel.new' w4 82 (bs [d0, d1, d2, d3]) #[.int .u8 (d0.toNat : Int), .int .u8 (d1.toNat : Int), .int .u8 (d2.toNat : Int), .int .u8 (d3.toNat : Int)] rfl).row.take 3)
          clear hb4 k4 n4 hc4 hf4
          go_wp2_with (first
          | (go_at_call 40; refine (bw_any w.heap.size w.heap.size p acc _ (hD.out.below hbel.out) hp.out _ 4 [d0, d1, d2] HRW.out (by intro h; cases h) (by simp) (by intro h; have : w4.heap.size = w.heap.size := Option.some.inj h; omega) (Nat.le_trans (by simp) HAL.out) (Nat.le_trans hb.out.size hbel.out.size)).mono ?_; rintro e w6 ⟨rfl, hB6, hb6⟩; have HB6 := hide ((hb.out.trans (hbel.out.mono hb.out.size)).trans hb6.out); clear hb6)
          | (go_at_call 41; refine (bws_any w.heap.size w.heap.size _ (acc ++ [d0, d1, d2]) _ hB6.out (.inr rfl) ⟨#[61]⟩ (by decide) HAL2.out HB6.out.size).mono ?_; rintro e w7 ⟨rfl, hB7, hb7⟩; have HB7 := hide (HB6.out.trans hb7.out); clear hb7)
          | (go_at_call 42; refine (bstr_any w.heap.size w.heap.size _ _ _ hB7.out HAL3.out).mono ?_; rintro e w8 ⟨rfl, hb8⟩))
          go_ret
          refine ⟨?_, HB7.out.trans hb8.out⟩
          rw [← HAC.out]
          simp [List.append_assoc]
        · have hb40 : Below wr.heap.size wr w4 := ((Below.refl wr.heap.size wr).alloc (Nat.le_refl _) _).trans ((undrew hb4).mono (by simp))
          have hbel : Hid (Below wr.heap.size wr ((((w4.setCell ⟨wr.heap.size, 0, none⟩ (.int .u8 (d0.toNat : Int))).setCell ⟨wr.heap.size, 1, none⟩ (.int .u8 (d1.toNat : Int))).setCell ⟨wr.heap.size, 2, none⟩ (.int .u8 (d2.toNat : Int))).setCell ⟨wr.heap.size, 3, none⟩ (.int .u8 (d3.toNat : Int)))) := (((hb40.setCell (Nat.le_refl _) _).setCell (Nat.le_refl _) _).setCell (Nat.le_refl _) _).setCell (Nat.le_refl _) _
          have hC4 : Cel w4 wr.heap.size 82 (bs [0, 0, 0, 0]) := (Cel.new' wr _ (bs [0, 0, 0, 0]) _ rfl).below (undrew hb4) (by simp)
          have HRW := hide (((((hC4.setB 0 d0).setB 1 d1).setB 2 d2).setB 3 d3).row.take 3)
          have hlt := hD.out.lt
          clear hC4 hb4 hb40 k4 n4 hc4 hf4
          go_wp2_with (first
          | (go_at_call 40; refine (bw_any w.heap.size w.heap.size p acc _ (hD.out.below hbel.out) hp.out _ 4 [d0, d1, d2] HRW.out (by intro h; cases h) (by simp) (by intro h; have : wr.heap.size = w.heap.size := Option.some.inj h; omega) (Nat.le_trans (by simp) HAL.out) (Nat.le_trans hb.out.size hbel.out.size)).mono ?_; rintro e w6 ⟨rfl, hB6, hb6⟩; have HB6 := hide ((hb.out.trans (hbel.out.mono hb.out.size)).trans hb6.out); clear hb6)
          | (go_at_call 41; refine (bws_any w.heap.size w.heap.size _ (acc ++ [d0, d1, d2]) _ hB6.out (.inr rfl) ⟨#[61]⟩ (by decide) HAL2.out HB6.out.size).mono ?_; rintro e w7 ⟨rfl, hB7, hb7⟩; have HB7 := hide (HB6.out.trans hb7.out); clear hb7)
          | (go_at_call 42; refine (bstr_any w.heap.size w.heap.size _ _ _ hB7.out HAL3.out).mono ?_; rintro e w8 ⟨rfl, hb8⟩))
          go_ret
          refine ⟨?_, HB7.out.trans hb8.out⟩
          rw [← HAC.out]
          simp [List.append_assoc]
      by_cases h1 : r.length = 1
      · obtain ⟨x, hr⟩ : ∃ x, r = [x] := by
          match r, h1 with
          | [x], _ => exact ⟨x, rfl⟩
        obtain ⟨d0, d1, d2, d3, hd⟩ : ∃ d0 d1 d2 d3, fl x 0 0 = [d0, d1, d2, d3] := ⟨_, _, _, _, rfl⟩
        have hBr := hB.out wr hb.out
        obtain ⟨b, off, rfl, hcell⟩ := hBr.row (by rw [hr]; simp)
        have c0 := hcell 0 (by omega)
        rw [hr] at c0
        simp only [List.getD_cons_zero, Nat.add_zero] at c0
        have hsz := hb.out.size
        have HAC : Hid ((acc ++ [d0, d1]) ++ [61, 61] = b64 l) := by
          show _ = _
          rw [← hac.out, hr, List.append_assoc]
          congr 1
          have e0 : d0 = l6 (x.toNat / 4) := (congrArg (·.getD 0 0) hd).symm
          have e1 : d1 = l6 (x.toNat % 4 * 16 + (0 : UInt8).toNat / 16) := (congrArg (·.getD 1 0) hd).symm
          rw [e0, e1]
          rfl
        have HAL : Hid (acc.length + 4 ≤ 100000000) := (by omega : acc.length + 4 ≤ 100000000)
        have HAL2 : Hid ((acc ++ [d0, d1]).length + (⟨#[61, 61]⟩ : ByteArray).size ≤ 100000000) := (by simp [ByteArray.size]; omega : (acc ++ [d0, d1]).length + (⟨#[61, 61]⟩ : ByteArray).size ≤ 100000000)
        have HAL3 : Hid ((acc ++ [d0, d1] ++ (⟨#[61, 61]⟩ : ByteArray).data.toList).length ≤ 100000000) := (by simp; omega : (acc ++ [d0, d1] ++ (⟨#[61, 61]⟩ : ByteArray).data.toList).length ≤ 100000000)
        have h4 := four_lit x 0 0 d0 d1 d2 d3 hd
        have h4' : ∀ w : World, Calls Tryd.prog 39 #[.int .u8 (x.toNat : Int), .int .u8 0, .int .u8 0] w
            fun e w' => e = .returned (.agg #[.int .u8 (d0.toNat : Int), .int .u8 (d1.toNat : Int), .int .u8 (d2.toNat : Int), .int .u8 (d3.toNat : Int)]) ∧ Below w.heap.size w w' := h4
        have H4 := hide h4'
        clear hr hBr hcell hac hB hbk hal hd h4 h4' h3 h2
        rw [h1]
        go_wp2_with (go_at_call 39; refine (H4.out _).mono ?_; rintro e w4 ⟨rfl, hb4⟩; have hlt := hD.out.lt; have h4s : wr.heap.size ≤ w4.heap.size := hb4.size; have HRW := hide ((Cel.new' w4 82 (bs [d0, d1, d2, d3]) #[.int .u8 (d0.toNat : Int), .int .u8 (d1.toNat : Int), .int .u8 (d2.toNat : Int), .int .u8 (d3.toNat : Int)] rfl).row.take 2); have hbel : Hid (Below wr.heap.size wr (w4.alloc (.cells #[.int .u8 (d0.toNat : Int), .int .u8 (d1.toNat : Int), .int .u8 (d2.toNat : Int), .int .u8 (d3.toNat : Int)] 82))) := hb4.alloc hb4.size _; clear hb4)
        go_wp2_with (first
          | (go_at_call 40; refine (bw_any w.heap.size w.heap.size p acc _ (hD.out.below hbel.out) hp.out _ 4 [d0, d1] HRW.out (by intro h; cases h) (by simp) (by intro h; have : w4.heap.size = w.heap.size := Option.some.inj h; omega) (Nat.le_trans (by simp) HAL.out) (Nat.le_trans hb.out.size hbel.out.size)).mono ?_; rintro e w6 ⟨rfl, hB6, hb6⟩; have HB6 := hide ((hb.out.trans (hbel.out.mono hb.out.size)).trans hb6.out); clear hb6)
          | (go_at_call 41; refine (bws_any w.heap.size w.heap.size _ (acc ++ [d0, d1]) _ hB6.out (.inr rfl) ⟨#[61, 61]⟩ (by decide) HAL2.out HB6.out.size).mono ?_; rintro e w7 ⟨rfl, hB7, hb7⟩; have HB7 := hide (HB6.out.trans hb7.out); clear hb7)
          | (go_at_call 42; refine (bstr_any w.heap.size w.heap.size _ _ _ hB7.out HAL3.out).mono ?_; rintro e w8 ⟨rfl, hb8⟩))
        go_ret
        refine ⟨?_, HB7.out.trans hb8.out⟩
        rw [← HAC.out]
        simp [List.append_assoc]
      · have h0 : r.length = 0 := by omega
        have hr : r = [] := List.eq_nil_of_length_eq_zero h0
        have HAC : Hid (acc = b64 l) := by show _ = _; rw [← hac.out, hr]; simp [b64]
        have HAL : Hid (acc.length ≤ 100000000) := (by omega : acc.length ≤ 100000000)
        clear hac hB hbk hal h1 h2 h3 hr
        rw [h0]
        go_wp2_with (go_at_call 42; refine (bstr_any w.heap.size w.heap.size _ _ _ hD.out HAL.out).mono ?_; rintro e w8 ⟨rfl, hb8⟩)
        go_ret
        exact ⟨by rw [HAC.out]; rfl, hb.out.trans hb8.out⟩
#print axioms base64_any
end Go.Proofs.YtegbcjfceooflaaDoor
end
section
set_option linter.unusedVariables false
set_option maxRecDepth 1000000
namespace Go.Proofs.YtegbcjfceooflaaDoor
open Go.RowKit

theorem run_lets6i (w : World) (X : Nat) (h : X < 64) : (Instr.index 9 (.string { data := #[65, 66, 67, 68, 69, 70, 71, 72, 73, 74, 75, 76, 77, 78, 79, 80, 81, 82, 83, 84, 85, 86, 87, 88, 89, 90, 97, 98, 99, 100, 101, 102, 103, 104, 105, 106, 107, 108, 109, 110, 111, 112, 113, 114, 115, 116, 117, 118, 119, 120, 121, 122, 48, 49, 50, 51, 52, 53, 54, 55, 56, 57, 43, 47] }) (.int .i64 (X : Int))).run Tryd.prog w = .ok (.int .u8 ((l6 X).toNat : Int)) w := by
  have h0 : (Instr.index 9 (.string (str lets6)) (.int .i64 (X : Int))).run Tryd.prog w = .ok (.int .u8 ((l6 X).toNat : Int)) w := by
    rw [run_index_string w 9 (str lets6) .i64 (X : Int) Tryd.underlying9]
    have hs : (str lets6).size = 64 := rfl
    rw [dif_pos (by rw [hs]; omega)]
    have e := lets6_at ⟨X, h⟩
    have e2 : ((str lets6)[(X : Int).toNat]'(by rw [hs]; omega)) = l6 X := by
      have : (lets6.toArray[X]'(by show X < 64; exact h)) = l6 X := by
        have e3 := Array.getElem?_eq_getElem (xs := lets6.toArray) (i := X) (by show X < 64; exact h)
        rw [e3] at e
        exact Option.some.inj e
      exact this
    rw [e2]
  exact h0

/-- A letter's number, -1 of none. -/
def sx (c : UInt8) : Int := match n6 c with | some n => (n : Int) | none => -1
theorem sx_all : ∀ c : Fin 256, sx (UInt8.ofNat c.val) = (match (List.range 64).find? (fun n => l6 n == UInt8.ofNat c.val) with | some n => (n : Int) | none => -1) := by decide +kernel
theorem sx_find (c : UInt8) : sx c = (match (List.range 64).find? (fun n => l6 n == c) with | some n => (n : Int) | none => -1) := by
  have h := sx_all ⟨c.toNat, c.toNat_lt⟩
  simpa only [UInt8.ofNat_toNat] using h
theorem sx_first (c : UInt8) (k : Nat) (hk : k < 64) (hn : ∀ j, j < k → l6 j ≠ c) (h : l6 k = c) : sx c = (k : Int) := by
  have : (List.range 64).find? (fun n => l6 n == c) = some k := by
    rw [List.find?_range_eq_some]
    refine ⟨by simpa using h, by simpa using hk, fun j hj => by simpa using hn j hj⟩
  rw [sx_find, this]
theorem sx_none (c : UInt8) (hn : ∀ j, j < 64 → l6 j ≠ c) : sx c = -1 := by
  have : (List.range 64).find? (fun n => l6 n == c) = none := by
    rw [List.find?_range_eq_none]
    intro j hj
    simpa using hn j hj
  rw [sx_find, this]

set_option maxHeartbeats 2000000 in
theorem six_any (c : UInt8) (w : World) : Calls Tryd.prog 43 #[.int .u8 (c.toNat : Int)] w fun e w' => e = .returned (.int .i64 (sx c)) ∧ w' = w := by
  go_enter Tryd.func43, Tryd.ntmps43
  go_wp2
  go_loopw [4] (fun i wr => ∃ k : Nat, k ≤ 64 ∧ i = .int .i64 (k : Int) ∧ Hid (∀ j, j < k → l6 j ≠ c) ∧ wr = w) (fun i _ => 64 - (intOf i).toNat)
  case atStart => exact ⟨0, by decide, rfl, fun j hj => by omega, rfl⟩
  case round =>
    obtain ⟨k, hk, rfl, HN, rfl⟩ := hrel
    by_cases hlt : k < 64
    · have hlt' : (k : Int) < 64 := by omega
      have hix := run_lets6i wr k hlt
      obtain ⟨x, hx⟩ : ∃ x, l6 k = x := ⟨_, rfl⟩
      rw [hx] at hix
      by_cases e : x = c
      · have HS := hide (sx_first c k hlt (unhide HN) (hx.trans e))
        have hq : (((x.toNat : Int)) == (c.toNat : Int)) = true := by rw [e]; simp
        clear hx e
        go_wp2
        go_ret
        exact ⟨by rw [unhide HS]; rfl, rfl⟩
      · have hq : (((x.toNat : Int)) == (c.toNat : Int)) = false := by
          rw [beq_eq_false_iff_ne]
          intro h
          exact e (UInt8.toNat_inj.1 (by omega))
        have HN2 : Hid (∀ j, j < k + 1 → l6 j ≠ c) := by
          intro j hj
          by_cases ej : j = k
          · subst ej; rw [hx]; exact e
          · exact unhide HN j (by omega)
        clear hx e
        go_wp2
        go_roundw
        case rel => exact ⟨k + 1, by omega, by go_num, HN2, trivial⟩
        case measure => simp [intOf]; omega
    · obtain rfl : k = 64 := by omega
      have HS := hide (sx_none c (unhide HN))
      clear HN hlt
      go_wp2
      go_ret
      exact ⟨by rw [unhide HS]; rfl, rfl⟩
#print axioms six_any
theorem run_ixs (w : World) (l : List UInt8) (k : Nat) (h : k < l.length) : (Instr.index 9 (.string (str l)) (.int .i64 (k : Int))).run Tryd.prog w = .ok (.int .u8 ((l.getD k 0).toNat : Int)) w := by
  rw [run_index_string w 9 (str l) .i64 (k : Int) Tryd.underlying9]
  have hs : (str l).size = l.length := str_size l
  rw [dif_pos (by rw [hs]; omega)]
  have e2 : ((str l)[(k : Int).toNat]'(by rw [hs]; omega)) = l.getD k 0 := by
    have : (l.toArray[k]'(by simpa using h)) = l.getD k 0 := by simp [h]
    exact this
  rw [e2]
theorem cut_from (s : List UInt8) (k : Nat) : (str s).extract k s.length = str (s.drop k) := by
  have := ByteArray.extract_mk s k s.length
  rw [List.take_of_length_le (by simp)] at this
  exact this
/-- What Key answers. -/
def krB (l : List UInt8) : Bool := decide (l.length = 24) && (l.drop 22 == [61, 61]) && (l.take 22).all (fun x => (n6 x).isSome) && ((sx (l.getD 21 0)).tmod 16 == 0)

set_option maxHeartbeats 2000000 in
theorem rkey_any (l : List UInt8) (w : World) (hl : l.length ≤ 1000000) :
    Calls Tryd.prog 19 #[.string (str l)] w fun e w' => e = .returned (.bool (krB l)) ∧ Hid (Below w.heap.size w w') := by
  have hsz : (str l).size = l.length := str_size l
  by_cases h24 : l.length = 24
  · have hne : ((l.length : Int) != 24) = false := by rw [h24]; rfl
    have hcut := cut_from l 22
    have hle22 : 22 ≤ l.length := by omega
    obtain ⟨q, hq⟩ : ∃ q, (l.drop 22 == [61, 61]) = q := ⟨_, rfl⟩
    have hq2 : ((str (l.drop 22)).toList == [61, 61]) = q := by rw [toList_str]; exact hq
    cases q with
    | false =>
      have HK : Hid (krB l = false) := by
        show _ = _
        unfold krB
        rw [hq, Bool.and_false, Bool.false_and, Bool.false_and]
      clear h24 hq
      go_enter Tryd.func19, Tryd.ntmps19
      go_wp2
      go_ret
      exact ⟨by rw [unhide HK]; rfl, Below.refl _ _⟩
    | true =>
      have HK : Hid (krB l = ((l.take 22).all (fun x => (n6 x).isSome) && ((sx (l.getD 21 0)).tmod 16 == 0))) := by
        show _ = _
        unfold krB
        rw [hq, decide_eq_true h24, Bool.true_and, Bool.true_and]
      have HL := hide h24
      have HTK : Hid (∀ j, j < 22 → (l.take 22)[j]? = some (l.getD j 0)) := by
        intro j hj
        have : j < l.length := by omega
        rw [List.getElem?_take, if_pos hj, List.getElem?_eq_getElem this]
        simp [this]
      have HTL : Hid ((l.take 22).length = 22) := by show _ = _; rw [List.length_take]; omega
      clear h24 hq
      go_enter Tryd.func19, Tryd.ntmps19
      go_wp2
      clear hcut hq2 hne
      go_loopw [12] (fun i wr => ∃ k : Nat, k ≤ 22 ∧ i = .int .i64 (k : Int) ∧ Hid (∀ j, j < k → (n6 (l.getD j 0)).isSome = true) ∧ wr = w) (fun i _ => 22 - (intOf i).toNat)
      case atStart => exact ⟨0, by decide, rfl, fun j hj => by omega, rfl⟩
      case round =>
        obtain ⟨k, hk, rfl, HN, rfl⟩ := hrel
        by_cases hlt : k < 22
        · have hlt' : (k : Int) < 22 := by omega
          have hix := run_ixs wr l k (by rw [unhide HL]; omega)
          obtain ⟨x, hx⟩ : ∃ x, l.getD k 0 = x := ⟨_, rfl⟩
          rw [hx] at hix
          have HX := hide hx
          clear hx
          obtain ⟨v, hv⟩ : ∃ v, sx x = v := ⟨_, rfl⟩
          have HV := hide hv
          have HS := hide (six_any x wr)
          rw [hv] at HS
          clear hv
          by_cases hneg : v < 0
          · have dn : decide (v < 0) = true := decide_eq_true hneg
            have HK2 : Hid (krB l = false) := by
              show _ = _
              rw [unhide HK]
              have h6 : (n6 x).isSome = false := by
                cases e : n6 x with
                | none => rfl
                | some n =>
                  have := unhide HV
                  unfold sx at this
                  rw [e] at this
                  simp at this
                  omega
              have : (l.take 22).all (fun x => (n6 x).isSome) = false := by
                rw [List.all_eq_false]
                refine ⟨x, ?_, by rw [h6]; decide⟩
                have := unhide HTK k hlt
                rw [unhide HX] at this
                exact List.mem_of_getElem? this
              rw [this, Bool.false_and]
            clear HV
            go_wp2_with (go_at_call 43; refine (unhide HS).mono ?_; rintro e w2 ⟨rfl, rfl⟩)
            go_ret
            exact ⟨by rw [unhide HK2]; rfl, Below.refl _ _⟩
          · have dn : decide (v < 0) = false := decide_eq_false hneg
            have HN2 : Hid (∀ j, j < k + 1 → (n6 (l.getD j 0)).isSome = true) := by
              intro j hj
              by_cases ej : j = k
              · subst ej
                rw [unhide HX]
                cases e : n6 x with
                | some n => rfl
                | none =>
                  have := unhide HV
                  unfold sx at this
                  rw [e] at this
                  simp at this
                  omega
              · exact unhide HN j (by omega)
            clear HV
            go_wp2_with (go_at_call 43; refine (unhide HS).mono ?_; rintro e w2 ⟨rfl, rfl⟩)
            go_roundw
            case rel => exact ⟨k + 1, by omega, by go_num, HN2, trivial⟩
            case measure => simp [intOf]; omega
        · obtain rfl : k = 22 := by omega
          have hix : (Instr.index 9 (.string (str l)) (.int .i64 21)).run Tryd.prog wr = .ok (.int .u8 ((l.getD 21 0).toNat : Int)) wr := run_ixs wr l 21 (by rw [unhide HL]; omega)
          have HA : Hid ((l.take 22).all (fun x => (n6 x).isSome) = true) := by
            show _ = _
            rw [List.all_eq_true]
            intro x hx
            obtain ⟨j, hj, e⟩ := List.mem_iff_getElem.1 hx
            have hj22 : j < 22 := by rw [← unhide HTL]; exact hj
            have := unhide HTK j hj22
            rw [List.getElem?_eq_getElem hj, e] at this
            rw [Option.some.inj this]
            exact unhide HN j hj22
          obtain ⟨x, hx⟩ : ∃ x, l.getD 21 0 = x := ⟨_, rfl⟩
          rw [hx] at hix HK
          have HS := hide (six_any x wr)
          obtain ⟨v, hv⟩ : ∃ v, sx x = v := ⟨_, rfl⟩
          rw [hv] at HS HK
          have hb6 : -1 ≤ v ∧ v ≤ 255 := by
            have : ∀ c : Fin 256, -1 ≤ sx (UInt8.ofNat c.val) ∧ sx (UInt8.ofNat c.val) ≤ 255 := by decide +kernel
            have h := this ⟨x.toNat, x.toNat_lt⟩
            simp only [UInt8.ofNat_toNat] at h
            rw [← hv]; exact h
          clear hx hv hlt HN
          go_wp2_with (go_at_call 43; refine (unhide HS).mono ?_; rintro e w2 ⟨rfl, rfl⟩)
          go_ret
          refine ⟨?_, Below.refl _ _⟩
          rw [unhide HK, unhide HA, Bool.true_and]
          rfl
  · have hne : ((l.length : Int) != 24) = true := by simp; omega
    have HK : Hid (krB l = false) := by
      show _ = _
      unfold krB
      rw [decide_eq_false h24]; rfl
    clear h24
    go_enter Tryd.func19, Tryd.ntmps19
    go_wp2
    go_ret
    exact ⟨by rw [unhide HK]; rfl, Below.refl _ _⟩
#print axioms rkey_any
end Go.Proofs.YtegbcjfceooflaaDoor
end
