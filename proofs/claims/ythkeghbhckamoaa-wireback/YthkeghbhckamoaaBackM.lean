/-
  PLAIN LEMMAS for WireBack, and its walk where something is too long.
-/
import Derived.Test.YthkeghbhckamoaaCurX
import Derived.Test.YthkeghbhckamoaaNumX
import Derived.Test.YthkeghbhckamoaaUnf
import Derived.Test.YthkeghbhckamoaaCat
set_option linter.unusedVariables false
namespace Go.Proofs.Ythkeghbhckamoaa
open Go.RowKit

theorem wf_i64 {n : Int} (h : (Lit.int .i64 n).wf = true) : -9223372036854775808 ≤ n ∧ n ≤ 9223372036854775807 := by
  simp [Lit.wf, IntKind.min, IntKind.max, IntKind.bits, IntKind.signed] at h
  omega
theorem bs_nil (w : World) : Bs w none 0 [] := ⟨fun h => absurd rfl h, Nat.le_refl _, by unfold maxLen; omega, fun _ => rfl⟩
theorem sum_nil (w : World) : Calls Try.prog 15 #[.slice none 0 0] w fun e w' => e = .returned (.int .u32 0) ∧ w' = w := by
  refine (wsum_none none 0 w).mono ?_
  rintro e w' ⟨rfl, rfl⟩
  exact ⟨ret_int (by decide +kernel), rfl⟩
theorem below_cur {B : Nat} {w0 w w' : World} {C : Nat} (h : Below B w0 w) (hg : w.grownBy w' (some C)) (hB : B ≤ w.heap.size) (hC : B ≤ C) : Below B w0 w' :=
  h.grown hg hB (fun k hk => by have := Option.some.inj hk; omega)

theorem unframe_front (p r : List UInt8) (hp : p.length ≤ 65536) : unframe (frameOf p ++ r) = (p, p.length + 7, 0) := by
  have hl := frameOf_length p
  have hA : (be 3 p.length ++ p).length = p.length + 3 := by simp [be_length]; omega
  have hB : (be 4 (crc (be 3 p.length ++ p))).length = 4 := be_length _ _
  have e : frameOf p ++ r = (be 3 p.length ++ p) ++ (be 4 (crc (be 3 p.length ++ p)) ++ r) := by unfold frameOf; simp
  have t3 : (frameOf p ++ r).take 3 = be 3 p.length := by
    rw [e, List.append_assoc, List.take_append_of_le_length (by simp [be_length])]
    exact List.take_of_length_le (by simp [be_length])
  have ta : (frameOf p ++ r).take (p.length + 3) = be 3 p.length ++ p := by
    rw [e, List.take_append_of_le_length (by omega)]
    exact List.take_of_length_le (by omega)
  have td : ((frameOf p ++ r).drop (p.length + 3)).take 4 = be 4 (crc (be 3 p.length ++ p)) := by
    rw [e, List.drop_append_of_le_length (by omega), List.drop_of_length_le (by omega), List.nil_append, List.take_append_of_le_length (by omega)]
    exact List.take_of_length_le (by omega)
  have tp : ((frameOf p ++ r).drop 3).take p.length = p := by
    rw [e, List.append_assoc, List.drop_append_of_le_length (by simp [be_length]), List.drop_of_length_le (by simp [be_length]), List.nil_append, List.take_append_of_le_length (by omega)]
    exact List.take_of_length_le (by omega)
  unfold unframe
  rw [t3, ofBe_be 3 _ (by simp; omega), if_neg (by simp; omega), if_neg (by omega), if_neg (by simp; omega), ta, td, if_pos rfl, tp]

theorem tx_front (t r : List UInt8) (ht : t.length ≤ 9223372036854775807) : tx (form t.length ++ (t ++ r)) (t.length : Int) = (t, 0, (form t.length).length + t.length) := by
  have h := rd_form t.length ht (t ++ r)
  unfold tx
  rw [h]
  simp only
  rw [if_neg (by simp), if_neg (by omega), if_neg (by simp)]
  congr 1
  rw [List.drop_append_of_le_length (by omega), List.drop_of_length_le (by omega), List.nil_append, List.take_append_of_le_length (by omega)]
  exact List.take_of_length_le (by omega)

theorem str_eta (s : ByteArray) : str s.data.toList = s := by
  cases s with
  | mk d => cases d with
    | mk l => rfl

set_option maxHeartbeats 1000000 in
theorem wireBack_big (n : Int) (s : ByteArray) (a2 : Option Addr) (cap2 : Nat) (l2 : List UInt8) (a3 : Option Addr) (cap3 : Nat) (l3 : List UInt8) (w : World) (hs : s.size ≤ maxLen) (hm2 : l2.length ≤ maxLen) (hm3 : l3.length ≤ maxLen) (hbig : 262144 < s.size ∨ 262144 < l2.length ∨ 262144 < l3.length) :
    Calls Try.prog 8 #[.int .i64 n, .string s, .slice a2 l2.length cap2, .slice a3 l3.length cap3] w fun e w' => e = .returned (.bool true) ∧ Below w.heap.size w w' := by
  unfold maxLen at hs hm2 hm3
  by_cases h1 : 262144 < s.size
  · go_enter Try.func8, Try.ntmps8
    go_wp2_with fail
    refine (sum_nil w).mono ?_
    rintro e w1 ⟨rfl, rfl⟩
    go_wp2
    go_ret
    exact ⟨rfl, Below.refl _ _⟩
  · by_cases h2 : 262144 < l2.length
    · go_enter Try.func8, Try.ntmps8
      go_wp2_with fail
      refine (sum_nil w).mono ?_
      rintro e w1 ⟨rfl, rfl⟩
      go_wp2
      go_ret
      exact ⟨rfl, Below.refl _ _⟩
    · have h3 : 262144 < l3.length := by omega
      go_enter Try.func8, Try.ntmps8
      go_wp2_with fail
      refine (sum_nil w).mono ?_
      rintro e w1 ⟨rfl, rfl⟩
      go_wp2
      go_ret
      exact ⟨rfl, Below.refl _ _⟩

end Go.Proofs.Ythkeghbhckamoaa
