/-
  THE WALKS of wire.Number and wire.Text: a number's form behind any bytes.
-/
import Derived.Test.YtoapkajlgnlecaaDoorNumW
set_option linter.unusedVariables false
namespace Go.Proofs.YtoapkajlgnlecaaDoor
open Go.RowKit

theorem ofNat_in (n : Nat) (h : n < 256) : ((UInt8.ofNat n).toNat : Int) = (n : Int) := by
  simp
  omega

set_option maxHeartbeats 1000000 in
theorem number_low (a : Option Addr) (cap : Nat) (l : List UInt8) (n : Int) (w : World) (hB : Bs w a cap l) (hl : l.length ≤ 900000) (h1 : n ≤ 247) (hn : -9223372036854775808 ≤ n) :
    Calls Tryd.prog 26 #[.slice a l.length cap, .int .i64 n] w fun e w' => ∃ a' cap' r, e = .returned (.slice a' r.length cap') ∧ Hid (r = l ++ form n.toNat) ∧ OwnB w' w.heap.size a' cap' r ∧ Below w.heap.size w w' := by
  obtain ⟨N, hN, hNb⟩ : ∃ N : Nat, n.toNat = N ∧ N ≤ 247 := ⟨n.toNat, rfl, by omega⟩
  have hfo : form n.toNat = [UInt8.ofNat N] := by rw [hN, form, if_pos hNb]
  have hmax : max n 0 = (N : Int) := by omega
  rw [hfo]
  clear hfo hN
  go_enter Tryd.func26, Tryd.ntmps26
  go_wp2_with fail
  refine (behind_low _ _ (by omega) (by omega)).mono ?_
  rintro e w0 ⟨rfl, rfl⟩
  go_wp2_with (at_make; refine wp_make0 _ rfl _ _ rfl _ _ _ _ (l.length + 1) rfl rfl ?c1 ?c2 (Nat.le_refl _) ?_)
  case c1 => omega
  case c2 => omega
  intro a1 w1 ho1 hg1
  have hb1 : Below w0.heap.size w0 w1 := (Below.refl _ _).grown hg1 (Nat.le_refl _) (fun k h => by cases h)
  have hB1 : Bs w1 a cap l := hB.below hb1 (Nat.le_refl _)
  clear hg1 hB
  go_wp2_with (at_builtin; refine wp_app _ rfl _ _ rfl w0.heap.size a1 (l.length + 1) [] rfl ho1 a cap l _ rfl rfl hB1.row hB1.nz ?c3 hb1.size ?_)
  case c3 => simp; omega
  intro a2 cap2 r2 w2 hr2 ho2 hg2
  have hb2 : Below w0.heap.size w0 w2 := below_grown hb1 hg2 (Nat.le_refl _) (fun k hk => (ho1.lt k hk).1)
  have hrl : r2.length ≤ 900000 := by rw [hr2.out]; simpa using hl
  clear hg2 hB1 ho1 hb1
  go_wp2_with (at_builtin; refine wp_app _ rfl _ _ rfl w0.heap.size a2 cap2 r2 rfl (ho2.alloc _) (some ⟨w2.heap.size, 0, none⟩) 1 [UInt8.ofNat N] 1 rfl rfl (row_lit _ _ _ ?c4) (fun h => by cases h) ?c5 ?c6 ?_)
  case c4 => have := ofNat_in N (by omega); omega
  case c5 => simp; omega
  case c6 => have := hb2.size; simp; omega
  intro a3 cap3 r3 w3 hr3 ho3 hg3
  have hb3 : Below w0.heap.size w0 w3 := below_grown (hb2.alloc hb2.size _) hg3 (Nat.le_refl _) (fun k hk => (ho2.lt k hk).1)
  have HR : Hid (r3 = l ++ [UInt8.ofNat N]) := by
    show _ = _
    rw [hr3.out, hr2.out]
  clear hg3 ho2 hb2 hr2 hr3
  go_wp2
  go_ret
  exact ⟨a3, cap3, r3, rfl, HR, ho3, hb3⟩

set_option maxHeartbeats 1000000 in
theorem number_high (a : Option Addr) (cap : Nat) (l : List UInt8) (n : Nat) (w : World) (hB : Bs w a cap l) (hl : l.length ≤ 900000) (h1 : 248 ≤ n) (hn : n ≤ 9223372036854775807) :
    Calls Tryd.prog 26 #[.slice a l.length cap, .int .i64 (n : Int)] w fun e w' => ∃ a' cap' r, e = .returned (.slice a' r.length cap') ∧ Hid (r = l ++ form n) ∧ OwnB w' w.heap.size a' cap' r ∧ Below w.heap.size w w' := by
  have hnb := nb_pos n
  obtain ⟨k, hk⟩ : ∃ k, k = nb n := ⟨_, rfl⟩
  obtain ⟨c, hc⟩ : ∃ c : UInt8, c = UInt8.ofNat (247 + k) := ⟨_, rfl⟩
  have hfo : Hid (form n = c :: be k n) := by
    show _ = _
    rw [form, if_neg (by omega), hc, hk]
  have HC : Hid ((c.toNat : Int) = ((247 + k : Nat) : Int)) := by
    show _ = _
    rw [hc]
    exact ofNat_in _ (by omega)
  clear hc
  rw [← hk] at hnb
  have HK : Hid (k = nb n) := hk
  clear hk
  have hmax : max (n : Int) 0 = (n : Int) := by omega
  have hz : ((k : Int) == 0) = false := by simp; omega
  go_enter Tryd.func26, Tryd.ntmps26
  go_wp2_with fail
  refine (behind_high _ _ (by omega) (by omega)).mono ?_
  rintro e w0 ⟨rfl, rfl⟩
  rw [Int.toNat_natCast, ← HK.out]
  go_wp2_with (at_make; refine wp_make0 _ rfl _ _ rfl _ _ _ _ (l.length + 1 + k) rfl rfl ?c1 ?c2 (Nat.le_refl _) ?_)
  case c1 => omega
  case c2 => omega
  intro a1 w1 ho1 hg1
  have hb1 : Below w0.heap.size w0 w1 := (Below.refl _ _).grown hg1 (Nat.le_refl _) (fun k h => by cases h)
  have hB1 : Bs w1 a cap l := hB.below hb1 (Nat.le_refl _)
  clear hg1 hB
  go_wp2_with (at_builtin; refine wp_app _ rfl _ _ rfl w0.heap.size a1 (l.length + 1 + k) [] rfl ho1 a cap l _ rfl rfl hB1.row hB1.nz ?c3 hb1.size ?_)
  case c3 => simp; omega
  intro a2 cap2 r2 w2 hr2 ho2 hg2
  have hb2 : Below w0.heap.size w0 w2 := below_grown hb1 hg2 (Nat.le_refl _) (fun k hk => (ho1.lt k hk).1)
  have hrl : r2.length ≤ 900000 := by rw [hr2.out]; simpa using hl
  clear hg2 hB1 ho1 hb1
  go_wp2_with (at_builtin; refine wp_app _ rfl _ _ rfl w0.heap.size a2 cap2 r2 rfl (ho2.alloc _) (some ⟨w2.heap.size, 0, none⟩) 1 [c] 1 rfl rfl (row_lit _ _ _ ?c4) (fun h => by cases h) ?c5 ?c6 ?_)
  case c4 => have := HC.out; omega
  case c5 => simp; omega
  case c6 => have := hb2.size; simp; omega
  intro a3 cap3 r3 w3 hr3 ho3 hg3
  have hb3 : Below w0.heap.size w0 w3 := below_grown (hb2.alloc hb2.size _) hg3 (Nat.le_refl _) (fun k hk => (ho2.lt k hk).1)
  have hrl3 : r3.length ≤ 1000000 := by rw [hr3.out]; simp; omega
  have HR : Hid (r3 = l ++ [c]) := by
    show _ = _
    rw [hr3.out, hr2.out]
  clear hg3 ho2 hb2 hr2 hr3 hrl
  go_wp2_with fail
  refine (highest_any a3 cap3 r3 n k w0.heap.size w3 ho3 (by omega) (by omega) hrl3 hb3.size).mono ?_
  rintro e w4 ⟨a4, cap4, r4, rfl, hr4, ho4, hb4⟩
  have HR4 : Hid (r4 = l ++ form n) := by
    show _ = _
    rw [hr4.out, HR.out, hfo.out, List.append_assoc]
    rfl
  clear hr4 HR hfo
  go_wp2
  go_ret
  exact ⟨a4, cap4, r4, rfl, HR4, ho4, hb3.trans hb4⟩

/-- wire.Number. -/
theorem number_any (a : Option Addr) (cap : Nat) (l : List UInt8) (n : Int) (w : World) (hB : Bs w a cap l) (hl : l.length ≤ 900000) (h0 : -9223372036854775808 ≤ n) (h1 : n ≤ 9223372036854775807) :
    Calls Tryd.prog 26 #[.slice a l.length cap, .int .i64 n] w fun e w' => ∃ a' cap' r, e = .returned (.slice a' r.length cap') ∧ Hid (r = l ++ form n.toNat) ∧ OwnB w' w.heap.size a' cap' r ∧ Below w.heap.size w w' := by
  by_cases h : n ≤ 247
  · exact number_low a cap l n w hB hl h h0
  · obtain ⟨N, rfl⟩ := Int.eq_ofNat_of_zero_le (show 0 ≤ n by omega)
    exact number_high a cap l N w hB hl (by omega) (by omega)

set_option maxHeartbeats 1000000 in
/-- wire.Text. -/
theorem text_any (a : Option Addr) (cap : Nat) (l : List UInt8) (s : ByteArray) (w : World) (hB : Bs w a cap l) (hl : l.length ≤ 900000) (hs : s.size ≤ 900000) :
    Calls Tryd.prog 27 #[.slice a l.length cap, .string s] w fun e w' => ∃ a' cap' r, e = .returned (.slice a' r.length cap') ∧ Hid (r = l ++ (form s.size ++ s.data.toList)) ∧ OwnB w' w.heap.size a' cap' r ∧ Below w.heap.size w w' := by
  go_enter Tryd.func27, Tryd.ntmps27
  go_wp2_with fail
  refine (number_any a cap l _ w hB hl (by omega) (by omega)).mono ?_
  rintro e w1 ⟨a1, cap1, r1, rfl, hr1, ho1, hb1⟩
  have hfl := form_le s.size
  rw [Int.toNat_natCast] at hr1
  have hrl : r1.length ≤ 900009 := by rw [hr1.out]; simp; omega
  go_wp2_with (at_builtin; refine wp_apps _ rfl _ _ rfl w.heap.size a1 cap1 r1 rfl ho1 s rfl ?c1 hb1.size ?_)
  case c1 => omega
  intro a2 cap2 r2 w2 hr2 ho2 hg2
  have hb2 : Below w.heap.size w w2 := below_grown hb1 hg2 (Nat.le_refl _) (fun k hk => (ho1.lt k hk).1)
  have HR : Hid (r2 = l ++ (form s.size ++ s.data.toList)) := by
    show _ = _
    rw [hr2.out, hr1.out, List.append_assoc]
  clear hr1 hr2 hg2 ho1 hb1
  go_wp2
  go_ret
  exact ⟨a2, cap2, r2, rfl, HR, ho2, hb2⟩

#print axioms number_any
#print axioms text_any
end Go.Proofs.YtoapkajlgnlecaaDoor
