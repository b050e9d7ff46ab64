/-
  THE WALK of bits.Len64: how many bits a number has, as far as it is wanted.; THE WALKS of wire's numbers: bytesBehind, highestFirst.; THE WALKS of wire.Number and wire.Text: a number's form behind any bytes.
-/
import Derived.Test.YtmcgghjeocnpnaaGreatDoorPkKewsad
import Derived.Test.YtmcgghjeocnpnaaGreatDoorPkKewsan
import Derived.WalkSpells
import Derived.WalkLawsBesides
import Derived.Lib.BitFns
import Derived.Lib.Walk
section
set_option linter.unusedVariables false
namespace Go.Proofs.YtmcgghjeocnpnaaGreatDoor
open Go.RowKit

theorem tab_size : Lib.len8tab.size = 256 := by decide +kernel
theorem tab_all : ∀ n : Fin 256, n.val = 0 ∨ 1 ≤ (Lib.len8tab.data.toList.getD n.val 0).toNat ∧ (Lib.len8tab.data.toList.getD n.val 0).toNat ≤ 8 := by decide +kernel
theorem tab_get (i : Nat) (h : i < Lib.len8tab.size) (h0 : 1 ≤ i) : 1 ≤ Lib.len8tab[i].toNat ∧ Lib.len8tab[i].toNat ≤ 8 := by
  have := tab_all ⟨i, by rw [← tab_size]; exact h⟩
  have e : Lib.len8tab.data.toList.getD i 0 = Lib.len8tab[i] := by
    have h' : i < Lib.len8tab.data.toList.length := by rw [Array.length_toList]; exact h
    rw [List.getD_eq_getElem?_getD, List.getElem?_eq_getElem h']
    rfl
  simp only [e] at this
  omega

theorem len_fin (x : Int) (k : Nat) (y : Int) (hy0 : 1 ≤ y) (hk : k ≤ 7) (h : y.toNat < Lib.len8tab.size) (hx : nb x.toNat = k + 1) (q : Int) (hq : q = wrap64 (8 * (k : Int) + wrap64 (Lib.len8tab[y.toNat].toNat : Int))) :
    1 ≤ q ∧ q ≤ 64 ∧ (q + 7) / 8 = (nb x.toNat : Nat) := by
  have := tab_get y.toNat h (by omega)
  have e1 : wrap64 (Lib.len8tab[y.toNat].toNat : Int) = (Lib.len8tab[y.toNat].toNat : Int) := by unfold wrap64; omega
  rw [e1] at hq
  have e2 : wrap64 (8 * (k : Int) + (Lib.len8tab[y.toNat].toNat : Int)) = 8 * (k : Int) + (Lib.len8tab[y.toNat].toNat : Int) := by unfold wrap64; omega
  rw [e2] at hq
  omega

set_option maxRecDepth 100000 in
set_option maxHeartbeats 4000000 in
theorem len64_any (x : Int) (w : World) (h0 : 1 ≤ x) (h1 : x ≤ 18446744073709551615) :
    Calls Tryz.prog 126 #[.int .u64 x] w fun e w' => ∃ r : Int, e = .returned (.int .i64 r) ∧ (1 ≤ r ∧ r ≤ 64 ∧ (r + 7) / 8 = (nb x.toNat : Nat)) ∧ w' = w := by
  have hsz := tab_size
  go_enter Tryz.func126, Tryz.ntmps126
  go_wp2
  all_goals go_ret
  all_goals refine ⟨_, rfl, ?_, rfl⟩
  · exact len_fin x 7 _ (by omega) (by decide) _ (by unfold nb; (repeat' split) <;> omega) _ rfl
  · exact len_fin x 6 _ (by omega) (by decide) _ (by unfold nb; (repeat' split) <;> omega) _ rfl
  · exact len_fin x 5 _ (by omega) (by decide) _ (by unfold nb; (repeat' split) <;> omega) _ rfl
  · exact len_fin x 4 _ (by omega) (by decide) _ (by unfold nb; (repeat' split) <;> omega) _ rfl
  · exact len_fin x 3 _ (by omega) (by decide) _ (by unfold nb; (repeat' split) <;> omega) _ rfl
  · exact len_fin x 2 _ (by omega) (by decide) _ (by unfold nb; (repeat' split) <;> omega) _ rfl
  · exact len_fin x 1 _ (by omega) (by decide) _ (by unfold nb; (repeat' split) <;> omega) _ rfl
  · exact len_fin x 0 _ (by omega) (by decide) (by omega) (by unfold nb; (repeat' split) <;> omega) _ (by simp)

#print axioms len64_any
end Go.Proofs.YtmcgghjeocnpnaaGreatDoor
end
section
set_option linter.unusedVariables false
namespace Go.Proofs.YtmcgghjeocnpnaaGreatDoor
open Go.RowKit

theorem behind_low (x : Int) (w : World) (_h0 : 0 ≤ x) (h1 : x ≤ 247) :
    Calls Tryz.prog 92 #[.int .u64 x] w fun e w' => e = .returned (.int .i64 0) ∧ w' = w := by
  go_enter Tryz.func92, Tryz.ntmps92
  go_wp2
  go_ret
  exact ⟨rfl, rfl⟩
set_option maxHeartbeats 400000 in
theorem behind_high (x : Int) (w : World) (h0 : 248 ≤ x) (h1 : x ≤ 18446744073709551615) :
    Calls Tryz.prog 92 #[.int .u64 x] w fun e w' => e = .returned (.int .i64 (nb x.toNat : Nat)) ∧ w' = w := by
  go_enter Tryz.func92, Tryz.ntmps92
  go_wp2_with fail
  refine (len64_any x w (by omega) h1).mono ?_
  rintro e w' ⟨r, rfl, ⟨hr1, hr2, hr3⟩, rfl⟩
  have HR : Hid ((r + 7) / 8 = (nb x.toNat : Nat)) := hr3
  clear hr3
  go_wp2
  go_ret
  exact ⟨ret_int (by have := HR.out; omega), rfl⟩

theorem shr_byte (n j : Nat) : (((UInt8.ofNat (n / 256 ^ j)).toNat : Nat) : Int) = ((n : Int) / (2 : Int) ^ (8 * j)) % 256 := by
  have e : (2 : Int) ^ (8 * j) = ((256 ^ j : Nat) : Int) := by
    rw [Int.pow_mul]
    simp
  rw [e]
  simp

set_option maxHeartbeats 400000 in
theorem highest_any (a : Option Addr) (cap : Nat) (l : List UInt8) (n k : Nat) (base : Nat) (w : World) (ho : OwnB w base a cap l) (hn : n ≤ 18446744073709551615) (hk : k ≤ 8) (hl : l.length ≤ 1000000) (hb : base ≤ w.heap.size) :
    Calls Tryz.prog 93 #[.slice a l.length cap, .int .u64 (n : Int), .int .i64 (k : Int)] w fun e w' => ∃ a' cap' r, e = .returned (.slice a' r.length cap') ∧ Hid (r = l ++ be k n) ∧ OwnB w' base a' cap' r ∧ Below base w w' := by
  go_enter Tryz.func93, Tryz.ntmps93
  go_wp2
  go_loopw [0, 7] (fun v i wr => ∃ (j : Nat) (a' : Option Addr) (cap' : Nat) (r : List UInt8), j ≤ k ∧ i = .int .i64 ((j : Int) - 1) ∧ v = .slice a' r.length cap' ∧ Hid (r = l ++ be (k - j) (n / 256 ^ j)) ∧ OwnB wr base a' cap' r ∧ Below base w wr) (fun _ i _ => (intOf i + 1).toNat)
  case atStart =>
    refine ⟨k, a, cap, l, Nat.le_refl _, rfl, rfl, ?_, ho, Below.refl _ _⟩
    show _ = _
    simp [be]
  case round =>
    obtain ⟨j, a', cap', r, hj, rfl, rfl, hr, ho', hbl⟩ := hrel
    have hrl : r.length ≤ 1000008 := by rw [hr.out]; simp [be_length]; omega
    by_cases hj0 : j = 0
    · subst hj0
      go_wp2
      go_ret
      refine ⟨a', cap', r, rfl, ?_, ho', hbl⟩
      show _ = _
      rw [hr.out]
      simp
    · obtain ⟨m, rfl⟩ : ∃ m, j = m + 1 := ⟨j - 1, by omega⟩
      clear hj0
      go_wp2_with (at_builtin; refine wp_app _ rfl _ _ rfl base a' cap' r rfl (ho'.alloc _) (some ⟨wr.heap.size, 0, none⟩) 1 [UInt8.ofNat (n / 256 ^ m)] 1 rfl rfl (row_lit _ _ _ ?c1) (fun h => by cases h) ?c2 ?c3 ?_)
      case c1 => exact (shr_byte n m).symm
      case c2 => simp; omega
      case c3 => have := hbl.size; simp; omega
      intro a2 cap2 r2 w2 hr2 ho2 hg2
      have hlt := ho'.lt
      have hbl2 : Below base w w2 := below_grown (hbl.alloc (by have := hbl.size; omega) _) hg2 hb (fun k hk => (hlt k hk).1)
      have HR : Hid (r2 = l ++ be (k - m) (n / 256 ^ m)) := by
        show _ = _
        have := be_step k (m + 1) n (by omega) hj
        rw [Nat.add_sub_cancel] at this
        rw [hr2.out, hr.out, this, List.append_assoc]
      clear hr2 hr hg2 hlt ho'
      go_wp2
      go_roundw
      case rel => exact ⟨m, a2, cap2, r2, by omega, by go_num, rfl, HR, ho2, hbl2⟩
      case measure => simp [intOf]
#print axioms highest_any
end Go.Proofs.YtmcgghjeocnpnaaGreatDoor
end
section
set_option linter.unusedVariables false
namespace Go.Proofs.YtmcgghjeocnpnaaGreatDoor
open Go.RowKit

theorem ofNat_in (n : Nat) (h : n < 256) : ((UInt8.ofNat n).toNat : Int) = (n : Int) := by
  simp
  omega

set_option maxHeartbeats 1000000 in
theorem number_low (a : Option Addr) (cap : Nat) (l : List UInt8) (n : Int) (w : World) (hB : Bs w a cap l) (hl : l.length ≤ 900000) (h1 : n ≤ 247) (hn : -9223372036854775808 ≤ n) :
    Calls Tryz.prog 61 #[.slice a l.length cap, .int .i64 n] w fun e w' => ∃ a' cap' r, e = .returned (.slice a' r.length cap') ∧ Hid (r = l ++ form n.toNat) ∧ OwnB w' w.heap.size a' cap' r ∧ Below w.heap.size w w' := by
  obtain ⟨N, hN, hNb⟩ : ∃ N : Nat, n.toNat = N ∧ N ≤ 247 := ⟨n.toNat, rfl, by omega⟩
  have hfo : form n.toNat = [UInt8.ofNat N] := by rw [hN, form, if_pos hNb]
  have hmax : max n 0 = (N : Int) := by omega
  rw [hfo]
  clear hfo hN
  go_enter Tryz.func61, Tryz.ntmps61
  go_wp2_with fail
  refine (behind_low _ _ (by omega) (by omega)).mono ?_
  rintro e w0 ⟨rfl, rfl⟩
  go_wp2_with (at_make; refine wp_make0 _ rfl _ _ rfl _ _ _ _ (l.length + 1) rfl rfl ?c1 ?c2 (Nat.le_refl _) ?_)
  case c1 => omega
  case c2 => omega
  intro a1 w1 ho1 hg1
  have hb1 : Below w0.heap.size w0 w1 := (Below.refl _ _).grown hg1 (Nat.le_refl _) (fun k h => by cases h)
  have hB1 : Bs w1 a cap l := hB.below hb1 (Nat.le_refl _)
  clear hg1 hB
  go_wp2_with (at_builtin; refine wp_app _ rfl _ _ rfl w0.heap.size a1 (l.length + 1) [] rfl ho1 a cap l _ rfl rfl hB1.row hB1.nz ?c3 hb1.size ?_)
  case c3 => simp; omega
  intro a2 cap2 r2 w2 hr2 ho2 hg2
  have hb2 : Below w0.heap.size w0 w2 := below_grown hb1 hg2 (Nat.le_refl _) (fun k hk => (ho1.lt k hk).1)
  have hrl : r2.length ≤ 900000 := by rw [hr2.out]; simpa using hl
  clear hg2 hB1 ho1 hb1
  go_wp2_with (at_builtin; refine wp_app _ rfl _ _ rfl w0.heap.size a2 cap2 r2 rfl (ho2.alloc _) (some ⟨w2.heap.size, 0, none⟩) 1 [UInt8.ofNat N] 1 rfl rfl (row_lit _ _ _ ?c4) (fun h => by cases h) ?c5 ?c6 ?_)
  case c4 => have := ofNat_in N (by omega); omega
  case c5 => simp; omega
  case c6 => have := hb2.size; simp; omega
  intro a3 cap3 r3 w3 hr3 ho3 hg3
  have hb3 : Below w0.heap.size w0 w3 := below_grown (hb2.alloc hb2.size _) hg3 (Nat.le_refl _) (fun k hk => (ho2.lt k hk).1)
  have HR : Hid (r3 = l ++ [UInt8.ofNat N]) := by
    show _ = _
    rw [hr3.out, hr2.out]
  clear hg3 ho2 hb2 hr2 hr3
  go_wp2
  go_ret
  exact ⟨a3, cap3, r3, rfl, HR, ho3, hb3⟩

set_option maxHeartbeats 1000000 in
theorem number_high (a : Option Addr) (cap : Nat) (l : List UInt8) (n : Nat) (w : World) (hB : Bs w a cap l) (hl : l.length ≤ 900000) (h1 : 248 ≤ n) (hn : n ≤ 9223372036854775807) :
    Calls Tryz.prog 61 #[.slice a l.length cap, .int .i64 (n : Int)] w fun e w' => ∃ a' cap' r, e = .returned (.slice a' r.length cap') ∧ Hid (r = l ++ form n) ∧ OwnB w' w.heap.size a' cap' r ∧ Below w.heap.size w w' := by
  have hnb := nb_pos n
  obtain ⟨k, hk⟩ : ∃ k, k = nb n := ⟨_, rfl⟩
  obtain ⟨c, hc⟩ : ∃ c : UInt8, c = UInt8.ofNat (247 + k) := ⟨_, rfl⟩
  have hfo : Hid (form n = c :: be k n) := by
    show _ = _
    rw [form, if_neg (by omega), hc, hk]
  have HC : Hid ((c.toNat : Int) = ((247 + k : Nat) : Int)) := by
    show _ = _
    rw [hc]
    exact ofNat_in _ (by omega)
  clear hc
  rw [← hk] at hnb
  have HK : Hid (k = nb n) := hk
  clear hk
  have hmax : max (n : Int) 0 = (n : Int) := by omega
  have hz : ((k : Int) == 0) = false := by simp; omega
  go_enter Tryz.func61, Tryz.ntmps61
  go_wp2_with fail
  refine (behind_high _ _ (by omega) (by omega)).mono ?_
  rintro e w0 ⟨rfl, rfl⟩
  rw [Int.toNat_natCast, ← HK.out]
  go_wp2_with (at_make; refine wp_make0 _ rfl _ _ rfl _ _ _ _ (l.length + 1 + k) rfl rfl ?c1 ?c2 (Nat.le_refl _) ?_)
  case c1 => omega
  case c2 => omega
  intro a1 w1 ho1 hg1
  have hb1 : Below w0.heap.size w0 w1 := (Below.refl _ _).grown hg1 (Nat.le_refl _) (fun k h => by cases h)
  have hB1 : Bs w1 a cap l := hB.below hb1 (Nat.le_refl _)
  clear hg1 hB
  go_wp2_with (at_builtin; refine wp_app _ rfl _ _ rfl w0.heap.size a1 (l.length + 1 + k) [] rfl ho1 a cap l _ rfl rfl hB1.row hB1.nz ?c3 hb1.size ?_)
  case c3 => simp; omega
  intro a2 cap2 r2 w2 hr2 ho2 hg2
  have hb2 : Below w0.heap.size w0 w2 := below_grown hb1 hg2 (Nat.le_refl _) (fun k hk => (ho1.lt k hk).1)
  have hrl : r2.length ≤ 900000 := by rw [hr2.out]; simpa using hl
  clear hg2 hB1 ho1 hb1
  go_wp2_with (at_builtin; refine wp_app _ rfl _ _ rfl w0.heap.size a2 cap2 r2 rfl (ho2.alloc _) (some ⟨w2.heap.size, 0, none⟩) 1 [c] 1 rfl rfl (row_lit _ _ _ ?c4) (fun h => by cases h) ?c5 ?c6 ?_)
  case c4 => have := HC.out; omega
  case c5 => simp; omega
  case c6 => have := hb2.size; simp; omega
  intro a3 cap3 r3 w3 hr3 ho3 hg3
  have hb3 : Below w0.heap.size w0 w3 := below_grown (hb2.alloc hb2.size _) hg3 (Nat.le_refl _) (fun k hk => (ho2.lt k hk).1)
  have hrl3 : r3.length ≤ 1000000 := by rw [hr3.out]; simp; omega
  have HR : Hid (r3 = l ++ [c]) := by
    show _ = _
    rw [hr3.out, hr2.out]
  clear hg3 ho2 hb2 hr2 hr3 hrl
  go_wp2_with fail
  refine (highest_any a3 cap3 r3 n k w0.heap.size w3 ho3 (by omega) (by omega) hrl3 hb3.size).mono ?_
  rintro e w4 ⟨a4, cap4, r4, rfl, hr4, ho4, hb4⟩
  have HR4 : Hid (r4 = l ++ form n) := by
    show _ = _
    rw [hr4.out, HR.out, hfo.out, List.append_assoc]
    rfl
  clear hr4 HR hfo
  go_wp2
  go_ret
  exact ⟨a4, cap4, r4, rfl, HR4, ho4, hb3.trans hb4⟩

/-- wire.Number. -/
theorem number_any (a : Option Addr) (cap : Nat) (l : List UInt8) (n : Int) (w : World) (hB : Bs w a cap l) (hl : l.length ≤ 900000) (h0 : -9223372036854775808 ≤ n) (h1 : n ≤ 9223372036854775807) :
    Calls Tryz.prog 61 #[.slice a l.length cap, .int .i64 n] w fun e w' => ∃ a' cap' r, e = .returned (.slice a' r.length cap') ∧ Hid (r = l ++ form n.toNat) ∧ OwnB w' w.heap.size a' cap' r ∧ Below w.heap.size w w' := by
  by_cases h : n ≤ 247
  · exact number_low a cap l n w hB hl h h0
  · obtain ⟨N, rfl⟩ := Int.eq_ofNat_of_zero_le (show 0 ≤ n by omega)
    exact number_high a cap l N w hB hl (by omega) (by omega)

set_option maxHeartbeats 1000000 in
/-- wire.Text. -/
theorem text_any (a : Option Addr) (cap : Nat) (l : List UInt8) (s : ByteArray) (w : World) (hB : Bs w a cap l) (hl : l.length ≤ 900000) (hs : s.size ≤ 900000) :
    Calls Tryz.prog 94 #[.slice a l.length cap, .string s] w fun e w' => ∃ a' cap' r, e = .returned (.slice a' r.length cap') ∧ Hid (r = l ++ (form s.size ++ s.data.toList)) ∧ OwnB w' w.heap.size a' cap' r ∧ Below w.heap.size w w' := by
  go_enter Tryz.func94, Tryz.ntmps94
  go_wp2_with fail
  refine (number_any a cap l _ w hB hl (by omega) (by omega)).mono ?_
  rintro e w1 ⟨a1, cap1, r1, rfl, hr1, ho1, hb1⟩
  have hfl := form_le s.size
  rw [Int.toNat_natCast] at hr1
  have hrl : r1.length ≤ 900009 := by rw [hr1.out]; simp; omega
  go_wp2_with (at_builtin; refine wp_apps _ rfl _ _ rfl w.heap.size a1 cap1 r1 rfl ho1 s rfl ?c1 hb1.size ?_)
  case c1 => omega
  intro a2 cap2 r2 w2 hr2 ho2 hg2
  have hb2 : Below w.heap.size w w2 := below_grown hb1 hg2 (Nat.le_refl _) (fun k hk => (ho1.lt k hk).1)
  have HR : Hid (r2 = l ++ (form s.size ++ s.data.toList)) := by
    show _ = _
    rw [hr2.out, hr1.out, List.append_assoc]
  clear hr1 hr2 hg2 ho1 hb1
  go_wp2
  go_ret
  exact ⟨a2, cap2, r2, rfl, HR, ho2, hb2⟩

#print axioms text_any
#print axioms number_any
end Go.Proofs.YtmcgghjeocnpnaaGreatDoor
end
