/-
  THE WALK OF WireSpelt.
-/
import Derived.Test.YthpalohjjkmhdaaSplX
set_option linter.unusedVariables false
namespace Go.Proofs.Ythpalohjjkmhdaa
open Go.RowKit

theorem str_len (s : ByteArray) : s.data.toList.length = s.size := by rw [Array.length_toList]; rfl
theorem bs_lit (w : World) (z : Int) (c : UInt8) (h : z = (c.toNat : Int)) : Bs (w.alloc (.cells #[.int .u8 z] 5)) (some ⟨w.heap.size, 0, none⟩) 1 [c] :=
  ⟨row_lit w z c h, by simp, by unfold maxLen; omega, fun h => by cases h⟩
theorem str_snoc (T : List UInt8) (c : UInt8) : (str T ++ ByteArray.mk #[c]).data.toList = T ++ [c] := by simp [str]

set_option maxHeartbeats 1000000 in
theorem wireSpelt_big (a0 : Option Addr) (cap0 : Nat) (l0 : List UInt8) (s : ByteArray) (w : World) (hm : l0.length ≤ maxLen) (h1 : s.size ≤ maxLen) (h : 16384 < l0.length ∨ 16384 < s.size) :
    Calls Try.prog 7 #[.slice a0 l0.length cap0, .string s] w fun e w' => e = .returned (.bool true) ∧ Below w.heap.size w w' := by
  unfold maxLen at hm h1
  have hAA : str (spR [0] 0 0) = { data := #[65, 65] } := by rw [sp1]; rfl
  by_cases k : 16384 < l0.length
  · go_enter Try.func7, Try.ntmps7
    go_wp2_with fail
    refine (spell_any (some ⟨w.heap.size, 0, none⟩) 1 [0] _ (bs_lit w _ 0 rfl) (by decide)).mono ?_
    rintro e w1 ⟨rfl, hb⟩
    rw [hAA]
    have hb2 : Below w.heap.size w w1 := ((Below.refl w.heap.size w).alloc (Nat.le_refl _) _).trans (hb.mono (by simp))
    clear hb
    go_wp2
    go_ret
    exact ⟨rfl, hb2⟩
  · have k2 : 16384 < s.size := by omega
    go_enter Try.func7, Try.ntmps7
    go_wp2_with fail
    refine (spell_any (some ⟨w.heap.size, 0, none⟩) 1 [0] _ (bs_lit w _ 0 rfl) (by decide)).mono ?_
    rintro e w1 ⟨rfl, hb⟩
    rw [hAA]
    have hb2 : Below w.heap.size w w1 := ((Below.refl w.heap.size w).alloc (Nat.le_refl _) _).trans (hb.mono (by simp))
    clear hb
    go_wp2
    go_ret
    exact ⟨rfl, hb2⟩

set_option maxHeartbeats 2000000 in
theorem wireSpelt_small (a0 : Option Addr) (cap0 : Nat) (l0 : List UInt8) (s : ByteArray) (w : World) (p0 : Bs w a0 cap0 l0) (h0 : ¬ 16384 < l0.length) (h1 : ¬ 16384 < s.size) :
    Calls Try.prog 7 #[.slice a0 l0.length cap0, .string s] w fun e w' => e = .returned (.bool true) ∧ Below w.heap.size w w' := by
  go_enter Try.func7, Try.ntmps7
  go_wp2_with fail
  refine (spell_any a0 cap0 l0 w p0 (by omega)).mono ?_
  rintro e w1 ⟨rfl, hb1⟩
  obtain ⟨T, hT⟩ : ∃ T, T = spR l0 0 0 := ⟨_, rfl⟩
  have hTl : T.length = (4 * l0.length + 2) / 3 := by rw [hT]; exact sp_length l0
  have HT := hide hT
  rw [← hT]
  clear hT
  have hsz : (str T).size = T.length := str_size T
  have hTm : T.length ≤ 30000 := by omega
  go_wp2_with fail
  refine (unspell_any (str T) w1 (by rw [str_data]; omega)).mono ?_
  rw [str_data]
  rintro e w2 ⟨hb2, ⟨hn, rfl⟩ | ⟨a2, cap2, r2, hr2, rfl, ho2⟩⟩
  · rw [unhide HT, un_sp] at hn
    cases hn
  obtain rfl : l0 = r2 := by
    rw [unhide HT, un_sp] at hr2
    exact Option.some.inj hr2
  have hW2 := hb1.trans (hb2.mono hb1.size)
  clear hb1 hb2 hr2
  have p2 := p0.below hW2 (Nat.le_refl _)
  obtain ⟨L, hL⟩ : ∃ L : Nat, L = T.length := ⟨_, rfl⟩
  have HL1 : (4 * (l0.length : Int) + 2).tdiv 3 = (T.length : Int) := by rw [Int.tdiv_eq_ediv_of_nonneg (by omega)]; omega
  have HL2 : (4 * (l0.length : Int) + 2) / 3 = (T.length : Int) := by omega
  have HTl := hide hTl
  clear hTl hL
  go_wp2_with fail
  refine (equal_any a2 _ cap2 l0 a0 _ cap0 l0 w2 ho2.toBs.row p2.row rfl rfl).mono ?_
  rintro e w2' ⟨rfl, rfl⟩
  have hself : (l0 == l0) = true := by simp
  rw [hself]
  go_wp2_with fail
  refine (unspell_any s w2' (by rw [str_len]; omega)).mono ?_
  rintro e w3 ⟨hb3, ⟨hn, rfl⟩ | ⟨a3, cap3, q, hq, rfl, ho3⟩⟩
  · have hW3 := hW2.trans (hb3.mono hW2.size)
    clear hb3 hW2 hn
    go_wp2_with fail
    refine (unspell_any _ w3 (by rw [str_snoc]; simp; omega)).mono ?_
    rw [str_snoc]
    rintro e w4 ⟨hb4, ⟨hn, rfl⟩ | ⟨a4, cap4, m, hm, rfl, ho4⟩⟩
    · go_wp2
      go_ret
      exact ⟨rfl, hW3.trans (hb4.mono hW3.size)⟩
    · have hml := un_length _ _ hm
      have hlt : l0.length < m.length := by
        rw [List.length_append, unhide HTl] at hml
        simp at hml
        omega
      clear hml
      go_wp2
      go_ret
      exact ⟨rfl, hW3.trans (hb4.mono hW3.size)⟩
  · have hW3 := hW2.trans (hb3.mono hW2.size)
    have hqs : str (spR q 0 0) = s := str_eq s _ (sp_un _ _ hq)
    have hql := un_length _ _ hq
    rw [str_len] at hql
    clear hb3 hW2 hq
    go_wp2_with fail
    refine (spell_any a3 cap3 q w3 ho3.toBs (by omega)).mono ?_
    rintro e w3' ⟨rfl, hb3'⟩
    rw [hqs]
    have hW3' := hW3.trans (hb3'.mono hW3.size)
    clear hb3' hW3 hql ho3
    go_wp2_with fail
    refine (unspell_any _ w3' (by rw [str_snoc]; simp; omega)).mono ?_
    rw [str_snoc]
    rintro e w4 ⟨hb4, ⟨hn, rfl⟩ | ⟨a4, cap4, m, hm, rfl, ho4⟩⟩
    · go_wp2
      go_ret
      exact ⟨rfl, hW3'.trans (hb4.mono hW3'.size)⟩
    · have hml := un_length _ _ hm
      have hlt : l0.length < m.length := by
        rw [List.length_append, unhide HTl] at hml
        simp at hml
        omega
      clear hml
      go_wp2
      go_ret
      exact ⟨rfl, hW3'.trans (hb4.mono hW3'.size)⟩

theorem wireSpelt_walk (a0 : Option Addr) (cap0 : Nat) (l0 : List UInt8) (s : ByteArray) (w : World) (p0 : Bs w a0 cap0 l0) (w1 : s.size ≤ maxLen) :
    Calls Try.prog 7 #[.slice a0 l0.length cap0, .string s] w fun e w' => e = .returned (.bool true) ∧ Below w.heap.size w w' := by
  by_cases h : 16384 < l0.length ∨ 16384 < s.size
  · exact wireSpelt_big a0 cap0 l0 s w (Nat.le_trans p0.le p0.most) w1 h
  · exact wireSpelt_small a0 cap0 l0 s w p0 (fun h' => h (.inl h')) (fun h' => h (.inr h'))
#print axioms wireSpelt_walk
end Go.Proofs.Ythpalohjjkmhdaa
