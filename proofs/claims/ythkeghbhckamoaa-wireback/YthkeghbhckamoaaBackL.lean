/-
  THE WALK OF WireBack.
-/
import Derived.Test.YthkeghbhckamoaaBackM
set_option linter.unusedVariables false
namespace Go.Proofs.Ythkeghbhckamoaa
open Go.RowKit

set_option maxHeartbeats 4000000 in
theorem wireBack_small (n : Int) (s : ByteArray) (a2 : Option Addr) (cap2 : Nat) (l2 : List UInt8) (a3 : Option Addr) (cap3 : Nat) (l3 : List UInt8) (w : World) (hn0 : -9223372036854775808 ≤ n) (hn1 : n ≤ 9223372036854775807) (p2 : Bs w a2 cap2 l2) (p3 : Bs w a3 cap3 l3) (h1 : ¬ 262144 < s.size) (h2 : ¬ 262144 < l2.length) (h3 : ¬ 262144 < l3.length) :
    Calls Try.prog 8 #[.int .i64 n, .string s, .slice a2 l2.length cap2, .slice a3 l3.length cap3] w fun e w' => e = .returned (.bool true) ∧ Below w.heap.size w w' := by
  obtain ⟨N, hN⟩ : ∃ N : Nat, max n 0 = (N : Int) := ⟨n.toNat, by omega⟩
  have hNn : n.toNat = N := by omega
  have hNb : N ≤ 9223372036854775807 := by omega
  have HN := hide hNn
  clear hNn
  have hfl := form_le N
  have hfs := form_le s.size
  go_enter Try.func8, Try.ntmps8
  go_wp2_with fail
  refine (number_any none 0 [] n w (bs_nil w) (by simp) hn0 hn1).mono ?_
  rintro e v1 ⟨b1, c1, r1, rfl, hr1, ho1, hb1⟩
  have HR1 : Hid (r1 = form N) := by show _ = _; rw [hr1.out, HN.out]; simp
  have hl1 : r1.length ≤ 9 := by rw [HR1.out]; exact hfl.2
  clear hr1
  go_wp2_with fail
  refine (text_any b1 c1 r1 s v1 ho1.toBs (by omega) (by omega)).mono ?_
  rintro e v2 ⟨b2, c2, r2, rfl, hr2, ho2, hb2⟩
  have HR2 : Hid (r2 = form N ++ (form s.size ++ s.data.toList)) := by show _ = _; rw [hr2.out, HR1.out]
  have HSL : Hid (s.data.toList.length = s.size) := by show _ = _; rw [Array.length_toList]; rfl
  have hl2 : r2.length ≤ 262200 := by rw [HR2.out]; simp only [List.length_append, HSL.out]; omega
  have hW2 := hb1.trans (hb2.mono hb1.size)
  have hb2s := hb2.size
  have p3' := p3.below hW2 (Nat.le_refl _)
  clear hr2 HR1
  go_wp2_with (at_builtin; refine wp_app _ rfl _ _ rfl v1.heap.size b2 c2 r2 rfl ho2 a3 cap3 l3 _ rfl rfl p3'.row p3'.nz ?c1 hb2s ?_)
  case c1 => omega
  intro b3 c3 r3 v3 hr3 ho3 hg3
  have hb3 : Below v1.heap.size v1 v3 := below_grown hb2 hg3 (Nat.le_refl _) (fun k hk => (ho2.lt k hk).1)
  have hW3 := hb1.trans (hb3.mono hb1.size)
  have HR3 : Hid (r3 = form N ++ (form s.size ++ (s.data.toList ++ l3))) := by show _ = _; rw [hr3.out, HR2.out]; simp
  have hl3 : r3.length ≤ 600000 := by rw [hr3.out]; simp only [List.length_append]; omega
  clear hr3 hg3 hb3 hb2 HR2 ho2 p3' hW2 hb2s
  go_wp2_with fail
  refine (from_any b3 _ c3 r3 v3 ho3.toBs rfl (by omega)).mono ?_
  rintro e v4 ⟨C4, b4, c4, rfl, hC4, hC4l, _, hb4⟩
  have hW4 := hW3.trans (hb4.mono hW3.size)
  have hC4g : w.heap.size ≤ C4 := by have := hW3.size; omega
  clear hb4 hW3 hC4l ho3
  go_wp2_with fail
  refine (cnumber_any C4 b4 c4 r3 0 v4 hC4).mono ?_
  rintro e v5 ⟨N5, S5, E5, rfl, hr5, hC5, hg5⟩
  have hq := hr5.out
  rw [List.drop_zero, HR3.out, rd_form N hNb] at hq
  simp only [Prod.mk.injEq] at hq
  obtain ⟨e5, e5', e5''⟩ := hq
  subst e5''
  have hW5 := below_cur hW4 hg5 hW4.size hC4g
  have HS5 := hide e5'
  obtain rfl : N5 = N := e5
  clear hr5 hg5 hW4 hC4 e5'
  go_wp2_with fail
  refine (ctext_any C4 b4 c4 r3 (0 + S5) (s.size : Int) v5 hC5 (by omega) (by omega)).mono ?_
  rintro e v6 ⟨t6, E6, S6, rfl, hr6, hC6, hg6⟩
  have hq := hr6.out
  have hdrop : r3.drop (0 + S5) = form s.size ++ (s.data.toList ++ l3) := by
    rw [HR3.out, HS5.out, Nat.zero_add, List.drop_append_of_le_length (Nat.le_refl _), List.drop_of_length_le (Nat.le_refl _), List.nil_append]
  have htf := tx_front s.data.toList l3 (by rw [HSL.out]; omega)
  rw [HSL.out] at htf
  rw [hdrop, htf] at hq
  simp only [Prod.mk.injEq] at hq
  obtain ⟨e6, e6', e6''⟩ := hq
  subst e6'
  have hts : str t6 = s := by rw [e6]; exact str_eta s
  have hW6 := below_cur hW5 hg6 hW5.size hC4g
  have HE6 := hide e6''
  rw [hts]
  have hss : (s.toList == s.toList) = true := beq_self_eq_true _
  clear hr6 hg6 hW5 hC5 e6 e6'' hts htf hdrop
  have hNm : ((N5 : Int) != (N5 : Int)) = false := by simp
  go_wp2_with fail
  refine (crest_any C4 b4 c4 r3 (0 + S5 + S6) v6 hC6).mono ?_
  rintro e v7 ⟨b7, c7, r7, rfl, hr7, ho7, hC7, hg7⟩
  have hr7' : r7 = l3 := by
    rw [hr7.out, HR3.out, HS5.out, HE6.out, Nat.zero_add]
    rw [show (form N5).length + ((form s.size).length + s.size) = (form N5 ++ (form s.size ++ s.data.toList)).length by simp [HSL.out]]
    rw [show form N5 ++ (form s.size ++ (s.data.toList ++ l3)) = (form N5 ++ (form s.size ++ s.data.toList)) ++ l3 by simp]
    simp
  subst hr7'
  have hW7 := below_cur hW6 hg7 hW6.size hC4g
  have hll : (r7 == r7) = true := beq_self_eq_true _
  clear hr7 hg7 hW6 hC6 HS5 HE6 HR3
  go_wp2_with fail
  refine (equal_any b7 _ c7 r7 a3 _ cap3 r7 v7 ho7.toBs.row (p3.below hW7 (Nat.le_refl _)).row rfl rfl).mono ?_
  rintro e v8 ⟨rfl, rfl⟩
  go_wp2_with fail
  refine (cend_any C4 b4 c4 r3 r3.length v8 hC7).mono ?_
  rintro e v9 ⟨rfl, hC9, hg9⟩
  rw [if_neg (by omega)]
  have hW9 := below_cur hW7 hg9 hW7.size hC4g
  clear hg9 hW7 hC7 hC9 ho7 ho1 hb1
  go_wp2_with fail
  by_cases h65 : 65536 < l2.length
  · refine (frame_big a2 _ cap2 v9 h65).mono ?_
    rintro e v10 ⟨rfl, rfl⟩
    go_wp2
    go_ret
    exact ⟨rfl, hW9⟩
  · have p2' := p2.below hW9 (Nat.le_refl _)
    refine (frame_ok a2 _ cap2 l2 v9 p2' rfl h65).mono ?_
    rintro e v10 ⟨b10, c10, f, rfl, hr10, ho10, hb10⟩
    have HF := hide (show f = frameOf l2 from hr10.out)
    have HFL : Hid (f.length = l2.length + 7) := by show _ = _; rw [HF.out, frameOf_length]
    have hfl' : f.length ≤ 65543 := by rw [HFL.out]; omega
    have hW10 := hW9.trans (hb10.mono hW9.size)
    have p3' := p3.below hW10 (Nat.le_refl _)
    have hcz : ∀ c : Array Value, (v10.alloc (.cells c 22)).heap[v10.heap.size]? = some (.cells c 22) := fun c => heap_alloc_new v10 _
    have q1 : (v10.alloc (.cells #[.slice b10 f.length c10, .slice a3 r7.length cap3] 22)).cell? ⟨v10.heap.size, 0, none⟩ = some (.slice b10 f.length c10) := by rw [cell_of_row _ v10.heap.size 0 _ _ _ (heap_alloc_new v10 _)]; rfl
    have q2 : (v10.alloc (.cells #[.slice b10 f.length c10, .slice a3 r7.length cap3] 22)).cell? ⟨v10.heap.size, 1, none⟩ = some (.slice a3 r7.length cap3) := by rw [cell_of_row _ v10.heap.size 1 _ _ _ (heap_alloc_new v10 _)]; rfl
    have HC := hide (concat_two v10.heap.size b10 c10 f a3 cap3 r7 _ (ho10.toBs.alloc _) (p3'.alloc _) q1 q2 (by omega) (by omega))
    clear q1 q2 hcz hr10 hb10
    go_wp2_with fail
    refine (unhide HC).mono ?_
    rintro e v11 ⟨b11, c11, g, rfl, hr11, ho11, hb11⟩
    have hW11 : Below w.heap.size w v11 := (hW10.alloc hW10.size _).trans (hb11.mono (by have := hW10.size; simp; omega))
    go_wp2_with fail
    refine (unframe_any b11 _ c11 g v11 ho11.toBs rfl).mono ?_
    rintro e v12 ⟨b12, c12, q, N12, E12, rfl, hr12, ho12, hb12⟩
    have hq := hr12.out
    rw [hr11.out, HF.out, unframe_front l2 r7 (by omega)] at hq
    simp only [Prod.mk.injEq] at hq
    obtain ⟨e1, e2, e3⟩ := hq
    subst e3
    obtain rfl : l2 = q := e1.symm
    have hN12 : (N12 : Int) = (l2.length : Int) + 7 := by omega
    have hW12 := hW11.trans (hb12.mono hW11.size)
    have hb1 : ((N12 : Int) == (f.length : Int)) = true := by rw [beq_iff_eq]; have := HFL.out; omega
    have hb2 : ((N12 : Int) == (l2.length : Int) + 7) = true := by rw [beq_iff_eq]; omega
    have hqq : (l2 == l2) = true := beq_self_eq_true _
    clear hr12 hr11 HF HFL e2 hN12 HC hb11 hb12 e1
    go_wp2_with fail
    refine (equal_any b12 _ c12 l2 a2 _ cap2 l2 v12 ho12.toBs.row (p2.below hW12 (Nat.le_refl _)).row rfl rfl).mono ?_
    rintro e v13 ⟨rfl, rfl⟩
    go_wp2
    go_ret
    exact ⟨rfl, hW12⟩

theorem wireBack_walk (n : Int) (s : ByteArray) (a2 : Option Addr) (cap2 : Nat) (l2 : List UInt8) (a3 : Option Addr) (cap3 : Nat) (l3 : List UInt8) (w : World) (w0 : (Lit.int .i64 n).wf = true) (w1 : s.size ≤ maxLen) (p2 : Bs w a2 cap2 l2) (p3 : Bs w a3 cap3 l3) :
    Calls Try.prog 8 #[.int .i64 n, .string s, .slice a2 l2.length cap2, .slice a3 l3.length cap3] w fun e w' => e = .returned (.bool true) ∧ Below w.heap.size w w' := by
  by_cases h : 262144 < s.size ∨ 262144 < l2.length ∨ 262144 < l3.length
  · exact wireBack_big n s a2 cap2 l2 a3 cap3 l3 w w1 (Nat.le_trans p2.le p2.most) (Nat.le_trans p3.le p3.most) h
  · exact wireBack_small n s a2 cap2 l2 a3 cap3 l3 w (wf_i64 w0).1 (wf_i64 w0).2 p2 p3 (fun h' => h (.inl h')) (fun h' => h (.inr (.inl h'))) (fun h' => h (.inr (.inr h')))
#print axioms wireBack_walk
end Go.Proofs.Ythkeghbhckamoaa
