/-
  THE WALKS of awake and of LinkPieces.
-/
import Derived.Test.YtfnlcgdclamhcacLnkW
import Derived.Test.YtfnlcgdclamhcacCat
import Derived.Lib.SlBytesConst
set_option linter.unusedVariables false
namespace Go.Proofs.Ytfnlcgdclamhcac
open Go.RowKit Go.Maps

theorem new_net (w : World) : Calls Try.prog 11 #[] w fun e w' => ∃ N bm, e = .returned (.pointer (some ⟨N, 0, none⟩)) ∧ w'.heap[N]? = some (.cells #[.map (some bm), .int .i64 0] 63 (0, 0)) ∧ w'.ownsMap Try.prog 3 ptrElem bm 0 (.map []) ∧ w.heap.size ≤ N ∧ w.heap.size ≤ bm ∧ Below w.heap.size w w' := by
  refine (new_any w).mono ?_
  rintro e w' ⟨rfl, rfl⟩
  refine ⟨w.heap.size + 1, w.heap.size, rfl, ?_, ?_, Nat.le_succ _, Nat.le_refl _, ((Below.refl _ _).alloc (Nat.le_refl _) _).alloc (by simp) _⟩
  · have := heap_alloc_new (w.alloc (.map #[] 0)) (.cells #[.map (some w.heap.size), .int .i64 0] 63)
    simpa using this
  · exact (World.ownsMap_made w Try.prog 3 ptrElem).alloc _

theorem lit_ab (w : World) (m : Nat × Nat) : Bs (w.alloc (.cells #[.int .u8 97, .int .u8 98] 5 m)) (some ⟨w.heap.size, 0, none⟩) 2 [97, 98] := by
  refine ⟨?_, by simp, by unfold maxLen; omega, fun h => by cases h⟩
  intro _
  refine ⟨w.heap.size, 0, rfl, fun i hi => ?_⟩
  have hi' : i < 2 := hi
  rw [World.cell?_alloc_mark]
  match i, hi' with
  | 0, _ => rfl
  | 1, _ => rfl

theorem bs_none (w : World) : Bs w none 0 [] := ⟨fun h => absurd rfl h, Nat.le_refl _, by unfold maxLen; omega, fun _ => rfl⟩

set_option maxRecDepth 20000 in
set_option maxHeartbeats 2000000 in
theorem awake_true (w : World) : Calls Try.prog 10 #[] w fun e w' => e = .returned (.bool true) ∧ Below w.heap.size w w' := by
  have kc := fun (w : World) (C : Array Value) (n c : Nat) => Lib.run_convert_bytes_const (P := Try.prog) w 30 5 C n c Try.underlying30 Try.underlying5
  go_enter Try.func10, Try.ntmps10
  go_wp2_with fail
  refine (new_net w).mono ?_
  rintro e w1 ⟨N, bm, rfl, hN, hm, hN0, hm0, hb1⟩
  have hs1 := hb1.size
  go_wp2_with fail
  refine (dial_new N bm 0 1 w1 (by omega) (by omega) (by omega) (by omega) (by omega) hN hm).mono ?_
  rintro e w2 ⟨rfl, C, hC, hL, hk⟩
  have hb2 : Below w.heap.size w w2 := hk.below hb1 hs1 (fun j hj => by rcases hj with rfl | rfl <;> omega)
  have hs2 := hb2.size
  clear hN hm hk hb1
  go_wp2_with fail
  refine (send_any N bm C 0 1 none 0 [] _ (some ⟨w2.heap.size, 0, none⟩) 2 [97, 98] _ (hL.below ((Below.refl _ _).alloc (Nat.le_refl _) _)) (OwnB.nil _ _) (lit_ab w2 _) (by simp) (Nat.le_refl _)).mono ?_
  rintro e w3 ⟨rfl, x, k, r, hr, hL3, ho3, hk3⟩
  have hr' := unhide hr
  simp only [List.nil_append] at hr'
  subst hr'
  have hb3 : Below w.heap.size w w3 := hk3.below (hb2.alloc hb2.size _) (by simp; omega) (fun j hj => by rcases hj with rfl | h; omega; simp [blk] at h)
  have hx := hL3.con.ne ho3
  have hxn := hL3.neNx ho3
  have hs3 := hb3.size
  clear hL hk3 hr hb2
  go_wp2_with fail
  refine (carry_any N bm C 0 1 x k [97, 98] 1 1 w3 hL3 hx hxn (by omega) (by simp) (by omega) (by omega) (by show _ = _; simp)).mono ?_
  rintro e w4 ⟨a5, cap5, r5, rfl, hr5, ho5, hk5, x', k', hbx, hL5⟩
  have hr5' := unhide hr5
  simp at hr5'
  subst hr5'
  have hb4 : Below w.heap.size w w4 := hk5.below hb3 hs3 (fun j hj => by subst hj; omega)
  have hstr := run_str w4 a5 1 cap5 [97] ho5.toBs.row rfl
  have hsa : str [97] = { data := #[97] } := rfl
  rw [hsa] at hstr
  rw [show [(97 : UInt8)].length = 1 from rfl]
  clear hL3 ho3 hL5 hk5 hr5 kc
  go_wp2
  go_ret
  exact ⟨rfl, hb4⟩
#print axioms awake_true

theorem tmodl (m n : Nat) : (m : Int).tmod (n : Int) = ((m % n : Nat) : Int) := rfl

set_option maxHeartbeats 1000000 in
theorem linkPieces_big (a0 : Option Addr) (cap0 : Nat) (l0 : List UInt8) (a1 : Option Addr) (cap1 : Nat) (l1 : List UInt8) (k : Int) (w : World) (hm0 : l0.length ≤ maxLen) (hm1 : l1.length ≤ maxLen) (h : 65536 < l0.length ∨ 65536 < l1.length) :
    Calls Try.prog 4 #[.slice a0 l0.length cap0, .slice a1 l1.length cap1, .int .i64 k] w fun e w' => e = .returned (.bool true) ∧ Below w.heap.size w w' := by
  unfold maxLen at hm0 hm1
  by_cases h1 : 65536 < l0.length
  · go_enter Try.func4, Try.ntmps4
    go_wp2_with fail
    refine (awake_true w).mono ?_
    rintro e w1 ⟨rfl, hb⟩
    go_wp2
    go_ret
    exact ⟨rfl, hb⟩
  · have h2 : 65536 < l1.length := by omega
    go_enter Try.func4, Try.ntmps4
    go_wp2_with fail
    refine (awake_true w).mono ?_
    rintro e w1 ⟨rfl, hb⟩
    go_wp2
    go_ret
    exact ⟨rfl, hb⟩

theorem two_cells (w : World) (u v : Value) : (w.alloc (.cells #[u, v] 30)).cell? ⟨w.heap.size, 0, none⟩ = some u ∧ (w.alloc (.cells #[u, v] 30)).cell? ⟨w.heap.size, 1, none⟩ = some v :=
  ⟨by rw [cell_of_row _ w.heap.size 0 _ _ _ (heap_alloc_new w _)]; rfl, by rw [cell_of_row _ w.heap.size 1 _ _ _ (heap_alloc_new w _)]; rfl⟩

set_option maxRecDepth 20000 in
set_option maxHeartbeats 4000000 in
theorem linkPieces_small (a0 : Option Addr) (cap0 : Nat) (l0 : List UInt8) (a1 : Option Addr) (cap1 : Nat) (l1 : List UInt8) (k : Int) (w : World) (p0 : Bs w a0 cap0 l0) (p1 : Bs w a1 cap1 l1) (hk0 : -9223372036854775808 ≤ k) (hk1 : k ≤ 9223372036854775807) (h0 : ¬ 65536 < l0.length) (h1 : ¬ 65536 < l1.length) :
    Calls Try.prog 4 #[.slice a0 l0.length cap0, .slice a1 l1.length cap1, .int .i64 k] w fun e w' => e = .returned (.bool true) ∧ Below w.heap.size w w' := by
  go_enter Try.func4, Try.ntmps4
  go_wp2_with fail
  refine (new_net w).mono ?_
  rintro e w1 ⟨N1, m1, rfl, hN1, hm1, hN10, hm10, hb1⟩
  have hs1 := hb1.size
  have lN1 := (Array.getElem?_eq_some_iff.1 hN1).1
  have lm1 := hm1.lt
  go_wp2_with fail
  refine (new_net w1).mono ?_
  rintro e w2 ⟨N2, m2, rfl, hN2, hm2, hN20, hm20, hb2⟩
  have hs2 := hb2.size
  have lN2 := (Array.getElem?_eq_some_iff.1 hN2).1
  have lm2 := hm2.lt
  have hN1' := (hb2.block N1 lN1).trans hN1
  have hm1' := ownsMap_below hm1 hb2 lm1
  have hW2 := hb1.trans (hb2.mono hs1)
  clear hN1 hm1 hb1 hb2
  go_wp2_with fail
  refine (dial_new N1 m1 3 2 w2 (by omega) (by omega) (by omega) (by omega) (by omega) hN1' hm1').mono ?_
  rintro e w3 ⟨rfl, C1, hC1, hL1, hk3⟩
  have hs3 := hk3.size
  have hN2' := (hk3.block N2 lN2 (by rintro (h | h) <;> omega)).trans hN2
  have hm2' : w3.ownsMap Try.prog 3 ptrElem m2 0 (.map []) := by
    obtain ⟨es, clock, q1, q2, q3, q4⟩ := hm2
    exact ⟨es, clock, (hk3.block m2 lm2 (by rintro (h | h) <;> omega)).trans q1, q2, q3, q4⟩
  have hW3 : Below w.heap.size w w3 := hk3.below hW2 hW2.size (fun j hj => by rcases hj with rfl | rfl <;> omega)
  clear hN1' hm1' hN2 hm2 hk3 hW2
  go_wp2_with fail
  refine (dial_new N2 m2 3 2 w3 (by omega) (by omega) (by omega) (by omega) (by omega) hN2' hm2').mono ?_
  rintro e w4 ⟨rfl, C2, hC2, hL2, hk4⟩
  have hs4 := hk4.size
  have lC1 := hL1.con.lt
  have hL1' := hL1.kp hk4 (by rintro (h | h) <;> omega) (by rintro (h | h) <;> omega) (by rintro (h | h) <;> omega) (fun g hg => by simp [blk] at hg)
  have hW4 : Below w.heap.size w w4 := hk4.below hW3 hW3.size (fun j hj => by rcases hj with rfl | rfl <;> omega)
  have hCC : C1 ≠ C2 := by omega
  clear hN2' hm2' hk4 hW3 hL1
  have tc := two_cells w4 (.slice a0 l0.length cap0) (.slice a1 l1.length cap1)
  have hW5 := hW4.alloc hW4.size (.cells #[.slice a0 l0.length cap0, .slice a1 l1.length cap1] 30)
  have p05 := p0.below hW5 (Nat.le_refl _)
  have p15 := p1.below hW5 (Nat.le_refl _)
  have L15 := hL1'.below ((Below.refl _ _).alloc (Nat.le_refl _) (.cells #[.slice a0 l0.length cap0, .slice a1 l1.length cap1] 30))
  have L25 := hL2.below ((Below.refl _ _).alloc (Nat.le_refl _) (.cells #[.slice a0 l0.length cap0, .slice a1 l1.length cap1] 30))
  clear hL1' hL2
  go_wp2_with fail
  refine (concat_two w4.heap.size a0 cap0 l0 a1 cap1 l1 _ p05 p15 tc.1 tc.2 (by omega) (by omega)).mono ?_
  rintro e w6 ⟨a13, cap13, B, rfl, hB, ho13, hb6⟩
  have hW6 := hW5.trans (hb6.mono hW5.size)
  have L16 := L15.below hb6
  have L26 := L25.below hb6
  have p06 := p0.below hW6 (Nat.le_refl _)
  have p16 := p1.below hW6 (Nat.le_refl _)
  have hs6 := hW6.size
  have hBl : B.length ≤ 131072 := by rw [unhide hB, List.length_append]; omega
  have lo13 := ho13.lt
  clear L15 L25 p05 p15 tc hW5 hb6
  -- n.Send(i, 3, a)
  go_wp2_with fail
  refine (send_any N1 m1 C1 3 2 none 0 [] w6.heap.size a0 cap0 l0 w6 L16 (OwnB.nil _ _) p06 (by simp; omega) (Nat.le_refl _)).mono ?_
  rintro e w7 ⟨rfl, x1, k1, r1, hr1, L17, ho1, hk7⟩
  have hr1' := unhide hr1
  simp only [List.nil_append] at hr1'
  subst hr1'
  have hs7 := hk7.size
  have hW7 : Below w.heap.size w w7 := hk7.below hW6 hs6 (fun j hj => by rcases hj with rfl | h; omega; simp [blk] at h)
  have n13 := L16.con.ne ho13
  have ho137 := hk7.own ho13 (fun g hg => by rintro (h | h); subst h; exact n13 hg; simp [blk] at h)
  have L27 := L26.kp hk7 (by rintro (h | h); omega; simp [blk] at h) (by rintro (h | h); omega; simp [blk] at h) (by rintro (h | h); exact hCC h.symm; simp [blk] at h) (fun g hg => by simp [blk] at hg)
  have p17 := p1.below hW7 (Nat.le_refl _)
  have lo1 := ho1.lt
  clear L16 L26 hr1 hk7 n13 ho13 p06 p16 hW6
  -- n.Send(i, 3, b)
  go_wp2_with fail
  refine (send_any N1 m1 C1 3 2 x1 k1 r1 w6.heap.size a1 cap1 l1 w7 L17 ho1 p17 (by omega) hs7).mono ?_
  rintro e w8 ⟨rfl, x2, k2, r2, hr2, L18, ho2, hk8⟩
  have hs8 := hk8.size
  have hW8 : Below w.heap.size w w8 := hk8.below hW7 (by omega) (fun j hj => by rcases hj with rfl | h; omega; have := (lo1 j h).1; omega)
  have n13 := L17.con.ne ho137
  have ho138 := hk8.own ho137 (fun g hg => by
    rintro (h | h)
    · subst h; exact n13 hg
    · have := (lo1 g h).1
      have := (lo13 g hg).2
      omega)
  have nn := L27.neNx ho1
  have nc := L27.con.ne ho1
  have L28 := L27.kp hk8 (by rintro (h | h); have := L17.con.lt; omega; exact nn.1 h) (by rintro (h | h); omega; exact nn.2 h) (by rintro (h | h); exact hCC h.symm; exact nc h) (fun g hg => by simp [blk] at hg)
  have lo2 := ho2.lt
  clear L17 L27 hk8 n13 ho137 ho1 p17 nn nc hW7 lo1
  have p138 := ho138.toBs
  -- m.Send(j, 3, both)
  go_wp2_with fail
  refine (send_any N2 m2 C2 3 2 none 0 [] w8.heap.size a13 cap13 B w8 L28 (OwnB.nil _ _) p138 (by simp; omega) (Nat.le_refl _)).mono ?_
  rintro e w9 ⟨rfl, y1, j1, s1, hsB, L29, hoy, hk9⟩
  have hsB' := unhide hsB
  simp only [List.nil_append] at hsB'
  subst hsB'
  have hs9 := hk9.size
  have hW9 : Below w.heap.size w w9 := hk9.below hW8 (by omega) (fun j hj => by rcases hj with rfl | h; omega; simp [blk] at h)
  have n13 := L28.con.ne ho138
  have ho139 := hk9.own ho138 (fun g hg => by rintro (h | h); subst h; exact n13 hg; simp [blk] at h)
  have nx2 := L28.con.ne ho2
  have L19 := L18.kp hk9 (by rintro (h | h); have := (Array.getElem?_eq_some_iff.1 L18.net).1; omega; simp [blk] at h) (by rintro (h | h); omega; simp [blk] at h) (by rintro (h | h); exact hCC h; simp [blk] at h) (fun g hg => by rintro (h | h); subst h; exact nx2 hg; simp [blk] at h)
  have ho29 := hk9.own ho2 (fun g hg => by rintro (h | h); subst h; exact nx2 hg; simp [blk] at h)
  clear L28 L18 hk9 n13 ho138 p138 nx2 ho2 hsB hW8
  have hr2' : r2 = s1 := by rw [unhide hr2, unhide hB]
  subst hr2'
  clear hr2
  obtain ⟨U, hU⟩ : ∃ U : Nat, IntKind.u64.wrap k = (U : Int) := ⟨(IntKind.u64.wrap k).toNat, by rw [IntKind.wrap_u64]; omega⟩
  obtain ⟨R, hR⟩ : ∃ R, R = U % (r2.length + 1) := ⟨_, rfl⟩
  have hRl : R < r2.length + 1 := by rw [hR]; exact Nat.mod_lt _ (by omega)
  have hR1 : (U : Int).tmod ((r2.length : Int) + 1) = (R : Int) := by rw [hR]; exact tmodl U (r2.length + 1)
  have hR2 : (U : Int) % ((r2.length : Int) + 1) = (R : Int) := by rw [hR]; simp
  clear hR
  have nxC := L19.con.ne ho29
  have nxN := L19.neNx ho29
  -- n.Carry(i, 2, k)
  go_wp2_with fail
  refine (carry_any N1 m1 C1 3 2 x2 k2 r2 (R : Int) R w9 L19 nxC nxN (by omega) (by omega) (by omega) (by omega) (by show _ = _; simp; omega)).mono ?_
  rintro e w10 ⟨a14, cap14, r14, rfl, hr14, ho14, hk10, x3, k3, hx3, L110⟩
  have hs10 := hk10.size
  have hW10 : Below w.heap.size w w10 := hk10.below hW9 (by omega) (fun j hj => by subst hj; omega)
  have n13 := L19.con.ne ho139
  have ho1310 := hk10.own ho139 (fun g hg h => by subst h; exact n13 hg)
  have nyC := L19.con.ne hoy
  have L210 := L29.kp hk10 (by intro h; have := L19.con.lt; omega) (by intro h; omega) (by intro h; exact hCC h.symm) (fun g hg h => by subst h; exact nyC hg)
  have hoy10 := hk10.own hoy (fun g hg h => by subst h; exact nyC hg)
  have nx3 : blk x3 ≠ some C1 ∧ blk x3 ≠ some N1 ∧ blk x3 ≠ some m1 := by
    rcases hx3 with h | h
    · rw [h]; simp
    · rw [h]; exact ⟨nxC, nxN.1, nxN.2⟩
  clear L19 L29 hk10 n13 ho139 nyC hoy nxC nxN hx3 ho29 hW9
  obtain ⟨Q, hQ⟩ : ∃ Q : Nat, Q = r2.length - R := ⟨_, rfl⟩
  have hQi : (r2.length : Int) - (R : Int) = (Q : Int) := by omega
  have hdl : (r2.drop R).length = Q := by rw [List.length_drop, hQ]
  have hQl : Q ≤ 131072 := by omega
  have HQ := hide hQ
  clear hQ
  -- n.Carry(i, 2, len(both)-k)
  go_wp2_with fail
  refine (carry_any N1 m1 C1 3 2 x3 k3 (r2.drop R) (Q : Int) Q w10 L110 nx3.1 nx3.2 (by omega) (by omega) (by omega) (by omega) (by show _ = _; rw [hdl]; simp)).mono ?_
  rintro e w11 ⟨a15, cap15, r15, rfl, hr15, ho15, hk11, x4, k4, hx4, L111⟩
  have hs11 := hk11.size
  have hW11 : Below w.heap.size w w11 := hk11.below hW10 (by omega) (fun j hj => by subst hj; omega)
  have n13 := L110.con.ne ho1310
  have ho1311 := hk11.own ho1310 (fun g hg h => by subst h; exact n13 hg)
  have n14 := L110.con.ne ho14
  have ho1411 := hk11.own ho14 (fun g hg h => by subst h; exact n14 hg)
  have nyC := L110.con.ne hoy10
  have L211 := L210.kp hk11 (by intro h; have := L110.con.lt; omega) (by intro h; omega) (by intro h; exact hCC h.symm) (fun g hg h => by subst h; exact nyC hg)
  have hoy11 := hk11.own hoy10 (fun g hg h => by subst h; exact nyC hg)
  have nyC2 := L211.con.ne hoy11
  have nyN2 := L211.neNx hoy11
  clear L110 L210 hk11 n13 ho1310 n14 ho14 nyC hoy10 L111 hx4 nx3 hW10
  -- m.Carry(j, 2, len(both))
  go_wp2_with fail
  refine (carry_any N2 m2 C2 3 2 y1 j1 r2 (r2.length : Int) r2.length w11 L211 nyC2 nyN2 (by omega) (by omega) (by omega) (by omega) (by show _ = _; simp)).mono ?_
  rintro e w12 ⟨a16, cap16, r16, rfl, hr16, ho16, hk12, x5, k5, hx5, L212⟩
  have hs12 := hk12.size
  have hW12 : Below w.heap.size w w12 := hk12.below hW11 (by omega) (fun j hj => by subst hj; omega)
  have n13 := L211.con.ne ho1311
  have ho1312 := hk12.own ho1311 (fun g hg h => by subst h; exact n13 hg)
  have n14 := L211.con.ne ho1411
  have ho1412 := hk12.own ho1411 (fun g hg h => by subst h; exact n14 hg)
  have n15 := L211.con.ne ho15
  have ho1512 := hk12.own ho15 (fun g hg h => by subst h; exact n15 hg)
  clear L211 hk12 n13 n14 n15 ho1311 ho1411 ho15 nyC2 nyN2 hoy11 hx5 L212 hW11
  have h14l : r14.length ≤ 131072 := by rw [unhide hr14]; simp; omega
  have h15l : r15.length ≤ 131072 := by rw [unhide hr15]; simp; omega
  have e16 : r2 = r16 := by rw [unhide hr16]; simp
  subst e16
  have HJ : Hid (r14 ++ r15 = r2) := by
    show _ = _
    rw [unhide hr14, unhide hr15]
    have : (r2.drop R).take Q = r2.drop R := List.take_of_length_le (by omega)
    rw [this, List.take_append_drop]
  clear hr14 hr15 hr16 hdl hQi
  have tc := two_cells w12 (.slice a14 r14.length cap14) (.slice a15 r15.length cap15)
  have hW13 := hW12.alloc hW12.size (.cells #[.slice a14 r14.length cap14, .slice a15 r15.length cap15] 30)
  go_wp2_with fail
  refine (concat_two w12.heap.size a14 cap14 r14 a15 cap15 r15 _ (ho1412.toBs.alloc _) (ho1512.toBs.alloc _) tc.1 tc.2 (by omega) (by omega)).mono ?_
  rintro e w14 ⟨a17, cap17, D, rfl, hD, ho17, hb14⟩
  have eD : D = r2 := by rw [unhide hD, unhide HJ]
  subst eD
  have hW14 := hW13.trans (hb14.mono hW13.size)
  have ho1314 := (ho1312.alloc _).below hb14 (Nat.le_refl _)
  have ho1614 := (ho16.alloc _).below hb14 (Nat.le_refl _)
  clear tc hD HJ hb14 ho1412 ho1512 ho1312 ho16 hW12 hW13
  go_wp2_with fail
  refine (eqs_n a17 cap17 D a13 cap13 D D.length D.length w14 ho17.toBs.row ho1314.toBs.row rfl rfl (by omega) (by omega)).mono ?_
  rintro e w15 ⟨rfl, hb15⟩
  rw [show (D == D) = true by simp]
  have hW15 := hW14.trans (hb15.mono hW14.size)
  have ho1315 := ho1314.below hb15 (Nat.le_refl _)
  have ho1615 := ho1614.below hb15 (Nat.le_refl _)
  clear hb15 hW14 ho1314 ho1614 ho17
  go_wp2_with fail
  refine (eqs_n a16 cap16 D a13 cap13 D D.length D.length w15 ho1615.toBs.row ho1315.toBs.row rfl rfl (by omega) (by omega)).mono ?_
  rintro e w16 ⟨rfl, hb16⟩
  rw [show (D == D) = true by simp]
  have hW16 := hW15.trans (hb16.mono hW15.size)
  go_wp2
  go_ret
  exact ⟨rfl, hW16⟩

theorem wf_i64 {n : Int} (h : (Lit.int .i64 n).wf = true) : -9223372036854775808 ≤ n ∧ n ≤ 9223372036854775807 := by
  simp [Lit.wf, IntKind.min, IntKind.max, IntKind.bits, IntKind.signed] at h
  omega
theorem linkPieces_walk (a0 : Option Addr) (cap0 : Nat) (l0 : List UInt8) (a1 : Option Addr) (cap1 : Nat) (l1 : List UInt8) (k : Int) (w : World) (p0 : Bs w a0 cap0 l0) (p1 : Bs w a1 cap1 l1) (w2 : (Lit.int .i64 k).wf = true) :
    Calls Try.prog 4 #[.slice a0 l0.length cap0, .slice a1 l1.length cap1, .int .i64 k] w fun e w' => e = .returned (.bool true) ∧ Below w.heap.size w w' := by
  by_cases h : 65536 < l0.length ∨ 65536 < l1.length
  · exact linkPieces_big a0 cap0 l0 a1 cap1 l1 k w (Nat.le_trans p0.le p0.most) (Nat.le_trans p1.le p1.most) h
  · exact linkPieces_small a0 cap0 l0 a1 cap1 l1 k w p0 p1 (wf_i64 w2).1 (wf_i64 w2).2 (fun h' => h (.inl h')) (fun h' => h (.inr h'))
#print axioms linkPieces_walk
end Go.Proofs.Ytfnlcgdclamhcac
