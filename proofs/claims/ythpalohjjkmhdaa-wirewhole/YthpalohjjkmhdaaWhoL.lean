/-
  THE WALK OF WireWhole.
-/
import Derived.Test.YthpalohjjkmhdaaWhoM
import Derived.Test.YthpalohjjkmhdaaFrsW
set_option linter.unusedVariables false
namespace Go.Proofs.Ythpalohjjkmhdaa
open Go.RowKit

theorem sum_nil'' (w : World) : Calls Try.prog 8 #[.slice none 0 0] w fun e w' => e = .returned (.int .u32 0) ∧ w' = w := by
  refine (wsum_none none 0 w).mono ?_
  rintro e w' ⟨rfl, rfl⟩
  exact ⟨ret_int (by decide +kernel), rfl⟩
theorem wf_i64' {n : Int} (h : (Lit.int .i64 n).wf = true) : -9223372036854775808 ≤ n ∧ n ≤ 9223372036854775807 := by
  simp [Lit.wf, IntKind.min, IntKind.max, IntKind.bits, IntKind.signed] at h
  omega
theorem tmodw (m n : Nat) : (m : Int).tmod (n : Int) = ((m % n : Nat) : Int) := rfl

theorem frames_n (a : Option Addr) (cap n : Nat) (l : List UInt8) (w : World) (hn : n = l.length) (hB : Bs w a cap l) (hl : l.length ≤ 50000000) :
    Calls Try.prog 10 #[.slice a n cap] w fun e w' => ∃ a' cap' vs, e = .returned (.tuple #[.slice a' vs.length cap', .int .i64 (((frs l).2 : Nat) : Int)]) ∧ OwnS w' w.heap.size a' cap' vs ∧ Pays w' w.heap.size vs (frs l).1 ∧ Below w.heap.size w w' := by
  subst hn
  exact frames_any a cap l w hB hl

set_option maxHeartbeats 1000000 in
theorem wireWhole_big (a0 : Option Addr) (cap0 V : Nat) (k : Int) (w : World) (hm : V ≤ maxLen) (h1 : 50 < V) :
    Calls Try.prog 5 #[.slice a0 V cap0, .int .i64 k] w fun e w' => e = .returned (.bool true) ∧ Below w.heap.size w w' := by
  unfold maxLen at hm
  go_enter Try.func5, Try.ntmps5
  go_wp2_with fail
  refine (sum_nil'' w).mono ?_
  rintro e w1 ⟨rfl, rfl⟩
  go_wp2
  go_ret
  exact ⟨rfl, Below.refl _ _⟩

set_option maxHeartbeats 1000000 in
theorem wireWhole_small (a0 : Option Addr) (cap0 V : Nat) (vs : List Sl) (ps : List (List UInt8)) (k : Int) (w : World) (HV : Hid (V = vs.length)) (p0 : SRB w a0 cap0 vs ps) (h0 : ¬ 50 < V) (hk0 : -9223372036854775808 ≤ k) (hk1 : k ≤ 9223372036854775807) :
    Calls Try.prog 5 #[.slice a0 V cap0, .int .i64 k] w fun e w' => e = .returned (.bool true) ∧ Below w.heap.size w w' := by
  have HPl : Hid (V = ps.length) := by show _ = _; rw [unhide HV]; exact p0.sr.len
  go_enter Try.func5, Try.ntmps5
  go_wp2
  go_loopw [5, 6, 21] (fun b e i wr => ∃ (j : Nat) (a5 : Option Addr) (cap5 : Nat) (B : List UInt8) (a6 : Option Addr) (cap6 : Nat) (E : List Nat), j ≤ V ∧ i = .int .i64 (j : Int) ∧ b = .slice a5 B.length cap5 ∧ e = .slice a6 E.length cap6 ∧ B.length ≤ 200000 ∧ Hid (B = cat (ps.take j)) ∧ Hid (E = endsL ps j) ∧ Hid (∀ p ∈ ps.take j, p.length ≤ 65536) ∧ OwnB wr w.heap.size a5 cap5 B ∧ OwnI wr w.heap.size a6 cap6 E ∧ Below w.heap.size w wr) (fun _ _ i _ => V - (intOf i).toNat)
  case atStart => exact ⟨0, none, 0, [], none, 0, [], Nat.zero_le _, rfl, rfl, rfl, by simp, (by show _ = _; simp [cat]), rfl, (by intro p hp; simp at hp), OwnB.nil _ _, OwnI.nil _ _, Below.refl _ _⟩
  case round =>
    obtain ⟨j, a5, cap5, B, a6, cap6, E, hj, rfl, rfl, rfl, hBl, HB, HE, HP, ho5, ho6, hb⟩ := hrel
    have hbs := hb.size
    by_cases hlt : j < V
    · have hjp : j < ps.length := by have := unhide HPl; omega
      have hjv : j < vs.length := by have := unhide HV; omega
      obtain ⟨p, hp⟩ : ∃ p, ps[j]? = some p := ⟨_, List.getElem?_eq_getElem hjp⟩
      obtain ⟨c, d, hv, hbp⟩ := p0.pay j p hp
      obtain ⟨b0, off0, rfl, hc0⟩ := p0.sr.row (by intro e; subst e; simp at hjv)
      have hcj := hc0 j _ hv
      simp only at hcj
      have hcw : wr.cell? ⟨b0, off0 + j, none⟩ = some (.slice c p.length d) := by
        rw [hb.cell (World.block_lt_of_cell? w _ hcj)]; exact hcj
      have HBp := hide (hbp.below hb (Nat.le_refl _))
      have hpm : p.length ≤ 9223372036854775807 := by have := hbp.le; have := hbp.most; unfold maxLen at this; omega
      clear hc0 hcj hv hbp
      have Hp := hide hp
      clear hp
      by_cases hbig : 65536 < p.length
      · go_wp2_with fail
        refine (frame_big c _ d wr hbig).mono ?_
        rintro e w1 ⟨rfl, rfl⟩
        go_wp2
        go_ret
        exact ⟨rfl, hb⟩
      · go_wp2_with fail
        refine (frame_ok c _ d p wr (unhide HBp) rfl hbig).mono ?_
        rintro e w1 ⟨a1, cap1, f, rfl, hr1, ho1, hb1⟩
        have hfl : f.length = p.length + 7 := by rw [unhide hr1, frameOf_length]
        have hW1 := hb.trans (hb1.mono hb.size)
        have ho51 := ho5.below hb1 (Nat.le_refl _)
        have ho61 := ho6.below hb1 (Nat.le_refl _)
        have hw1s := hW1.size
        have hfm : f.length ≤ 65543 := by omega
        clear ho5 ho6 HBp hfl hb
        by_cases hB2 : 65536 < B.length
        · go_wp2
          go_ret
          exact ⟨rfl, hW1⟩
        · have HB2 : Hid (B ++ f = cat (ps.take (j + 1))) := by
            show _ = _
            rw [cat_take ps j p (unhide Hp), unhide HB, unhide hr1]
          have HP2 : Hid (∀ q ∈ ps.take (j + 1), q.length ≤ 65536) := by
            intro q hq
            rw [List.take_add_one, unhide Hp] at hq
            rcases List.mem_append.1 hq with h | h
            · exact unhide HP q h
            · simp at h; subst h; omega
          have HE2 : Hid (E ++ [(B ++ f).length] = endsL ps (j + 1)) := by
            show _ = _
            rw [endsL_succ, unhide HE, unhide HB2]
            rfl
          clear HB HP HE hr1
          go_wp2_with (at_builtin; refine wp_app _ rfl _ _ rfl w.heap.size a5 cap5 B rfl ho51 a1 cap1 f f.length rfl rfl ho1.toBs.row ho1.toBs.nz ?c5 ?c6 ?_)
          case c5 => first | omega | (simp; omega)
          case c6 => first | omega | (simp; omega)
          intro a2 cap2 B2 w2 hr2 ho2 hg2
          have hb2 : Below w.heap.size w w2 := below_grown hW1 hg2 (Nat.le_refl _) (fun i hi => (ho51.lt i hi).1)
          have ho62 := ho61.kept hg2 (ho61.ne ho51)
          have hb2s := hb2.size
          have hB2l : B2.length ≤ 200000 := by rw [unhide hr2, List.length_append]; omega
          rw [← unhide hr2] at HB2 HE2
          have hEl : E.length ≤ 50 := by
            have := congrArg List.length (unhide HE2)
            simp [endsL_length] at this
            omega
          clear hr2 hg2 ho51 ho61 ho1 hW1
          go_wp2_with (at_builtin; refine wp_appi _ rfl _ _ rfl w.heap.size a6 cap6 E rfl (ho62.alloc _) w2.heap.size 1 B2.length rfl (cell_liti _ _ _ rfl) ?c5 ?c6 ?_)
          case c5 => omega
          case c6 => first | omega | (simp; omega)
          intro a3 cap3 E2 w3 hr3 ho3 hg3
          have hb3 : Below w.heap.size w w3 := below_grown (hb2.alloc hb2.size _) hg3 (Nat.le_refl _) (fun i hi => (ho62.lt i hi).1)
          have ho23 : OwnB w3 w.heap.size a2 cap2 B2 := (ho2.alloc _).kept hg3 (by
            rcases ho62.ne ho2 with h | h
            · cases hb : blk a2 with
              | none => exact .inl rfl
              | some x => right; rw [h]; simp
            · exact .inr (Ne.symm h))
          rw [← unhide hr3] at HE2
          clear hr3 hg3 ho62 ho2 hb2
          go_wp2
          go_roundw
          case rel => exact ⟨j + 1, a2, cap2, B2, a3, cap3, E2, by omega, by go_num, rfl, rfl, hB2l, HB2, HE2, HP2, ho23, ho3, hb3⟩
          case measure => simp [intOf]; omega
    · obtain rfl : j = V := by omega
      have hall : ps.take j = ps := List.take_of_length_le (by have := unhide HPl; omega)
      rw [hall] at HB HP
      clear hall
      have hE1 : j ≤ E.length := by rw [unhide HE, endsL_length]; exact Nat.le_refl _
      have hE2 : E.length ≤ j := by rw [unhide HE, endsL_length]; exact Nat.le_refl _
      obtain ⟨U, hU⟩ : ∃ U : Nat, IntKind.u64.wrap k = (U : Int) := ⟨(IntKind.u64.wrap k).toNat, by rw [IntKind.wrap_u64]; omega⟩
      obtain ⟨R, hR⟩ : ∃ R, R = U % (B.length + 1) := ⟨_, rfl⟩
      have hRl : R < B.length + 1 := by rw [hR]; exact Nat.mod_lt _ (by omega)
      have hR1 : (U : Int).tmod ((B.length : Int) + 1) = (R : Int) := by rw [hR]; exact tmodw U (B.length + 1)
      have hR2 : (U : Int) % ((B.length : Int) + 1) = (R : Int) := by rw [hR]; simp
      have hBc := ho5.toBs.le
      clear hR
      go_wp2
      go_loop [11] (fun v => ∃ n : Nat, n ≤ j ∧ v = .int .i64 (n : Int) ∧ Hid (endAt ps n ≤ R)) (fun v => j - (intOf v).toNat)
      case atStart => exact ⟨0, Nat.zero_le _, rfl, (by show _ ≤ _; rw [endAt_zero]; omega)⟩
      case round =>
        obtain ⟨n, hn, rfl, Hn⟩ := hrel
        by_cases hnj : n < j
        · obtain ⟨g6, ea6, _, _, hc6⟩ := ho6.some (by omega)
          have hcn := hc6 n (by omega)
          have hEn : E.getD n 0 = endAt ps (n + 1) := by rw [unhide HE]; exact endsL_get ps _ n (by omega)
          rw [hEn] at hcn
          clear hc6 hEn
          have hnE : n < E.length := by omega
          have hnE2 : (n : Int) < (E.length : Int) := by omega
          by_cases hD : endAt ps (n + 1) ≤ R
          · have HD := hide hD
            generalize hDD : endAt ps (n + 1) = D at hcn hD
            clear hDD
            subst ea6
            go_wp2
            go_round
            case rel => exact ⟨n + 1, by omega, by go_num, HD⟩
            case measure => simp [intOf]; omega
          · have Hx : Hid (n = j ∨ R < endAt ps (n + 1)) := .inr (by omega)
            generalize hDD : endAt ps (n + 1) = D at hcn hD
            clear hDD
            subst ea6
            obtain ⟨a5', hs5, hB5⟩ := slice_head a5 B.length cap5 R B (by omega) hBc (fun h => by obtain ⟨b, off, e, _⟩ := ho5.toBs.row h; exact ⟨b, off, e⟩)
            have hs5' := hs5 wr
            have HBt := hide (hB5 wr ho5.toBs)
            have HF : Hid (frs (B.take R) = (ps.take n, endAt ps n)) := by
              show _ = _
              rw [unhide HB]
              exact frs_whole ps R n (unhide HP) (by have := unhide HPl; omega) (unhide Hn) (by have := unhide HPl; rcases unhide Hx with h | h; exact .inl (by omega); exact .inr h) (by rw [← unhide HB]; omega)
            have HRl := hide (show R = (B.take R).length by simp; omega)
            clear hs5 hB5
            obtain ⟨a0', hs0, hS0⟩ := slice_headS a0 j cap0 n vs (by have := unhide HV; omega) p0.le (fun h => by obtain ⟨b, off, e, _⟩ := p0.sr.row h; exact ⟨b, off, e⟩)
            have HS0 := hide hS0
            clear hS0
            go_wp2_with fail
            refine (frames_n a5' cap5 R (B.take R) wr (unhide HRl) (unhide HBt) (by simp; omega)).mono ?_
            rintro e w2 ⟨a7, cap7, us, rfl, ho7, hp7, hb2⟩
            rw [unhide HF] at hp7 ⊢
            have hW2 := hb.trans (hb2.mono hb.size)
            have ho62 := ho6.below hb2 (Nat.le_refl _)
            have hs0' := hs0 w2
            have p02 := p0.below hW2
            have HSR := hide (unhide HS0 w2 ps p02.sr)
            have hul : us.length ≤ 50 := by have := hp7.len; simp at this; omega
            have HNl := hide (show n = (vs.take n).length by simp; have := unhide HV; omega)
            clear hs0 hs5' HBt HF HRl ho5 HB HP hb2 hb
            have hself : (ps.take n == ps.take n) = true := by simp
            by_cases hn0 : n = 0
            · subst hn0
              rw [endAt_zero]
              rw [show ((0 : Nat) : Int) = 0 from rfl] at hs0' ⊢
              go_wp2_with fail
              refine (eqfunc_n a7 cap7 us (ps.take 0) a0' cap0 (vs.take 0) (ps.take 0) w2 us.length 0 rfl HNl (SR.of ho7 hp7) (unhide HSR) (by omega) (by omega)).mono ?_
              rintro e w3 ⟨rfl, rfl⟩
              rw [hself]
              clear hself HSR hp7 ho7
              go_wp2
              go_ret
              exact ⟨rfl, hW2⟩
            · obtain ⟨m, hm⟩ : ∃ m, n = m + 1 := ⟨n - 1, by omega⟩
              obtain ⟨g6, ea7, _, _, hc6⟩ := ho62.some (by omega)
              cases ea7
              have hcm := hc6 m (by omega)
              have hEm : E.getD m 0 = endAt ps n := by rw [unhide HE, hm]; exact endsL_get ps _ m (by omega)
              rw [hEm] at hcm
              clear hc6 hEm HE
              have hm1 : (n : Int) - 1 = (m : Int) := by omega
              have hmE : m < E.length := by omega
              have hmE2 : (m : Int) < (E.length : Int) := by omega
              have hnp : 0 < n := by omega
              have hnp2 : (0 : Int) < (n : Int) := by omega
              have hnz : ((n : Int) == 0) = false := by simp; omega
              clear hm
              generalize endAt ps n = D at *
              go_wp2_with fail
              refine (eqfunc_n a7 cap7 us (ps.take n) a0' cap0 (vs.take n) (ps.take n) w2 us.length n rfl HNl (SR.of ho7 hp7) (unhide HSR) (by omega) (by omega)).mono ?_
              rintro e w3 ⟨rfl, rfl⟩
              rw [hself]
              clear hself HSR hp7 ho7
              go_wp2
              go_ret
              exact ⟨rfl, hW2⟩
        · obtain rfl : n = j := by omega
          have Hx : Hid (n = n ∨ R < endAt ps (n + 1)) := .inl rfl
          obtain ⟨a5', hs5, hB5⟩ := slice_head a5 B.length cap5 R B (by omega) hBc (fun h => by obtain ⟨b, off, e, _⟩ := ho5.toBs.row h; exact ⟨b, off, e⟩)
          have hs5' := hs5 wr
          have HBt := hide (hB5 wr ho5.toBs)
          have HF : Hid (frs (B.take R) = (ps.take n, endAt ps n)) := by
            show _ = _
            rw [unhide HB]
            exact frs_whole ps R n (unhide HP) (by have := unhide HPl; omega) (unhide Hn) (by have := unhide HPl; rcases unhide Hx with h | h; exact .inl (by omega); exact .inr h) (by rw [← unhide HB]; omega)
          have HRl := hide (show R = (B.take R).length by simp; omega)
          clear hs5 hB5
          obtain ⟨a0', hs0, hS0⟩ := slice_headS a0 n cap0 n vs (by have := unhide HV; omega) p0.le (fun h => by obtain ⟨b, off, e, _⟩ := p0.sr.row h; exact ⟨b, off, e⟩)
          have HS0 := hide hS0
          clear hS0
          go_wp2_with fail
          refine (frames_n a5' cap5 R (B.take R) wr (unhide HRl) (unhide HBt) (by simp; omega)).mono ?_
          rintro e w2 ⟨a7, cap7, us, rfl, ho7, hp7, hb2⟩
          rw [unhide HF] at hp7 ⊢
          have hW2 := hb.trans (hb2.mono hb.size)
          have ho62 := ho6.below hb2 (Nat.le_refl _)
          have hs0' := hs0 w2
          have p02 := p0.below hW2
          have HSR := hide (unhide HS0 w2 ps p02.sr)
          have hul : us.length ≤ 50 := by have := hp7.len; simp at this; omega
          have HNl := hide (show n = (vs.take n).length by simp; have := unhide HV; omega)
          clear hs0 hs5' HBt HF HRl ho5 HB HP hb2 hb
          have hself : (ps.take n == ps.take n) = true := by simp
          by_cases hn0 : n = 0
          · subst hn0
            rw [endAt_zero]
            rw [show ((0 : Nat) : Int) = 0 from rfl] at hs0' ⊢
            go_wp2_with fail
            refine (eqfunc_n a7 cap7 us (ps.take 0) a0' cap0 (vs.take 0) (ps.take 0) w2 us.length 0 rfl HNl (SR.of ho7 hp7) (unhide HSR) (by omega) (by omega)).mono ?_
            rintro e w3 ⟨rfl, rfl⟩
            rw [hself]
            clear hself HSR hp7 ho7
            go_wp2
            go_ret
            exact ⟨rfl, hW2⟩
          · obtain ⟨m, hm⟩ : ∃ m, n = m + 1 := ⟨n - 1, by omega⟩
            obtain ⟨g6, ea7, _, _, hc6⟩ := ho62.some (by omega)
            cases ea7
            have hcm := hc6 m (by omega)
            have hEm : E.getD m 0 = endAt ps n := by rw [unhide HE, hm]; exact endsL_get ps _ m (by omega)
            rw [hEm] at hcm
            clear hc6 hEm HE
            have hm1 : (n : Int) - 1 = (m : Int) := by omega
            have hmE : m < E.length := by omega
            have hmE2 : (m : Int) < (E.length : Int) := by omega
            have hnp : 0 < n := by omega
            have hnp2 : (0 : Int) < (n : Int) := by omega
            have hnz : ((n : Int) == 0) = false := by simp; omega
            clear hm
            generalize endAt ps n = D at *
            go_wp2_with fail
            refine (eqfunc_n a7 cap7 us (ps.take n) a0' cap0 (vs.take n) (ps.take n) w2 us.length n rfl HNl (SR.of ho7 hp7) (unhide HSR) (by omega) (by omega)).mono ?_
            rintro e w3 ⟨rfl, rfl⟩
            rw [hself]
            clear hself HSR hp7 ho7
            go_wp2
            go_ret
            exact ⟨rfl, hW2⟩

theorem wireWhole_walk (a0 : Option Addr) (cap0 : Nat) (vs : List Sl) (ps : List (List UInt8)) (k : Int) (w : World) (p0 : SRB w a0 cap0 vs ps) (w1 : (Lit.int .i64 k).wf = true) :
    Calls Try.prog 5 #[.slice a0 vs.length cap0, .int .i64 k] w fun e w' => e = .returned (.bool true) ∧ Below w.heap.size w w' := by
  by_cases h : 50 < vs.length
  · exact wireWhole_big a0 cap0 vs.length k w (Nat.le_trans p0.le p0.most) h
  · exact wireWhole_small a0 cap0 vs.length vs ps k w rfl p0 h (wf_i64' w1).1 (wf_i64' w1).2
#print axioms wireWhole_walk
end Go.Proofs.Ythpalohjjkmhdaa
