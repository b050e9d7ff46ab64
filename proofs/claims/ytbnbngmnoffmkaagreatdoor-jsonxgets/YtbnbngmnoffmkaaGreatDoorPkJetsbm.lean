/-
  jsonx: the document's own check, Check.
-/
import Derived.Test.YtbnbngmnoffmkaaGreatDoorPkJetsbl
import Derived.Test.YtbnbngmnoffmkaaGreatDoorPkJetsba
section
set_option linter.unusedVariables false
set_option maxRecDepth 1000000
namespace Go.Proofs.YtbnbngmnoffmkaaGreatDoor
open Go.RowKit

/-- A value that the document checks within so many. -/
def RkC (around : Nat) (C : Js → Nat) : Prop := ∀ (j : Js) (S : Nat → Prop) (v : Value) (w : World), JV w S v j → (∀ k, S k → k < w.heap.size) → Sz j → Calls Tryz.prog 29 #[v, .int .i64 (around : Int)] w fun e w' => e = .returned (.int .i64 ((C j : Nat) : Int)) ∧ Hid (Below w.heap.size w w')
theorem take_nd {l : List (List UInt8)} {i : Nat} {x : List UInt8} (hx : l[i]? = some x) (h : (l.take i).Nodup) (hn : ∀ j, j < i → l[j]? ≠ some x) : (l.take (i + 1)).Nodup := by
  rw [List.take_add_one, hx]
  simp only [Option.toList_some]
  rw [List.nodup_append]
  refine ⟨h, by simp, fun a ha b hb e => ?_⟩
  rw [List.mem_singleton] at hb
  subst hb
  subst e
  obtain ⟨j, hj, e2⟩ := List.mem_take_iff_getElem.1 ha
  exact hn j (by omega) (by rw [List.getElem?_eq_getElem (by omega), e2])
theorem not_nd {l : List (List UInt8)} {i k : Nat} {x : List UInt8} (hk : k < i) (h1 : l[i]? = some x) (h2 : l[k]? = some x) : ¬ l.Nodup := by
  intro nd
  obtain ⟨a, e1⟩ := List.getElem?_eq_some_iff.1 h1
  obtain ⟨b, e2⟩ := List.getElem?_eq_some_iff.1 h2
  exact List.pairwise_iff_getElem.1 nd k i b a hk (by rw [e1, e2])
set_option maxHeartbeats 8000000 in
theorem rkw_core (C : Option (Js → Nat)) (around : Nat) (hA : C = none ↔ 16 ≤ around) (hA2 : around ≤ 16) (hrec : ∀ C', C = some C' → RkC (around + 1) C') : RkC around (ckF C) := by
  intro j S v w hJ hS hz
  cases j with
  | mk k n t ns is =>
  simp only [JV] at hJ
  obtain ⟨a1, c1, a2, c2, rfl, hN, hnc, _, _, hic, _, _, hIt⟩ := hJ
  simp only [Sz] at hz
  obtain ⟨hz1, hz2, hz3, hz4, hz5, hz6⟩ := hz
  obtain ⟨V, hV⟩ : ∃ V, V = w.heap.size := ⟨_, rfl⟩
  obtain ⟨W, hW⟩ : ∃ W, W = w.alloc (.cells #[.int .i64 k, .int .i64 n, .string (str t), .slice a1 ns.length c1, .slice a2 is.length c2] 25) := ⟨_, rfl⟩
  have bW : Below w.heap.size w W := by rw [hW]; exact (Below.refl _ _).alloc (Nat.le_refl _) _
  have sW : W.heap.size = V + 1 := by rw [hW, hV]; simp
  have rW : W.heap[V]? = some (.cells #[.int .i64 k, .int .i64 n, .string (str t), .slice a1 ns.length c1, .slice a2 is.length c2] 25 (0, 0)) := by rw [hW, hV]; exact heap_alloc_new _ _
  obtain ⟨p0, p1, p2, p3, p4⟩ := cells5 rW
  have HN := hide hN
  have HS := hide hS
  have HI := hide hIt
  have HZ6 := hide hz6
  have HZ5 := hide hz5
  have HbW := hide bW
  have HsW := hide sW
  have HrW := hide rW
  have HVW := hide hV
  have HA := hide hA
  have HREC := hide hrec
  obtain ⟨R, hR⟩ : ∃ R, R = ckF C (.mk k n t ns is) := ⟨_, rfl⟩
  have HRR := hide hR
  show Calls _ _ _ _ fun e w' => e = .returned (.int .i64 ((ckF C (.mk k n t ns is) : Nat) : Int)) ∧ _
  rw [← hR]
  have hKeep : ∀ u, Below W.heap.size W u → u.heap[V]? = some (.cells #[.int .i64 k, .int .i64 n, .string (str t), .slice a1 ns.length c1, .slice a2 is.length c2] 25 (0, 0)) := fun u hb => (hb.block V (by omega)).trans rW
  have HK := hide hKeep
  have hBw : ∀ u, Below W.heap.size W u → Below w.heap.size w u := fun u hb => bW.trans (hb.mono bW.size)
  have HBw := hide hBw
  have hinc : (around : Int) + 1 = ((around + 1 : Nat) : Int) := by omega
  clear hN hS hIt hz6 hz5 bW sW rW hA hrec hKeep hBw hR
  go_enter Tryz.func29, Tryz.ntmps29
  go_upto_region 1 with fail
  rw [← hW, ← hV]
  clear hW hV
  have hinc0 := hide hinc
  clear hinc
  by_cases hdeep : (k = 4 ∨ k = 5) ∧ 16 ≤ around
  · obtain ⟨hk, hd⟩ := hdeep
    have hd' : (16 : Int) ≤ (around : Int) := by omega
    have HE : Hid (R = 41) := by
      show _ = _
      rw [unhide HRR]
      rw [ckF_eq]
      rw [if_pos ⟨hk, by rw [(unhide HA).2 hd]; rfl⟩]
    have HF := hide (unhide HBw W (Below.refl _ _))
    rcases hk with rfl | rfl
    all_goals
      go_wp2_with fail
      go_ret
      rw [unhide HE]
      exact ⟨rfl, HF⟩
  · have hnot : ¬ ((k = 4 ∨ k = 5) ∧ C.isNone = true) := by
      rintro ⟨h1, h2⟩
      exact hdeep ⟨h1, (unhide HA).1 (Option.isNone_iff_eq_none.1 h2)⟩
    have hdd : (k = 4 ∧ ¬ (16 : Int) ≤ (around : Int)) ∨ (k = 5 ∧ ¬ (16 : Int) ≤ (around : Int)) ∨ ((k == 4) = false ∧ (k == 5) = false) := by
      by_cases h4 : k = 4
      · exact .inl ⟨h4, fun h => hdeep ⟨.inl h4, by omega⟩⟩
      · by_cases h5 : k = 5
        · exact .inr (.inl ⟨h5, fun h => hdeep ⟨.inr h5, by omega⟩⟩)
        · exact .inr (.inr ⟨by simpa using h4, by simpa using h5⟩)
    obtain ⟨wf, hwf0⟩ : ∃ wf, wf = wfB (.mk k n t ns is) := ⟨_, rfl⟩
    have HB1 : Hid (Below W.heap.size W W) := Below.refl _ _
    have HR1 : Hid (wf = false → R = 1) := by
      intro e
      rw [unhide HRR, ckF_eq, if_neg hnot, if_pos (by rw [← hwf0]; exact e)]
    have HR43 : Hid (wf = true → ¬ ns.Nodup → R = 43) := by
      intro e nd
      rw [unhide HRR, ckF_eq, if_neg hnot, if_neg (by rw [← hwf0, e]; simp), if_pos nd]
    have HRck : Hid (wf = true → ns.Nodup → R = fsE (ckX C) is ∧ (C = none → is = [])) := by
      intro e nd
      obtain ⟨hck, hcn⟩ := ck_nil C k n t ns is hnot (by rw [← hwf0]; exact e) nd
      exact ⟨(unhide HRR).trans hck, hcn⟩
    have hmay := rmay_any k n t ns is a1 c1 a2 c2 S W ((unhide HN).below (unhide HBw W (unhide HB1)) (unhide HS)) (fun k hk => Nat.lt_of_lt_of_le (unhide HS k hk) (unhide HBw W (unhide HB1)).size) hnc (unhide HZ5) hz2 hz3 hz4
    rw [← hwf0] at hmay
    have HMAY := hide hmay
    clear hmay
    clear hdeep hnot hwf0 HRR
    rcases hdd with ⟨rfl, hd'⟩ | ⟨rfl, hd'⟩ | ⟨hn4, hn5⟩
    all_goals
      have HWF := HMAY
      clear HMAY
      go_wp2_with fail
      refine (unhide HWF).mono ?_
      rintro e w2 ⟨rfl, hb2⟩
      have HB2 : Hid (Below W.heap.size W w2) := (unhide HB1).trans ((unhide hb2).mono (unhide HB1).size)
      clear HWF hb2 p0 p1 p2 p3 p4
      have HF2 := hide (unhide HBw w2 (unhide HB2))
      obtain ⟨p0, p1, p2, p3, p4⟩ := cells5 (unhide HK w2 (unhide HB2))
      cases wf with
      | false =>
        have HE := hide (unhide HR1 (by first | exact rfl | trivial))
        clear HR1 HR43 HRck
        go_wp2_with fail
        go_ret
        rw [unhide HE]
        exact ⟨rfl, HF2⟩
      | true =>
        clear HR1
        obtain ⟨g, hg⟩ : ∃ g, g = ns.length := ⟨_, rfl⟩
        have HG := hide hg
        rw [← hg] at p3
        have hg9 : g ≤ 100000 := by omega
        have HZ0 : Hid ((ns.take 0).Nodup) := by show List.Nodup _; rw [List.take_zero]; exact List.nodup_nil
        clear hg
        go_wp2_with fail
        clear p0 p1 p2 p3 p4
        go_loopw [28] (fun v wr => ∃ i : Nat, i ≤ g ∧ v = .int .i64 (i : Int) ∧ Hid ((ns.take i).Nodup) ∧ Hid (Below W.heap.size W wr)) (fun v _ => g - (intOf v).toNat)
        case atStart => exact ⟨0, Nat.zero_le _, rfl, HZ0, HB2⟩
        case round =>
          obtain ⟨i, hi, rfl, HND, HMi⟩ := hrel
          obtain ⟨p0, p1, p2, p3, p4⟩ := cells5 (unhide HK wr (unhide HMi))
          rw [← unhide HG] at p3
          by_cases hlt : i < g
          · have hlt' : (i : Int) < (g : Int) := by omega
            obtain ⟨x, hx⟩ : ∃ x, ns[i]? = some x := ⟨_, List.getElem?_eq_getElem (by rw [← unhide HG]; exact hlt)⟩
            have hne : ns ≠ [] := fun e => by rw [e] at hx; simp at hx
            obtain ⟨B, ob, rfl, hSB, hBc⟩ := (unhide HN) hne
            have HX := hide hx
            have HBC := hide hBc
            have HSB := hide hSB
            clear hx hne hSB hBc p0 p1 p2 p3 p4
            go_wp2_with fail
            go_loopw [32] (fun v wq => ∃ q : Nat, q ≤ i ∧ v = .int .i64 (q : Int) ∧ Hid (∀ j, j < q → ns[j]? ≠ some x) ∧ Hid (Below W.heap.size W wq)) (fun v _ => i - (intOf v).toNat)
            case atStart => exact ⟨0, Nat.zero_le _, rfl, fun j hj => absurd hj (Nat.not_lt_zero j), HMi⟩
            case round =>
              obtain ⟨q, hq, rfl, HNE, HMq⟩ := hrel
              by_cases hql : q < i
              · have hql' : (q : Int) < (i : Int) := by omega
                have hqg : (q : Int) < (g : Int) := by omega
                obtain ⟨y, hy⟩ : ∃ y, ns[q]? = some y := ⟨_, List.getElem?_eq_getElem (by rw [← unhide HG]; omega)⟩
                obtain ⟨p0, p1, p2, p3, p4⟩ := cells5 (unhide HK wr (unhide HMq))
                rw [← unhide HG] at p3
                have kB := (unhide HBw wr (unhide HMq)).block B (unhide HS B (unhide HSB))
                have ci := cell_keep kB (unhide HBC i x (unhide HX))
                have cq := cell_keep kB (unhide HBC q y hy)
                have HBd : ∀ n, Hid (Below W.heap.size W (wr.drewN n)) := fun n => hide (bdr4 (unhide HMq) n)
                have HFd : ∀ n, Hid (Below w.heap.size w (wr.drewN n)) := fun n => hide (unhide HBw _ (unhide (HBd n)))
                by_cases hxy : x = y
                · subst hxy
                  have HE := hide (unhide HR43 (by first | exact rfl | trivial) (not_nd hql (unhide HX) hy))
                  have e1 : ((str x).toList == (str x).toList) = true := by simp
                  clear hy kB p0 p1 p2 p4
                  go_wp2_with fail
                  go_quiet (fail)
                  go_wp2_with fail
                  go_ret
                  rw [unhide HE]
                  exact ⟨rfl, HFd _⟩
                · have e1 : ((str x).toList == (str y).toList) = false := by rw [toList_str, toList_str]; simpa using hxy
                  have HNE2 : Hid (∀ j, j < q + 1 → ns[j]? ≠ some x) := fun j hj => by
                    by_cases e : j = q
                    · subst e; rw [hy]; exact fun e => hxy (Option.some.inj e).symm
                    · exact unhide HNE j (by omega)
                  clear hy hxy kB p0 p1 p2 p4
                  go_wp2_with fail
                  go_quiet (fail)
                  go_wp2_with fail
                  go_roundw
                  case rel => exact ⟨q + 1, by omega, by go_num, HNE2, HBd _⟩
                  case measure => simp [intOf]; omega
              · have hql' : ¬ (q : Int) < (i : Int) := by omega
                have HND2 : Hid ((ns.take (i + 1)).Nodup) := take_nd (unhide HX) (unhide HND) (fun j hj => unhide HNE j (by omega))
                go_wp2_with fail
                go_roundw
                case rel => exact ⟨i + 1, by omega, by go_num, HND2, HMq⟩
                case measure => simp [intOf]; omega
          have hlt' : ¬ (i : Int) < (g : Int) := by omega
          have hnd : ns.Nodup := by
            have h := unhide HND
            rw [List.take_of_length_le (by rw [← unhide HG]; omega)] at h
            exact h
          have HB3 := HMi
          obtain ⟨hck, hcn⟩ := unhide HRck (by first | exact rfl | trivial) hnd
          have HCK := hide hck
          have HCN := hide hcn
          clear hnd hck hcn HRck HR43 p3
          obtain ⟨m, hm⟩ : ∃ m, m = is.length := ⟨_, rfl⟩
          have HM := hide hm
          rw [← hm] at p4 hic
          have hm9 : m ≤ 100000 := by omega
          clear hm hlt hi
          go_wp2_with fail
          go_loopw [51] (fun v wr => ∃ i : Nat, i ≤ m ∧ v = .int .i64 (i : Int) ∧ Hid (R = fsE (ckX C) (is.drop i)) ∧ Hid (Below W.heap.size W wr)) (fun v _ => m - (intOf v).toNat)
          case atStart => exact ⟨0, Nat.zero_le _, rfl, HCK, HB3⟩
          case round =>
            obtain ⟨i, hi, rfl, HQ, HB⟩ := hrel
            have HFr := hide (unhide HBw wr (unhide HB))
            by_cases hlt : i < m
            · have hlt' : (i : Int) < (m : Int) := by omega
              obtain ⟨jj, hjj⟩ : ∃ jj, is[i]? = some jj := ⟨_, List.getElem?_eq_getElem (by rw [← unhide HM]; exact hlt)⟩
              have hne : is ≠ [] := fun e => by rw [e] at hjj; simp at hjj
              obtain ⟨C', hC'⟩ : ∃ C', C = some C' := by
                cases hc : C with
                | none => exact absurd (unhide HCN hc) hne
                | some C' => exact ⟨C', rfl⟩
              have hel := ((jvs_iff w S a2 is 0).1 (unhide HI) i jj hjj).keep (fun k hk => ⟨hk, (unhide HFr).block k (unhide HS k hk)⟩)
              rw [Nat.zero_add] at hel
              obtain ⟨b, off, v0, v1, v2, v3, v4, rfl, hSb, g0, g1, g2, g3, g4, hj⟩ := hel
              obtain ⟨jk, jn, jt, ja1, jn1, jc1, ja2, jn2, jc2, e⟩ := hj.form
              simp only [Value.agg.injEq, Array.mk.injEq, List.cons.injEq, and_true] at e
              obtain ⟨rfl, rfl, rfl, rfl, rfl⟩ := e
              have hdr : is.drop i = jj :: is.drop (i + 1) := by
                have hl2 := (List.getElem?_eq_some_iff.1 hjj).1
                rw [List.drop_eq_getElem_cons hl2]; congr 1; exact (List.getElem?_eq_some_iff.1 hjj).2
              obtain ⟨U, hU⟩ : ∃ U, U = wr.alloc (.cells #[.int .i64 jk, .int .i64 jn, .string (str jt), .slice ja1 jn1 jc1, .slice ja2 jn2 jc2] 25) := ⟨_, rfl⟩
              have bU : Below wr.heap.size wr U := by rw [hU]; exact (Below.refl _ _).alloc (Nat.le_refl _) _
              have bWU : Below W.heap.size W U := (unhide HB).trans (bU.mono (unhide HB).size)
              have HC := hide (unhide HREC C' hC' jj S _ U (JV.keep (fun k hk => ⟨hk, bU.block k (Nat.lt_of_lt_of_le (unhide HS k hk) (unhide HFr).size)⟩) _ _ hj) (fun k hk => Nat.lt_of_lt_of_le (unhide HS k hk) (unhide HBw U bWU).size) ((szs_iff is).1 (unhide HZ6) jj (List.mem_of_getElem? hjj)))
              have HBU := hide bWU
              have hx : ckX C jj = C' jj := by rw [hC']; rfl
              have HQ2 : Hid (R = if C' jj = 0 then fsE (ckX C) (is.drop (i + 1)) else C' jj) := by
                show _ = _
                rw [unhide HQ, hdr]
                show (if ckX C jj = 0 then fsE (ckX C) (is.drop (i + 1)) else ckX C jj) = _
                rw [hx]
              generalize C' jj = E at HC HQ2
              have rU : U.heap[wr.heap.size]? = some (.cells #[.int .i64 jk, .int .i64 jn, .string (str jt), .slice ja1 jn1 jc1, .slice ja2 jn2 jc2] 25 (0, 0)) := by rw [hU]; exact heap_alloc_new _ _
              obtain ⟨Z, hZ⟩ : ∃ Z, Z = wr.heap.size := ⟨_, rfl⟩
              rw [← hZ] at rU
              obtain ⟨d0, d1, d2, d3, d4⟩ := cells5 rU
              clear hjj hne hC' hj hdr bU bWU hx rU hSb
              go_upto_region 18 with fail
              rw [← hU, ← hZ]
              clear hU hZ g0 g1 g2 g3 g4
              rw [← unhide hinc0] at HC
              go_wp2_with fail
              refine (unhide HC).mono ?_
              rintro e w5 ⟨rfl, hb5⟩
              have HB5 : Hid (Below W.heap.size W w5) := (unhide HBU).trans ((unhide hb5).mono (unhide HBU).size)
              clear HC hb5 d0 d1 d2 d3 d4
              by_cases hE : E = 0
              · have hE0 : (((E : Nat) : Int) != 0) = false := by rw [hE]; rfl
                have HQ3 : Hid (R = fsE (ckX C) (is.drop (i + 1))) := by show _ = _; rw [unhide HQ2, if_pos hE]
                clear hE
                go_wp2_with fail
                go_roundw
                case rel => exact ⟨i + 1, by omega, by go_num, HQ3, HB5⟩
                case measure => simp [intOf]; omega
              · have hE0 : (((E : Nat) : Int) != 0) = true := by simp; omega
                have HQ3 : Hid (R = E) := by show _ = _; rw [unhide HQ2, if_neg hE]
                have HF5 := hide (unhide HBw w5 (unhide HB5))
                clear hE
                go_wp2_with fail
                go_ret
                rw [unhide HQ3]
                exact ⟨rfl, HF5⟩
            · have hlt' : ¬ (i : Int) < (m : Int) := by omega
              have HE : Hid (R = 0) := by show _ = _; rw [unhide HQ, List.drop_eq_nil_of_le (by rw [← unhide HM]; omega)]; rfl
              clear hlt
              go_wp2_with fail
              go_ret
              rw [unhide HE]
              exact ⟨rfl, HFr⟩
#print axioms rkw_core
theorem rkw_any : ∀ (n around : Nat), around + n = 16 → RkC around (ck n)
  | 0, around, h => rkw_core none around ⟨fun _ => by omega, fun _ => rfl⟩ (by omega) (fun C' e => by cases e)
  | n + 1, around, h => rkw_core (some (ck n)) around ⟨fun e => (by cases e), fun hh => by omega⟩ (by omega) (fun C' e => by cases e; exact rkw_any n (around + 1) (by omega))
set_option maxHeartbeats 2000000 in
theorem rcheckJ_any (j : Js) (S : Nat → Prop) (v : Value) (w : World) (hJ : JV w S v j) (hS : ∀ k, S k → k < w.heap.size) (hz : Sz j) :
    Calls Tryz.prog 15 #[v] w fun e w' => e = .returned (.int .i64 ((ck 16 j : Nat) : Int)) ∧ Hid (Below w.heap.size w w') := by
  obtain ⟨k, n, t, a1, n1, c1, a2, n2, c2, rfl⟩ := hJ.form
  obtain ⟨W, hW⟩ : ∃ W, W = w.alloc (.cells #[.int .i64 k, .int .i64 n, .string (str t), .slice a1 n1 c1, .slice a2 n2 c2] 25) := ⟨_, rfl⟩
  obtain ⟨V, hV⟩ : ∃ V, V = w.heap.size := ⟨_, rfl⟩
  have bW : Below w.heap.size w W := by rw [hW]; exact (Below.refl _ _).alloc (Nat.le_refl _) _
  have rW : W.heap[V]? = some (.cells #[.int .i64 k, .int .i64 n, .string (str t), .slice a1 n1 c1, .slice a2 n2 c2] 25 (0, 0)) := by rw [hW, hV]; exact heap_alloc_new _ _
  obtain ⟨p0, p1, p2, p3, p4⟩ := cells5 rW
  have HC := hide (rkw_any 16 0 rfl j S _ W (JV.keep (fun k hk => ⟨hk, bW.block k (hS k hk)⟩) _ _ hJ) (fun k hk => Nat.lt_of_lt_of_le (hS k hk) bW.size) hz)
  rw [show ((0 : Nat) : Int) = 0 from rfl] at HC
  generalize ck 16 j = E at HC ⊢
  have HB := hide bW
  clear hJ hS hz rW bW
  go_enter Tryz.func15, Tryz.ntmps15
  go_upto_region 1 with fail
  rw [← hW, ← hV]
  clear hW hV
  go_wp2_with fail
  refine (unhide HC).mono ?_
  rintro e w1 ⟨rfl, h1⟩
  have HF : Hid (Below w.heap.size w w1) := (unhide HB).trans ((unhide h1).mono (unhide HB).size)
  clear HC h1 p0 p1 p2 p3 p4
  go_wp2_with fail
  go_ret
  exact ⟨rfl, HF⟩
#print axioms rcheckJ_any
end Go.Proofs.YtbnbngmnoffmkaaGreatDoor
end
