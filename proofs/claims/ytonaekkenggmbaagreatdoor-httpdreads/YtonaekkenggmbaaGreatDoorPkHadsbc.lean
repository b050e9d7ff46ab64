/-
  httpd: Print's parts.; httpd: same; Print.; httpd's reference: are two requests the same, whatever they are.
-/
import Derived.Test.YtonaekkenggmbaaGreatDoorPkHadsaq
import Derived.Test.YtonaekkenggmbaaGreatDoorPkHadsaw
import Derived.Test.YtonaekkenggmbaaGreatDoorPkHadsbb
import Derived.Laws.StructEq
section
set_option linter.unusedVariables false
set_option maxRecDepth 1000000
namespace Go.Proofs.YtonaekkenggmbaaGreatDoor
open Go.RowKit

/-- A header's line. -/
def hline (h : Hd) : List UInt8 := h.1 ++ [58, 32] ++ h.2 ++ [13, 10]
set_option maxHeartbeats 4000000 in
theorem appendHeader_any (b : Nat) (c : Nat) (l : List UInt8) (h : Hd) (base : Nat) (w : World) (ho : Omg w base (some ⟨b, 0, none⟩) c l) (hb : base ≤ w.heap.size) (hl : l.length + h.1.length + h.2.length + 4 ≤ 140737488355328) (h1 : h.1.length ≤ 1000000) (h2 : h.2.length ≤ 1000000) :
    Calls Tryz.prog 50 #[.slice (some ⟨b, 0, none⟩) l.length c, .agg #[.string (str h.1), .string (str h.2)]] w fun e w' => ∃ b' c' r, e = .returned (.slice (some ⟨b', 0, none⟩) r.length c') ∧ Hid (r = l ++ hline h) ∧ Hid (Omg w' base (some ⟨b', 0, none⟩) c' r) ∧ Hid (Below base w w') := by
  obtain ⟨n, v⟩ := h
  simp only at h1 h2 hl
  have e1 : str n ++ (⟨#[58, 32]⟩ : ByteArray) = str (n ++ [58, 32]) := str_app n [58, 32]
  have e2 : str (n ++ [58, 32]) ++ str v = str (n ++ [58, 32] ++ v) := str_app _ v
  have e3 : str (n ++ [58, 32] ++ v) ++ (⟨#[13, 10]⟩ : ByteArray) = str (hline (n, v)) := str_app _ [13, 10]
  have s1 : (str n).size = n.length := str_size n
  have s2 : (str v).size = v.length := str_size v
  have s3 : (str (n ++ [58, 32])).size = n.length + 2 := by rw [str_size]; simp
  have s4 : (str (n ++ [58, 32] ++ v)).size = n.length + 2 + v.length := by rw [str_size]; simp; omega
  have s5 : (str (hline (n, v))).size = n.length + 2 + v.length + 2 := by rw [str_size]; simp [hline]; omega
  have s6 : (str (hline (n, v))).data.toList = hline (n, v) := by simp [str]
  generalize hline (n, v) = q at *
  generalize n ++ [58, 32] ++ v = q2 at *
  generalize n ++ [58, 32] = q3 at *
  have hoA := ho.below ((Below.refl w.heap.size w).alloc (Nat.le_refl _) (.cells #[.string (str n), .string (str v)] 49)) (Nat.le_refl _)
  have HO := hide ho
  have HOA := hide hoA
  clear ho hoA
  go_enter Tryz.func50, Tryz.ntmps50
  have s7 : q.length = n.length + 2 + v.length + 2 := by rw [← s5, str_size]
  go_wp2_with (at_builtin; refine wp_apptext _ rfl _ _ rfl base b c l rfl (unhide HOA) q rfl ?c3 ?c4 ?_)
  case c3 => omega
  case c4 => simp; omega
  intro b2 c2 r w2 HR HW hg
  have HB : Hid (Below base w w2) := below_grown (a := some ⟨b, 0, none⟩) ((Below.refl base w).alloc hb _) (unhide hg) hb (fun k hk => ((unhide HO).lt k hk).1)
  clear hg
  go_wp2
  go_ret
  exact ⟨b2, c2, r, rfl, HR, HW, HB⟩
#print axioms appendHeader_any
theorem neqH (x y x2 y2 : List UInt8) (w : World) : (binOp .neq 49 (.agg #[.string (str x), .string (str y)]) (.agg #[.string (str x2), .string (str y2)])).run Tryz.prog w = .ok (.bool (!(x == x2 && y == y2))) w := by
  have hS : Tryz.prog.underlying 49 = some (.struct (Tryz.prog.fieldsOf 49)) := by kernel_rfl
  have hp : Tryz.prog.stoodInHeld 49 = false := by kernel_rfl
  rw [run_neq_struct, show (10000 : Nat) = 9999 + 1 from rfl, run_equalIn_agg w 9999 49 _ _ hS hp]
  simp only [Program.fieldsOf, Tryz.underlying49]
  have u9 := Tryz.underlying9
  have t1 : (str x).toList = x := toList_str x
  have t2 : (str y).toList = y := toList_str y
  have t3 : (str x2).toList = x2 := toList_str x2
  have t4 : (str y2).toList = y2 := toList_str y2
  go_simp
  by_cases h1 : x = x2 <;> by_cases h2 : y = y2 <;> simp [h1, h2]
set_option maxHeartbeats 4000000 in
theorem equalH_any (p q : Option Addr) (cp cq : Nat) (H G : List Hd) (w : World) (hp : HdR w p H) (hq : HdR w q G) (hl : H.length ≤ 1000000) :
    Calls Tryz.prog 78 #[.slice p H.length cp, .slice q G.length cq] w fun e w' => e = .returned (.bool (decide (H = G))) ∧ Hid (Below w.heap.size w w') := by
  have HP := hide hp
  have HQ := hide hq
  clear hp hq
  by_cases hlen : H.length = G.length
  · have hne : ((H.length : Int) != (G.length : Int)) = false := by rw [hlen]; simp
    go_enter Tryz.func78, Tryz.ntmps78
    go_wp2
    go_loopw [13] (fun i wr => ∃ k : Nat, k ≤ H.length ∧ i = .int .i64 (k : Int) ∧ Hid (H.take k = G.take k) ∧ Hid (Below w.heap.size w wr)) (fun i _ => H.length - (intOf i).toNat)
    case atStart => exact ⟨0, Nat.zero_le _, rfl, rfl, Below.refl _ _⟩
    case round =>
      obtain ⟨k, hk, rfl, HT, HB⟩ := hrel
      by_cases hlt : k < H.length
      · obtain ⟨d, hd⟩ : ∃ d, H[k]? = some d := ⟨_, List.getElem?_eq_getElem hlt⟩
        obtain ⟨d2, hd2⟩ : ∃ d, G[k]? = some d := ⟨_, List.getElem?_eq_getElem (by omega)⟩
        obtain ⟨b, off, hpe, hc⟩ := ((unhide HP).below (unhide HB) (Nat.le_refl _)).mem (by intro e; subst e; simp at hd)
        obtain ⟨b2, off2, hqe, hc2⟩ := ((unhide HQ).below (unhide HB) (Nat.le_refl _)).mem (by intro e; subst e; simp at hd2)
        subst hpe hqe
        obtain ⟨c0, c1⟩ := hc k d hd
        obtain ⟨d0, d1⟩ := hc2 k d2 hd2
        have hlt' : (k : Int) < (H.length : Int) := by omega
        have hlt2 : (k : Int) < (G.length : Int) := by omega
        have HD := hide hd
        have HD2 := hide hd2
        clear hc hc2 hd hd2
        obtain ⟨x, y⟩ := d
        obtain ⟨x2, y2⟩ := d2
        simp only at c0 c1 d0 d1
        go_upto_region 6 with fail
        have hg : Tryz.prog.eqGuardType Tryz.prog.depth 49 = false := by kernel_rfl
        have kq := neqH x y x2 y2
        by_cases he : x = x2 ∧ y = y2
        · obtain ⟨rfl, rfl⟩ := he
          have hb : (x == x && y == y) = true := by simp
          rw [hb] at kq
          clear hb
          go_quiet (fail)
          go_wp2
          have HB2 := hide (below_drewN (unhide HB) nq)
          go_roundw
          case rel =>
            refine ⟨k + 1, by omega, by go_num, ?_, HB2⟩
            show _ = _
            obtain ⟨l1, e1⟩ := List.getElem?_eq_some_iff.1 (unhide HD)
            obtain ⟨l2, e2⟩ := List.getElem?_eq_some_iff.1 (unhide HD2)
            rw [List.take_succ_eq_append_getElem l1, List.take_succ_eq_append_getElem l2, unhide HT, e1, e2]
          case measure => simp [intOf]; omega
        · have hb : (x == x2 && y == y2) = false := by
            by_cases h1 : x = x2
            · have h2 : ¬ y = y2 := fun e => he ⟨h1, e⟩
              simp [h2]
            · simp [h1]
          rw [hb] at kq
          have HF : Hid (decide (H = G) = false) := by
            show _ = _
            rw [decide_eq_false_iff_not]
            intro e
            have := unhide HD
            rw [e, unhide HD2] at this
            simp only [Option.some.injEq, Prod.mk.injEq] at this
            exact he ⟨this.1.symm, this.2.symm⟩
          clear hb
          go_quiet (fail)
          go_wp2
          go_ret
          exact ⟨by rw [unhide HF]; rfl, hide (below_drewN (unhide HB) nq)⟩
      · obtain rfl : k = H.length := by omega
        have hlt' : ¬ (H.length : Int) < (H.length : Int) := by omega
        have HF : Hid (decide (H = G) = true) := by
          show _ = _
          have := unhide HT
          rw [List.take_length, hlen, List.take_length] at this
          simp [this]
        clear hlt
        go_wp2
        go_ret
        exact ⟨by rw [unhide HF]; rfl, HB⟩
  · have hne : ((H.length : Int) != (G.length : Int)) = true := by simp; omega
    have HF : Hid (decide (H = G) = false) := by
      show _ = _
      rw [decide_eq_false_iff_not]
      intro e
      exact hlen (by rw [e])
    go_enter Tryz.func78, Tryz.ntmps78
    go_wp2
    go_ret
    exact ⟨by rw [unhide HF]; rfl, hide (Below.refl _ _)⟩
#print axioms equalH_any
end Go.Proofs.YtonaekkenggmbaaGreatDoor
end
section
set_option linter.unusedVariables false
set_option maxRecDepth 1000000
namespace Go.Proofs.YtonaekkenggmbaaGreatDoor
open Go.RowKit

set_option maxHeartbeats 4000000 in
theorem same_any (m p n q : List UInt8) (H G : List Hd) (B C : List UInt8) (hp hq bp bq : Option Addr) (hc hd bc bd : Nat) (w : World) (h1 : HdR w hp H) (h2 : HdR w hq G) (b1 : Bs w bp bc B) (b2 : Bs w bq bd C) (hl : H.length ≤ 1000000) :
    Calls Tryz.prog 51 #[.agg #[.string (str m), .string (str p), .slice hp H.length hc, .slice bp B.length bc], .agg #[.string (str n), .string (str q), .slice hq G.length hd, .slice bq C.length bd]] w fun e w' => e = .returned (.bool (decide (m = n ∧ p = q ∧ H = G ∧ B = C))) ∧ Hid (Below w.heap.size w w') := by
  have H1 := hide h1
  have H2 := hide h2
  have B1 := hide b1
  have B2 := hide b2
  clear h1 h2 b1 b2
  obtain ⟨o1, ho1⟩ : ∃ o, o = Obj.cells #[.string (str m), .string (str p), .slice hp H.length hc, .slice bp B.length bc] 39 := ⟨_, rfl⟩
  obtain ⟨o2, ho2⟩ : ∃ o, o = Obj.cells #[.string (str n), .string (str q), .slice hq G.length hd, .slice bq C.length bd] 39 := ⟨_, rfl⟩
  have hb : Below w.heap.size w ((w.alloc o1).alloc o2) := ((Below.refl _ _).alloc (Nat.le_refl _) _).alloc (by simp) _
  have HS := hide (equalH_any hp hq hc hd H G _ ((unhide H1).below hb (Nat.le_refl _)) ((unhide H2).below hb (Nat.le_refl _)) hl)
  have HB := hide hb
  have HC1 : Hid (Bs ((w.alloc o1).alloc o2) bp bc B ∧ Bs ((w.alloc o1).alloc o2) bq bd C) := ⟨(unhide B1).below hb (Nat.le_refl _), (unhide B2).below hb (Nat.le_refl _)⟩
  have hr1 : ((w.alloc o1).alloc o2).heap[w.heap.size]? = some (.cells #[.string (str m), .string (str p), .slice hp H.length hc, .slice bp B.length bc] 39 (0, 0)) := by rw [Below.heap_alloc _ _ _ (by simp), ho1]; exact heap_alloc_new w _
  have hr2 : ((w.alloc o1).alloc o2).heap[w.heap.size + 1]? = some (.cells #[.string (str n), .string (str q), .slice hq G.length hd, .slice bq C.length bd] 39 (0, 0)) := by
    have := heap_alloc_new (w.alloc o1) o2
    rw [show (w.alloc o1).heap.size = w.heap.size + 1 by simp] at this
    rw [this, ho2]
  have HR := hide (And.intro hr1 hr2)
  have HSZ : Hid (w.heap.size + 1 < ((w.alloc o1).alloc o2).heap.size) := by show _ < _; simp
  rw [ho1, ho2] at HS HB HC1 HR HSZ
  clear hb ho1 ho2 hr1 hr2 o1 o2
  by_cases e1 : m = n
  · have f1 : ((str m).toList == (str n).toList) = true := by rw [e1]; simp
    by_cases e2 : p = q
    · have f2 : ((str p).toList == (str q).toList) = true := by rw [e2]; simp
      by_cases e3 : H = G
      · rw [decide_eq_true e3] at HS
        have HT : Hid (decide (m = n ∧ p = q ∧ H = G ∧ B = C) = (B == C)) := by
          show _ = _
          rw [Bool.eq_iff_iff]
          simp [e1, e2, e3]
        clear e1 e2 e3
        generalize decide (m = n ∧ p = q ∧ H = G ∧ B = C) = T at *
        go_enter Tryz.func51, Tryz.ntmps51
        go_wp2_with fail
        refine (unhide HS).mono ?_
        rintro e w' ⟨rfl, HB2⟩
        have r1 := ((unhide HB2).block w.heap.size (by have := unhide HSZ; omega)).trans (unhide HR).1
        have r2 := ((unhide HB2).block (w.heap.size + 1) (unhide HSZ)).trans (unhide HR).2
        have q1 : w'.cell? ⟨w.heap.size, 3, none⟩ = some (.slice bp B.length bc) := cell_of_row _ _ _ _ _ _ r1
        have q2 : w'.cell? ⟨w.heap.size + 1, 3, none⟩ = some (.slice bq C.length bd) := cell_of_row _ _ _ _ _ _ r2
        have HBE := hide (equal_any bp B.length bc B bq C.length bd C w' ((unhide HC1).1.below (unhide HB2) (Nat.le_refl _)).row ((unhide HC1).2.below (unhide HB2) (Nat.le_refl _)).row rfl rfl)
        clear r1 r2 HS
        go_wp2_with fail
        refine (unhide HBE).mono ?_
        rintro e w2 ⟨rfl, rfl⟩
        clear HBE
        have HBB := hide ((unhide HB).trans ((unhide HB2).mono (unhide HB).size))
        rw [← unhide HT]
        go_wp2_with fail
        go_ret
        exact ⟨rfl, HBB⟩
      · rw [decide_eq_false e3] at HS
        have HT : Hid (decide (m = n ∧ p = q ∧ H = G ∧ B = C) = false) := by
          show _ = _
          rw [decide_eq_false_iff_not]
          exact fun h => e3 h.2.2.1
        clear e1 e2 e3
        generalize decide (m = n ∧ p = q ∧ H = G ∧ B = C) = T at *
        go_enter Tryz.func51, Tryz.ntmps51
        go_wp2_with fail
        refine (unhide HS).mono ?_
        rintro e w' ⟨rfl, HB2⟩
        have HBB := hide ((unhide HB).trans ((unhide HB2).mono (unhide HB).size))
        clear HS
        go_wp2_with fail
        go_ret
        exact ⟨by rw [unhide HT]; rfl, HBB⟩
    · have f2 : ((str p).toList == (str q).toList) = false := by rw [toList_str, toList_str, beq_eq_false_iff_ne]; exact e2
      have HT : Hid (decide (m = n ∧ p = q ∧ H = G ∧ B = C) = false) := by
        show _ = _
        rw [decide_eq_false_iff_not]
        exact fun h => e2 h.2.1
      clear e1 e2
      generalize decide (m = n ∧ p = q ∧ H = G ∧ B = C) = T at *
      go_enter Tryz.func51, Tryz.ntmps51
      go_wp2_with fail
      go_ret
      exact ⟨by rw [unhide HT]; rfl, HB⟩
  · have f1 : ((str m).toList == (str n).toList) = false := by rw [toList_str, toList_str, beq_eq_false_iff_ne]; exact e1
    have HT : Hid (decide (m = n ∧ p = q ∧ H = G ∧ B = C) = false) := by
      show _ = _
      rw [decide_eq_false_iff_not]
      exact fun h => e1 h.1
    clear e1
    generalize decide (m = n ∧ p = q ∧ H = G ∧ B = C) = T at *
    go_enter Tryz.func51, Tryz.ntmps51
    go_wp2_with fail
    go_ret
    exact ⟨by rw [unhide HT]; rfl, HB⟩
#print axioms same_any
/-- What Print writes. -/
def prM (m p : List UInt8) (H : List Hd) (B : List UInt8) : List UInt8 := m ++ [32] ++ p ++ [32] ++ h11 ++ [13, 10] ++ (H.flatMap hline) ++ [13, 10] ++ B
theorem hl_len : ∀ (H : List Hd), (H.flatMap hline).length ≤ hsz H
  | [] => by simp
  | x :: H => by
    have := hl_len H
    have e : hsz (x :: H) = 8 + x.1.length + x.2.length + hsz H := by simp [hsz]
    have e2 : (hline x).length = x.1.length + x.2.length + 4 := by simp [hline]; omega
    rw [List.flatMap_cons, List.length_append, e, e2]
    omega
theorem hl_step (H : List Hd) (k : Nat) (d : Hd) (hd : H[k]? = some d) : (H.take (k + 1)).flatMap hline = (H.take k).flatMap hline ++ hline d := by
  obtain ⟨hlt, he⟩ := List.getElem?_eq_some_iff.1 hd
  rw [List.take_succ_eq_append_getElem hlt, List.flatMap_append, he]
  simp
theorem hsz_take (H : List Hd) (k : Nat) : hsz (H.take k) ≤ hsz H := by
  conv => rhs; rw [← List.take_append_drop k H]
  unfold hsz
  rw [List.map_append, List.sum_append]
  omega
set_option maxHeartbeats 4000000 in
theorem print_any (m p : List UInt8) (H : List Hd) (B : List UInt8) (hp bp : Option Addr) (hc bc : Nat) (w : World) (hE : EnvH w) (h1 : HdR w hp H) (b1 : Bs w bp bc B) (hT : m.length + p.length + hsz H + B.length ≤ 140737488351232) (hh : hsz H ≤ 262144) :
    Calls Tryz.prog 25 #[.agg #[.string (str m), .string (str p), .slice hp H.length hc, .slice bp B.length bc]] w fun e w' => ∃ a c r, ∃ z : Nat, e = .returned (.tuple #[.slice a r.length c, .int .i64 (z : Int)]) ∧ Hid ((z = 0 ∧ r = prM m p H B ∧ pM r = (⟨m, p, H, B⟩, r.length, 0)) ∨ (z = 1 ∧ r = [])) ∧ Hid (Bs w' a c r) ∧ Hid (Below w.heap.size w w') := by
  obtain ⟨o, ho⟩ : ∃ o, o = Obj.cells #[.string (str m), .string (str p), .slice hp H.length hc, .slice bp B.length bc] 39 := ⟨_, rfl⟩
  have e1 : str m ++ (⟨#[32]⟩ : ByteArray) = str (m ++ [32]) := str_app m [32]
  have e2 : str (m ++ [32]) ++ str p = str (m ++ [32] ++ p) := str_app _ p
  have e3 : str (m ++ [32] ++ p) ++ (⟨#[32]⟩ : ByteArray) = str (m ++ [32] ++ p ++ [32]) := str_app _ [32]
  have e4 : str (m ++ [32] ++ p ++ [32]) ++ (⟨#[72, 84, 84, 80, 47, 49, 46, 49]⟩ : ByteArray) = str (m ++ [32] ++ p ++ [32] ++ h11) := str_app _ h11
  have e5 : str (m ++ [32] ++ p ++ [32] ++ h11) ++ (⟨#[13, 10]⟩ : ByteArray) = str (m ++ [32] ++ p ++ [32] ++ h11 ++ [13, 10]) := str_app _ [13, 10]
  have s1 : (str m).size = m.length := str_size m
  have s2 : (str p).size = p.length := str_size p
  have s3 : (str (m ++ [32])).size = m.length + 1 := by rw [str_size]; simp
  have s4 : (str (m ++ [32] ++ p)).size = m.length + 1 + p.length := by rw [str_size]; simp; omega
  have s5 : (str (m ++ [32] ++ p ++ [32])).size = m.length + 1 + p.length + 1 := by rw [str_size]; simp; omega
  have s6 : (str (m ++ [32] ++ p ++ [32] ++ h11)).size = m.length + 1 + p.length + 1 + 8 := by rw [str_size]; simp [h11]; omega
  have s7 : (m ++ [32] ++ p ++ [32] ++ h11 ++ [13, 10]).length = m.length + 1 + p.length + 10 + 1 := by simp [h11]; omega
  have HPR : Hid (prM m p H B = (m ++ [32] ++ p ++ [32] ++ h11 ++ [13, 10]) ++ (H.flatMap hline) ++ [13, 10] ++ B) := rfl
  generalize m ++ [32] ++ p ++ [32] ++ h11 ++ [13, 10] = q5 at *
  generalize m ++ [32] ++ p ++ [32] ++ h11 = q4 at *
  generalize m ++ [32] ++ p ++ [32] = q3 at *
  generalize m ++ [32] ++ p = q2 at *
  generalize m ++ [32] = q1 at *
  have hbU : Below w.heap.size w (w.alloc o) := (Below.refl _ _).alloc (Nat.le_refl _) _
  obtain ⟨V, c, hcv, hbV, hsV, hOV⟩ := to_omg q5 (w.alloc o) (by omega)
  have hszU : (w.alloc o).heap.size = w.heap.size + 1 := by simp
  have HS7 : Hid (q5.length = m.length + 1 + p.length + 10 + 1) := s7
  clear s7
  rw [hszU] at hcv hbV hsV hOV
  have hrV : V.heap[w.heap.size]? = some (.cells #[.string (str m), .string (str p), .slice hp H.length hc, .slice bp B.length bc] 39 (0, 0)) := by
    rw [hbV.block _ (by omega), ho]; exact heap_alloc_new w _
  have hwV : Below w.heap.size w V := hbU.trans (hbV.mono (by omega))
  have HOV := hide (show Omg V (w.heap.size + 1) (some ⟨w.heap.size + 1, 0, none⟩) c q5 from hOV)
  have HEV : Hid (EnvH w) := hE
  have HWV := hide hwV
  have HRV := hide hrV
  have HHV : Hid (HdR w hp H ∧ Bs w bp bc B ∧ w.heap.size + 1 < V.heap.size) := ⟨h1, b1, hsV⟩
  have v2 : V.cell? ⟨w.heap.size, 2, none⟩ = some (.slice hp H.length hc) := cell_of_row _ _ _ _ _ _ hrV
  rw [ho] at hcv
  clear ho hbU hbV hsV hOV hszU hrV hwV hE h1 b1 o
  have hHl : H.length ≤ 32768 := by have := hsz_len H; omega
  go_enter Tryz.func25, Tryz.ntmps25
  go_wp2_with fail
  go_loopw [4, 23] (fun v i wr => ∃ (b c : Nat) (r : List UInt8) (k : Nat), v = .slice (some ⟨b, 0, none⟩) r.length c ∧ i = .int .i64 (k : Int) ∧ k ≤ H.length ∧ Hid (r = q5 ++ (H.take k).flatMap hline) ∧ Hid (Omg wr (w.heap.size + 1) (some ⟨b, 0, none⟩) c r) ∧ Hid (Below (w.heap.size + 1) V wr)) (fun _ i _ => H.length - (intOf i).toNat)
  case atStart => exact ⟨w.heap.size + 1, c, q5, 0, rfl, rfl, Nat.zero_le _, by show _ = _; simp, HOV, Below.refl _ _⟩
  case round =>
    obtain ⟨b, c, r, k, rfl, rfl, hk, HR, HO, HB⟩ := hrel
    have HBw : Hid (Below w.heap.size w wr) := (unhide HWV).trans ((unhide HB).mono (by omega))
    have HSR : Hid (w.heap.size + 1 < wr.heap.size) := Nat.lt_of_lt_of_le (unhide HHV).2.2 (unhide HB).size
    have hrl : r.length + B.length ≤ m.length + p.length + hsz (H.take k) + B.length + 12 ∧ r.length + B.length ≤ 140737488351250 := by
      rw [unhide HR, List.length_append, unhide HS7]
      have := hl_len (H.take k)
      have := hsz_take H k
      omega
    by_cases hlt : k < H.length
    · have hlt' : (k : Int) < (H.length : Int) := by omega
      obtain ⟨d, hd⟩ : ∃ d, H[k]? = some d := ⟨_, List.getElem?_eq_getElem hlt⟩
      obtain ⟨g, off, hpe, hcs⟩ := ((unhide HHV).1.below (unhide HBw) (Nat.le_refl _)).mem (by intro e; subst e; simp at hd)
      subst hpe
      obtain ⟨c0, c1⟩ := hcs k d hd
      have hdm := hsz_mem H d (List.mem_of_getElem? hd)
      have HD := hide (hl_step H k d hd)
      have hst := hsz_step H k d hd
      have hst2 := hsz_take H (k + 1)
      have HLT := hide hlt
      clear hcs hd
      obtain ⟨x, y⟩ := d
      simp only at c0 c1 hdm hst
      have hsum : r.length + x.length + y.length + 4 ≤ 140737488355328 := by omega
      clear hst hst2
      have hbA : Below wr.heap.size wr (wr.alloc (.cells #[.string (str x), .string (str y)] 49)) := (Below.refl _ _).alloc (Nat.le_refl _) _
      have HAP := hide (appendHeader_any b c r (x, y) (w.heap.size + 1) (wr.alloc (.cells #[.string (str x), .string (str y)] 49)) ((unhide HO).below hbA (Nat.le_refl _)) (by have := unhide HSR; simp; omega) hsum (by simp only; omega) (by simp only; omega))
      have HBA := hide hbA
      clear hbA
      go_wp2_with fail
      refine (unhide HAP).mono ?_
      rintro e w2 ⟨b2, c2, r2, rfl, HR2, HO2, HB2⟩
      clear HAP
      go_wp2_with fail
      go_roundw
      case rel =>
        have := unhide HLT
        refine ⟨b2, c2, r2, k + 1, rfl, by go_num, by omega, ?_, HO2, ?_⟩
        · show _ = _
          rw [unhide HR2, unhide HR, unhide HD, List.append_assoc]
        · exact (unhide HB).trans (((unhide HBA).mono (Nat.le_of_lt (unhide HSR))).trans (unhide HB2))
      case measure => have := unhide HLT; simp [intOf]; omega
    · have hlt' : ¬ (k : Int) < (H.length : Int) := by omega
      obtain rfl : k = H.length := by omega
      have HR' : Hid (r = q5 ++ H.flatMap hline) := by have := unhide HR; rw [List.take_length] at this; exact this
      clear hlt HR v2
      go_wp2_with (first
        | (at_builtin; refine wp_apptext _ rfl _ _ rfl (w.heap.size + 1) b c r rfl (unhide HO) [13, 10] rfl ?c3 ?c4 ?_)
        | fail)
      case c3 => omega
      case c4 => exact Nat.le_of_lt (unhide HSR)
      intro b2 c2 r2 w2 HR2 HO2 hg2
      have hbl := (unhide HO).lt b rfl
      have HV2 : Hid (Below (w.heap.size + 1) V w2) := (unhide HB).grown (unhide hg2) (Nat.le_of_lt (unhide HSR)) (fun k hk => by cases hk; exact hbl.1)
      have HW2 : Hid (Below w.heap.size w w2) := (unhide HWV).trans ((unhide HV2).mono (by omega))
      have HS2 : Hid (w.heap.size + 1 < w2.heap.size) := Nat.lt_of_lt_of_le (unhide HHV).2.2 (unhide HV2).size
      have hr2l : r2.length = r.length + 2 := by rw [unhide HR2]; simp
      have HR2l := hide hr2l
      have hr2b : r2.length + B.length ≤ 140737488351252 := by omega
      have HRW2 := hide (((unhide HV2).block w.heap.size (by omega)).trans (unhide HRV))
      have v3 : w2.cell? ⟨w.heap.size, 3, none⟩ = some (.slice bp B.length bc) := cell_of_row _ _ _ _ _ _ (unhide HRW2)
      have HBs2 := hide ((unhide HHV).2.1.below (unhide HW2) (Nat.le_refl _))
      clear hg2 hbl HO HB HBw HSR hr2l hrl
      go_wp2_with (first
        | (at_builtin; refine wp_appbytes _ rfl _ _ rfl (w.heap.size + 1) b2 c2 r2 rfl (unhide HO2) bp bc B rfl (unhide HBs2).row (unhide HBs2).nz ?d3 ?d4 ?_)
        | fail)
      case d3 => omega
      case d4 => exact Nat.le_of_lt (unhide HS2)
      intro b3 c3 r3 w3 HR3 HO3 hg3
      have hbl := (unhide HO2).lt b2 rfl
      have HV3 : Hid (Below (w.heap.size + 1) V w3) := (unhide HV2).grown (unhide hg3) (Nat.le_of_lt (unhide HS2)) (fun k hk => by cases hk; exact hbl.1)
      have HW3 : Hid (Below w.heap.size w w3) := (unhide HWV).trans ((unhide HV3).mono (by omega))
      have HS3 : Hid (w.heap.size + 1 < w3.heap.size) := Nat.lt_of_lt_of_le (unhide HHV).2.2 (unhide HV3).size
      have hr3 : r3 = prM m p H B := by rw [unhide HR3, unhide HR2, unhide HR', unhide HPR]
      have HR3' := hide hr3
      have hr3b : r3.length ≤ 140737488351252 := by rw [unhide HR3, List.length_append]; omega
      have HRW3 := hide (((unhide HV3).block w.heap.size (by omega)).trans (unhide HRV))
      have HP := hide (parse_w w3 (some ⟨b3, 0, none⟩) c3 r3 ((unhide HEV).below (unhide HW3)) (unhide HO3).toBs (by omega))
      obtain ⟨P, hP⟩ : ∃ P, P = pM r3 := ⟨_, rfl⟩
      rw [← hP] at HP
      have HPM : Hid (P = pM r3) := hP
      clear hP hg3 hbl HO2 HV2 HW2 HS2 hr2b HBs2 HR2 HR3 HRW2 v3 hr3 HR' HR2l
      have hhl := pM_hl r3
      rw [← unhide HPM] at hhl
      obtain ⟨⟨pm, pp, ph, pb⟩, n, st⟩ := P
      simp only at HP hhl
      go_wp2_with fail
      refine (unhide HP).mono ?_
      rintro e W ⟨hp2, hc2, bp2, bc2, rfl, HRq, HB4⟩
      clear HP
      obtain ⟨o, ho⟩ : ∃ o, o = Obj.cells #[.string (str pm), .string (str pp), .slice hp2 ph.length hc2, .slice bp2 pb.length bc2] 39 := ⟨_, rfl⟩
      have hbU : Below W.heap.size W (W.alloc o) := (Below.refl _ _).alloc (Nat.le_refl _) _
      have hb4 : Below w3.heap.size w3 (W.alloc o) := (unhide HB4).trans (hbU.mono (unhide HB4).size)
      have hwU : Below w.heap.size w (W.alloc o) := (unhide HW3).trans (hb4.mono (unhide HW3).size)
      have hrU := (hb4.block w.heap.size (by have := unhide HS3; omega)).trans (unhide HRW3)
      have q0 : (W.alloc o).cell? ⟨w.heap.size, 0, none⟩ = some (.string (str m)) := cell_of_row _ _ _ _ _ _ hrU
      have q1' : (W.alloc o).cell? ⟨w.heap.size, 1, none⟩ = some (.string (str p)) := cell_of_row _ _ _ _ _ _ hrU
      have q2' : (W.alloc o).cell? ⟨w.heap.size, 2, none⟩ = some (.slice hp H.length hc) := cell_of_row _ _ _ _ _ _ hrU
      have q3' : (W.alloc o).cell? ⟨w.heap.size, 3, none⟩ = some (.slice bp B.length bc) := cell_of_row _ _ _ _ _ _ hrU
      have HSM := hide (same_any pm pp m p ph H pb B hp2 hp bp2 bp hc2 hc bc2 bc (W.alloc o) ((unhide HRq).hdr.below hbU (Nat.le_refl _)) ((unhide HHV).1.below hwU (Nat.le_refl _)) ((unhide HRq).own.toBs.below hbU (Nat.le_refl _)) ((unhide HHV).2.1.below hwU (Nat.le_refl _)) (by omega))
      have HOU : Hid (Bs (W.alloc o) (some ⟨b3, 0, none⟩) c3 r3) := (unhide HO3).toBs.below hb4 (Nat.le_refl _)
      have HWU := hide hwU
      rw [ho] at q0 q1' q2' q3' HSM HOU HWU
      clear ho hbU hb4 hwU hrU HRq HB4 HO3 HV3 HW3 HS3 HRW3 o
      by_cases hs : st = 0
      · subst hs
        by_cases hn : n = r3.length
        · subst hn
          by_cases he : pm = m ∧ pp = p ∧ ph = H ∧ pb = B
          · rw [decide_eq_true he] at HSM
            have HF : Hid (pM r3 = (⟨m, p, H, B⟩, r3.length, 0)) := by
              show _ = _
              rw [← unhide HPM, he.1, he.2.1, he.2.2.1, he.2.2.2]
            have hnb : ((r3.length : Int) != (r3.length : Int)) = false := by simp
            clear he HPM
            go_wp2_with fail
            refine (unhide HSM).mono ?_
            rintro e V2 ⟨rfl, HBV⟩
            have HBF := hide ((unhide HWU).trans ((unhide HBV).mono (unhide HWU).size))
            have HBsF := hide ((unhide HOU).below (unhide HBV) (Nat.le_refl _))
            clear HSM q0 q1' q2' q3'
            go_wp2_with fail
            go_ret2
            exact ⟨some ⟨b3, 0, none⟩, c3, r3, 0, rfl, .inl ⟨rfl, unhide HR3', unhide HF⟩, HBsF, HBF⟩
          · rw [decide_eq_false he] at HSM
            have hnb : ((r3.length : Int) != (r3.length : Int)) = false := by simp
            clear he HPM
            go_wp2_with fail
            refine (unhide HSM).mono ?_
            rintro e V2 ⟨rfl, HBV⟩
            have HBF := hide ((unhide HWU).trans ((unhide HBV).mono (unhide HWU).size))
            clear HSM q0 q1' q2' q3'
            go_wp2_with fail
            go_ret2
            exact ⟨none, 0, [], 1, rfl, .inr ⟨rfl, rfl⟩, ⟨fun h => absurd rfl h, Nat.zero_le _, Nat.zero_le _, fun _ => rfl⟩, HBF⟩
        · have hnb : ((n : Int) != (r3.length : Int)) = true := by simp; omega
          have hnb2 : ¬ (n : Int) = (r3.length : Int) := by omega
          clear HSM HPM
          go_wp2_with fail
          go_ret2
          exact ⟨none, 0, [], 1, rfl, .inr ⟨rfl, rfl⟩, ⟨fun h => absurd rfl h, Nat.zero_le _, Nat.zero_le _, fun _ => rfl⟩, HWU⟩
      · have hnb : ((st : Int) != 0) = true := by simp; omega
        have hnb2 : ¬ (st : Int) = 0 := by omega
        clear HSM HPM
        go_wp2_with fail
        go_ret2
        exact ⟨none, 0, [], 1, rfl, .inr ⟨rfl, rfl⟩, ⟨fun h => absurd rfl h, Nat.zero_le _, Nat.zero_le _, fun _ => rfl⟩, HWU⟩
#print axioms print_any
end Go.Proofs.YtonaekkenggmbaaGreatDoor
end
section
set_option linter.unusedVariables false
set_option maxRecDepth 1000000
namespace Go.Proofs.YtonaekkenggmbaaGreatDoor
open Go.RowKit

set_option maxHeartbeats 4000000 in
theorem samh_any (p q : Option Addr) (cp cq : Nat) (H G : List Hd) (w : World) (hp : HdR w p H) (hq : HdR w q G) (hl : H.length ≤ 1000000) :
    Calls Tryz.prog 47 #[.slice p H.length cp, .slice q G.length cq] w fun e w' => e = .returned (.bool (decide (H = G))) ∧ Hid (Below w.heap.size w w') := by
  have HP := hide hp
  have HQ := hide hq
  clear hp hq
  by_cases hlen : H.length = G.length
  · have hne : ((H.length : Int) != (G.length : Int)) = false := by rw [hlen]; simp
    go_enter Tryz.func47, Tryz.ntmps47
    go_wp2
    go_loopw [13] (fun i wr => ∃ k : Nat, k ≤ H.length ∧ i = .int .i64 (k : Int) ∧ Hid (H.take k = G.take k) ∧ Hid (Below w.heap.size w wr)) (fun i _ => H.length - (intOf i).toNat)
    case atStart => exact ⟨0, Nat.zero_le _, rfl, rfl, Below.refl _ _⟩
    case round =>
      obtain ⟨k, hk, rfl, HT, HB⟩ := hrel
      by_cases hlt : k < H.length
      · obtain ⟨d, hd⟩ : ∃ d, H[k]? = some d := ⟨_, List.getElem?_eq_getElem hlt⟩
        obtain ⟨d2, hd2⟩ : ∃ d, G[k]? = some d := ⟨_, List.getElem?_eq_getElem (by omega)⟩
        obtain ⟨b, off, hpe, hc⟩ := ((unhide HP).below (unhide HB) (Nat.le_refl _)).mem (by intro e; subst e; simp at hd)
        obtain ⟨b2, off2, hqe, hc2⟩ := ((unhide HQ).below (unhide HB) (Nat.le_refl _)).mem (by intro e; subst e; simp at hd2)
        subst hpe hqe
        obtain ⟨c0, c1⟩ := hc k d hd
        obtain ⟨d0, d1⟩ := hc2 k d2 hd2
        have hlt' : (k : Int) < (H.length : Int) := by omega
        have hlt2 : (k : Int) < (G.length : Int) := by omega
        have HD := hide hd
        have HD2 := hide hd2
        clear hc hc2 hd hd2
        obtain ⟨x, y⟩ := d
        obtain ⟨x2, y2⟩ := d2
        simp only at c0 c1 d0 d1
        go_upto_region 6 with fail
        have hg : Tryz.prog.eqGuardType Tryz.prog.depth 49 = false := by kernel_rfl
        have kq := neqH x y x2 y2
        by_cases he : x = x2 ∧ y = y2
        · obtain ⟨rfl, rfl⟩ := he
          have hb : (x == x && y == y) = true := by simp
          rw [hb] at kq
          clear hb
          go_quiet (fail)
          go_wp2
          have HB2 := hide (below_drewN (unhide HB) nq)
          go_roundw
          case rel =>
            refine ⟨k + 1, by omega, by go_num, ?_, HB2⟩
            show _ = _
            obtain ⟨l1, e1⟩ := List.getElem?_eq_some_iff.1 (unhide HD)
            obtain ⟨l2, e2⟩ := List.getElem?_eq_some_iff.1 (unhide HD2)
            rw [List.take_succ_eq_append_getElem l1, List.take_succ_eq_append_getElem l2, unhide HT, e1, e2]
          case measure => simp [intOf]; omega
        · have hb : (x == x2 && y == y2) = false := by
            by_cases h1 : x = x2
            · have h2 : ¬ y = y2 := fun e => he ⟨h1, e⟩
              simp [h2]
            · simp [h1]
          rw [hb] at kq
          have HF : Hid (decide (H = G) = false) := by
            show _ = _
            rw [decide_eq_false_iff_not]
            intro e
            have := unhide HD
            rw [e, unhide HD2] at this
            simp only [Option.some.injEq, Prod.mk.injEq] at this
            exact he ⟨this.1.symm, this.2.symm⟩
          clear hb
          go_quiet (fail)
          go_wp2
          go_ret
          exact ⟨by rw [unhide HF]; rfl, hide (below_drewN (unhide HB) nq)⟩
      · obtain rfl : k = H.length := by omega
        have hlt' : ¬ (H.length : Int) < (H.length : Int) := by omega
        have HF : Hid (decide (H = G) = true) := by
          show _ = _
          have := unhide HT
          rw [List.take_length, hlen, List.take_length] at this
          simp [this]
        clear hlt
        go_wp2
        go_ret
        exact ⟨by rw [unhide HF]; rfl, HB⟩
  · have hne : ((H.length : Int) != (G.length : Int)) = true := by simp; omega
    have HF : Hid (decide (H = G) = false) := by
      show _ = _
      rw [decide_eq_false_iff_not]
      intro e
      exact hlen (by rw [e])
    go_enter Tryz.func47, Tryz.ntmps47
    go_wp2
    go_ret
    exact ⟨by rw [unhide HF]; rfl, hide (Below.refl _ _)⟩
#print axioms samh_any
set_option maxHeartbeats 4000000 in
theorem samq_any (m p n q : List UInt8) (H G : List Hd) (B C : List UInt8) (hp hq bp bq : Option Addr) (hc hd bc bd : Nat) (w : World) (h1 : HdR w hp H) (h2 : HdR w hq G) (b1 : Bs w bp bc B) (b2 : Bs w bq bd C) (hl : H.length ≤ 1000000) :
    Calls Tryz.prog 17 #[.agg #[.string (str m), .string (str p), .slice hp H.length hc, .slice bp B.length bc], .agg #[.string (str n), .string (str q), .slice hq G.length hd, .slice bq C.length bd]] w fun e w' => e = .returned (.bool (decide (m = n ∧ p = q ∧ H = G ∧ B = C))) ∧ Hid (Below w.heap.size w w') := by
  have H1 := hide h1
  have H2 := hide h2
  have B1 := hide b1
  have B2 := hide b2
  clear h1 h2 b1 b2
  obtain ⟨o1, ho1⟩ : ∃ o, o = Obj.cells #[.string (str m), .string (str p), .slice hp H.length hc, .slice bp B.length bc] 39 := ⟨_, rfl⟩
  obtain ⟨o2, ho2⟩ : ∃ o, o = Obj.cells #[.string (str n), .string (str q), .slice hq G.length hd, .slice bq C.length bd] 39 := ⟨_, rfl⟩
  have hb : Below w.heap.size w ((w.alloc o1).alloc o2) := ((Below.refl _ _).alloc (Nat.le_refl _) _).alloc (by simp) _
  have HS := hide (samh_any hp hq hc hd H G _ ((unhide H1).below hb (Nat.le_refl _)) ((unhide H2).below hb (Nat.le_refl _)) hl)
  have k1 := run_str _ _ _ bc B (unhide B1 |>.below hb (Nat.le_refl _)).row rfl
  have k2 := run_str _ _ _ bd C (unhide B2 |>.below hb (Nat.le_refl _)).row rfl
  have HB := hide hb
  rw [ho1, ho2] at HS HB k1 k2
  clear hb ho1 ho2 o1 o2
  by_cases e1 : m = n
  · have f1 : ((str m).toList == (str n).toList) = true := by rw [e1]; simp
    by_cases e2 : p = q
    · have f2 : ((str p).toList == (str q).toList) = true := by rw [e2]; simp
      by_cases e4 : B = C
      · have f3 : ((str B).toList == (str C).toList) = true := by rw [e4]; simp
        have HT : Hid (decide (m = n ∧ p = q ∧ H = G ∧ B = C) = decide (H = G)) := by
          show _ = _
          rw [Bool.eq_iff_iff]
          simp [e1, e2, e4]
        clear e1 e2 e4
        generalize decide (m = n ∧ p = q ∧ H = G ∧ B = C) = T at *
        generalize decide (H = G) = T2 at *
        obtain rfl : T = T2 := unhide HT
        go_enter Tryz.func17, Tryz.ntmps17
        go_wp2_with fail
        refine (unhide HS).mono ?_
        rintro e w' ⟨rfl, HB2⟩
        have HBB := hide ((unhide HB).trans ((unhide HB2).mono (unhide HB).size))
        clear HS
        go_wp2_with fail
        go_ret
        exact ⟨rfl, HBB⟩
      · have f3 : ((str B).toList == (str C).toList) = false := by rw [toList_str, toList_str, beq_eq_false_iff_ne]; exact e4
        have HT : Hid (decide (m = n ∧ p = q ∧ H = G ∧ B = C) = false) := by
          show _ = _
          rw [decide_eq_false_iff_not]
          exact fun h => e4 h.2.2.2
        clear e1 e2 e4 HS
        generalize decide (m = n ∧ p = q ∧ H = G ∧ B = C) = T at *
        go_enter Tryz.func17, Tryz.ntmps17
        go_wp2_with fail
        go_ret
        exact ⟨by rw [unhide HT]; rfl, HB⟩
    · have f2 : ((str p).toList == (str q).toList) = false := by rw [toList_str, toList_str, beq_eq_false_iff_ne]; exact e2
      have HT : Hid (decide (m = n ∧ p = q ∧ H = G ∧ B = C) = false) := by
        show _ = _
        rw [decide_eq_false_iff_not]
        exact fun h => e2 h.2.1
      clear e1 e2 HS k1 k2
      generalize decide (m = n ∧ p = q ∧ H = G ∧ B = C) = T at *
      go_enter Tryz.func17, Tryz.ntmps17
      go_wp2_with fail
      go_ret
      exact ⟨by rw [unhide HT]; rfl, HB⟩
  · have f1 : ((str m).toList == (str n).toList) = false := by rw [toList_str, toList_str, beq_eq_false_iff_ne]; exact e1
    have HT : Hid (decide (m = n ∧ p = q ∧ H = G ∧ B = C) = false) := by
      show _ = _
      rw [decide_eq_false_iff_not]
      exact fun h => e1 h.1
    clear e1 HS k1 k2
    generalize decide (m = n ∧ p = q ∧ H = G ∧ B = C) = T at *
    go_enter Tryz.func17, Tryz.ntmps17
    go_wp2_with fail
    go_ret
    exact ⟨by rw [unhide HT]; rfl, HB⟩
#print axioms samq_any
end Go.Proofs.YtonaekkenggmbaaGreatDoor
end
