/-
  httpd's reference: a first line.; httpd's reference: the lines behind the first one.
-/
import Derived.Test.YtonaekkenggmbaaGreatDoorPkHtesbd
import Derived.Deep.RegionHeld3
section
set_option linter.unusedVariables false
set_option maxRecDepth 1000000
namespace Go.Proofs.YtonaekkenggmbaaGreatDoor
open Go.RowKit

def er4 (n : Nat) : List UInt8 × List UInt8 × Nat := ([], [], n)
/-- The version's test, test by test. -/
def ver8 (v : List UInt8) : Bool := !decide (v.length = 8) || (!(hHTTP.isPrefixOf v) || (!isM 1 (v.getD 5 0) || (!decide (v.getD 6 0 = 46) || !isM 1 (v.getD 7 0))))
def kn8 (m : List UInt8) : Bool := !(m == [71, 69, 84]) && (!(m == [80, 79, 83, 84]) && (!(m == [80, 85, 84]) && !(m == [68, 69, 76, 69, 84, 69])))
def ln4 (m t v : List UInt8) : List UInt8 × List UInt8 × Nat := if (v == h11) = true then (if kn8 m = true then er4 501 else if 1024 < t.length then er4 414 else (m, t, 0)) else er4 505
def ln3 (m t v : List UInt8) : List UInt8 × List UInt8 × Nat :=
  if (!decide (etM 7 v = v.length) || (!alM m 1 16 2 || (!([47].isPrefixOf t) || !alM t 1 8192 3))) = true then er4 400 else if ver8 v = true then er4 400 else ln4 m t v
def ln2 (m s : List UInt8) : List UInt8 × List UInt8 × Nat := if (decide (etM 7 s = 0) || decide (etM 7 s = s.length)) = true then er4 400 else ln3 m (s.take (etM 7 s)) (s.drop (etM 7 s + 1))
def lnM (s : List UInt8) : List UInt8 × List UInt8 × Nat := if (decide (etM 7 s = 0) || decide (etM 7 s = s.length)) = true then er4 400 else ln2 (s.take (etM 7 s)) (s.drop (etM 7 s + 1))
set_option maxHeartbeats 4000000 in
theorem line8 (s : List UInt8) (w : World) (hs : s.length ≤ 1000000) :
    Calls Tryz.prog 74 #[.string (str s)] w fun e w' => e = .returned (.tuple #[.string (str (lnM s).1), .string (str (lnM s).2.1), .int .i64 ((lnM s).2.2 : Int)]) ∧ Hid (Below w.heap.size w w') := by
  have z1 : (str s).size = s.length := str_size s
  have HE : Hid (Calls Tryz.prog 86 #[.string (str s), .int .i64 7] w fun e w' => e = .returned (.int .i64 (etM 7 s : Int)) ∧ Hid (Below w.heap.size w w')) := eat_any s 7 (by decide) w hs
  obtain ⟨X, hX⟩ : ∃ X, X = lnM s := ⟨_, rfl⟩
  rw [← hX]
  unfold lnM at hX
  have hal := etM_le 7 s
  generalize etM 7 s = a at *
  have HX := hide hX
  clear hX
  go_enter Tryz.func74, Tryz.ntmps74
  go_wp2_with fail
  refine (unhide HE).mono ?_
  rintro e w1 ⟨rfl, HB1⟩
  clear HE
  by_cases h0 : a = 0
  · have e0 : ((a : Int) == 0) = true := by rw [beq_iff_eq]; omega
    rw [decide_eq_true h0] at HX
    clear h0 hal
    go_wp2
    go_ret3
    exact ⟨by rw [unhide HX]; rfl, HB1⟩
  · have e0 : ((a : Int) == 0) = false := by rw [beq_eq_false_iff_ne]; omega
    by_cases hl : a = s.length
    · have el : ((a : Int) == (s.length : Int)) = true := by rw [beq_iff_eq]; omega
      rw [decide_eq_true hl, decide_eq_false h0] at HX
      clear h0 hl hal
      go_wp2
      go_ret3
      exact ⟨by rw [unhide HX]; rfl, HB1⟩
    · have el : ((a : Int) == (s.length : Int)) = false := by rw [beq_eq_false_iff_ne]; omega
      rw [decide_eq_false hl, decide_eq_false h0] at HX
      have ha1 : a + 1 ≤ s.length := by omega
      obtain ⟨m, hm⟩ : ∃ m, m = s.take a := ⟨_, rfl⟩
      obtain ⟨t, ht⟩ : ∃ t, t = s.drop (a + 1) := ⟨_, rfl⟩
      have x1 : (str s).extract 0 a = str m := by rw [hm]; exact cut_to s a
      have x2 : (str s).extract (a + 1) s.length = str t := by rw [ht]; exact cut_from s (a + 1)
      have hml : m.length ≤ 1000000 := by rw [hm]; simp; omega
      have htl : t.length ≤ 1000000 := by rw [ht]; simp; omega
      rw [← hm, ← ht] at HX
      have HX2 : Hid (X = ln2 m t) := unhide HX
      clear HX hm ht h0 hl
      have z2 : (str t).size = t.length := str_size t
      have HE : Hid (∀ w, Calls Tryz.prog 86 #[.string (str t), .int .i64 7] w fun e w' => e = .returned (.int .i64 (etM 7 t : Int)) ∧ Hid (Below w.heap.size w w')) := fun w => eat_any t 7 (by decide) w htl
      have hX := unhide HX2
      unfold ln2 at hX
      have hbl := etM_le 7 t
      generalize etM 7 t = b at *
      have HX := hide hX
      clear hX HX2
      go_upto_region 4 with fail
      go_quiet (fail)
      go_wp2_with fail
      refine (unhide HE _).mono ?_
      rintro e w2 ⟨rfl, HB2'⟩
      have HB2 : Hid (Below w.heap.size w w2) := (below_drewN (unhide HB1) nq).trans ((unhide HB2').mono (below_drewN (unhide HB1) nq).size)
      clear HE HB2' HB1 x1 x2
      by_cases h0 : b = 0
      · have e0 : ((b : Int) == 0) = true := by rw [beq_iff_eq]; omega
        rw [decide_eq_true h0] at HX
        clear h0 hbl
        go_wp2
        go_ret3
        exact ⟨by rw [unhide HX]; rfl, HB2⟩
      · have e0 : ((b : Int) == 0) = false := by rw [beq_eq_false_iff_ne]; omega
        by_cases hl : b = t.length
        · have el : ((b : Int) == (t.length : Int)) = true := by rw [beq_iff_eq]; omega
          rw [decide_eq_true hl, decide_eq_false h0] at HX
          clear h0 hl hbl
          go_wp2
          go_ret3
          exact ⟨by rw [unhide HX]; rfl, HB2⟩
        · have el : ((b : Int) == (t.length : Int)) = false := by rw [beq_eq_false_iff_ne]; omega
          rw [decide_eq_false hl, decide_eq_false h0] at HX
          have hb1 : b + 1 ≤ t.length := by omega
          obtain ⟨g, hg⟩ : ∃ g, g = t.take b := ⟨_, rfl⟩
          obtain ⟨v, hv⟩ : ∃ v, v = t.drop (b + 1) := ⟨_, rfl⟩
          have x1 : (str t).extract 0 b = str g := by rw [hg]; exact cut_to t b
          have x2 : (str t).extract (b + 1) t.length = str v := by rw [hv]; exact cut_from t (b + 1)
          have hgl : g.length ≤ 1000000 := by rw [hg]; simp; omega
          have hvl : v.length ≤ 1000000 := by rw [hv]; simp; omega
          rw [← hg, ← hv] at HX
          have HX2 : Hid (X = ln3 m g v) := unhide HX
          clear HX hg hv h0 hl
          have z3 : (str v).size = v.length := str_size v
          have z4 : (str g).size = g.length := str_size g
          have HE : Hid (∀ w, Calls Tryz.prog 86 #[.string (str v), .int .i64 7] w fun e w' => e = .returned (.int .i64 (etM 7 v : Int)) ∧ Hid (Below w.heap.size w w')) := fun w => eat_any v 7 (by decide) w hvl
          have HA1 : Hid (∀ w, Calls Tryz.prog 80 #[.string (str m), .int .i64 1, .int .i64 16, .int .i64 2] w fun e w' => e = .returned (.bool (alM m 1 16 2)) ∧ Hid (Below w.heap.size w w')) := fun w => all8_any m 1 16 2 (by decide) w hml (by decide) (by decide)
          have HA2 : Hid (∀ w, Calls Tryz.prog 79 #[.string (str g), .string ⟨#[47]⟩] w fun e w' => e = .returned (.bool ([47].isPrefixOf g)) ∧ w' = w) := fun w => begins_any g [47] w (by omega) (by decide)
          have HA3 : Hid (∀ w, Calls Tryz.prog 80 #[.string (str g), .int .i64 1, .int .i64 8192, .int .i64 3] w fun e w' => e = .returned (.bool (alM g 1 8192 3)) ∧ Hid (Below w.heap.size w w')) := fun w => all8_any g 1 8192 3 (by decide) w hgl (by decide) (by decide)
          have HA4 : Hid (∀ w, Calls Tryz.prog 79 #[.string (str v), .string ⟨#[72, 84, 84, 80, 47]⟩] w fun e w' => e = .returned (.bool (hHTTP.isPrefixOf v)) ∧ w' = w) := fun w => begins_any v hHTTP w (by omega) (by decide)
          have HI1 : Hid (∀ w, Calls Tryz.prog 77 #[.int .u8 ((v.getD 5 0).toNat : Int), .int .i64 1] w fun e w' => e = .returned (.bool (isM 1 (v.getD 5 0))) ∧ Hid (Below w.heap.size w w')) := fun w => is1_any (v.getD 5 0) w
          have HI2 : Hid (∀ w, Calls Tryz.prog 77 #[.int .u8 ((v.getD 7 0).toNat : Int), .int .i64 1] w fun e w' => e = .returned (.bool (isM 1 (v.getD 7 0))) ∧ Hid (Below w.heap.size w w')) := fun w => is1_any (v.getD 7 0) w
          have HIX : Hid (v.length = 8 → (∀ w, (Instr.index 9 (.string (str v)) (.int .i64 5)).run Tryz.prog w = .ok (.int .u8 ((v.getD 5 0).toNat : Int)) w) ∧ (∀ w, (Instr.index 9 (.string (str v)) (.int .i64 6)).run Tryz.prog w = .ok (.int .u8 ((v.getD 6 0).toNat : Int)) w) ∧ (∀ w, (Instr.index 9 (.string (str v)) (.int .i64 7)).run Tryz.prog w = .ok (.int .u8 ((v.getD 7 0).toNat : Int)) w)) := fun h => ⟨fun w => run_ixs w v 5 (by omega), fun w => run_ixs w v 6 (by omega), fun w => run_ixs w v 7 (by omega)⟩
          have hX := unhide HX2
          unfold ln3 ver8 ln4 kn8 at hX
          generalize v.getD 5 0 = v5 at *
          generalize v.getD 6 0 = v6 at *
          generalize v.getD 7 0 = v7 at *
          generalize etM 7 v = c at *
          generalize alM m 1 16 2 = b1 at *
          generalize ([47] : List UInt8).isPrefixOf g = b2 at *
          generalize alM g 1 8192 3 = b3 at *
          generalize hHTTP.isPrefixOf v = b4 at *
          generalize isM 1 v5 = b5 at *
          generalize isM 1 v7 = b7 at *
          obtain ⟨q1, hq1⟩ : ∃ q, (v == h11) = q := ⟨_, rfl⟩
          obtain ⟨k1, hk1⟩ : ∃ q, (m == [71, 69, 84]) = q := ⟨_, rfl⟩
          obtain ⟨k2, hk2⟩ : ∃ q, (m == [80, 79, 83, 84]) = q := ⟨_, rfl⟩
          obtain ⟨k3, hk3⟩ : ∃ q, (m == [80, 85, 84]) = q := ⟨_, rfl⟩
          obtain ⟨k4, hk4⟩ : ∃ q, (m == [68, 69, 76, 69, 84, 69]) = q := ⟨_, rfl⟩
          rw [hq1, hk1, hk2, hk3, hk4] at hX
          have tq : ((str v).toList == [72, 84, 84, 80, 47, 49, 46, 49]) = q1 := by rw [toList_str]; exact hq1
          have t1 : ((str m).toList == [71, 69, 84]) = k1 := by rw [toList_str]; exact hk1
          have t2 : ((str m).toList == [80, 79, 83, 84]) = k2 := by rw [toList_str]; exact hk2
          have t3 : ((str m).toList == [80, 85, 84]) = k3 := by rw [toList_str]; exact hk3
          have t4 : ((str m).toList == [68, 69, 76, 69, 84, 69]) = k4 := by rw [toList_str]; exact hk4
          have HX := hide hX
          clear hX HX2 hq1 hk1 hk2 hk3 hk4
          go_upto_region 8 with fail
          go_quiet (fail)
          go_wp2_with fail
          refine (unhide HE _).mono ?_
          rintro e w3 ⟨rfl, HB3'⟩
          have HB3 : Hid (Below w.heap.size w w3) := (below_drewN (unhide HB2) nq).trans ((unhide HB3').mono (below_drewN (unhide HB2) nq).size)
          clear HE HB3' HB2 x1 x2
          by_cases hc : c = v.length
          · have ec : ((c : Int) != (v.length : Int)) = false := by rw [bne_eq_false_iff_eq]; omega
            rw [decide_eq_true hc] at HX
            clear hc
            go_wp2_with fail
            refine (unhide HA1 _).mono ?_
            rintro e w4 ⟨rfl, HB4'⟩
            have HB4 : Hid (Below w.heap.size w w4) := (unhide HB3).trans ((unhide HB4').mono (unhide HB3).size)
            clear HB4' HB3 HA1
            cases b1 with
            | false =>
              go_wp2
              go_ret3
              exact ⟨by rw [unhide HX]; rfl, HB4⟩
            | true =>
              go_wp2_with fail
              refine (unhide HA2 _).mono ?_
              rintro e w4 ⟨rfl, rfl⟩
              clear HA2
              cases b2 with
              | false =>
                go_wp2
                go_ret3
                exact ⟨by rw [unhide HX]; rfl, HB4⟩
              | true =>
                go_wp2_with fail
                refine (unhide HA3 _).mono ?_
                rintro e w5 ⟨rfl, HB5'⟩
                have HB5 : Hid (Below w.heap.size w w5) := (unhide HB4).trans ((unhide HB5').mono (unhide HB4).size)
                clear HB5' HB4 HA3
                cases b3 with
                | false =>
                  go_wp2
                  go_ret3
                  exact ⟨by rw [unhide HX]; rfl, HB5⟩
                | true =>
                  by_cases h8 : v.length = 8
                  · obtain ⟨i5, i6, i7⟩ := unhide HIX h8
                    have e8 : ((v.length : Int) != 8) = false := by rw [bne_eq_false_iff_eq]; omega
                    rw [decide_eq_true h8] at HX
                    clear h8 HIX
                    go_wp2_with fail
                    refine (unhide HA4 _).mono ?_
                    rintro e w5 ⟨rfl, rfl⟩
                    clear HA4
                    cases b4 with
                    | false =>
                      go_wp2
                      go_ret3
                      exact ⟨by rw [unhide HX]; rfl, HB5⟩
                    | true =>
                      go_wp2_with fail
                      refine (unhide HI1 _).mono ?_
                      rintro e w6 ⟨rfl, HB6'⟩
                      have HB6 : Hid (Below w.heap.size w w6) := (unhide HB5).trans ((unhide HB6').mono (unhide HB5).size)
                      clear HB6' HB5 HI1
                      cases b5 with
                      | false =>
                        go_wp2
                        go_ret3
                        exact ⟨by rw [unhide HX]; rfl, HB6⟩
                      | true =>
                        by_cases h46 : v6 = 46
                        · have e46 : ((v6.toNat : Int) != 46) = false := by rw [bne_eq_false_iff_eq, h46]; rfl
                          rw [decide_eq_true h46] at HX
                          clear h46
                          go_wp2_with fail
                          refine (unhide HI2 _).mono ?_
                          rintro e w7 ⟨rfl, HB7'⟩
                          have HB7 : Hid (Below w.heap.size w w7) := (unhide HB6).trans ((unhide HB7').mono (unhide HB6).size)
                          clear HB7' HB6 HI2
                          cases b7 with
                          | false =>
                            go_wp2
                            go_ret3
                            exact ⟨by rw [unhide HX]; rfl, HB7⟩
                          | true =>
                            cases q1 with
                            | false =>
                              go_wp2
                              go_ret3
                              exact ⟨by rw [unhide HX]; rfl, HB7⟩
                            | true =>
                              by_cases hk : (!k1 && (!k2 && (!k3 && !k4))) = true
                              · simp only [Bool.and_eq_true, Bool.not_eq_true'] at hk
                                obtain ⟨r1, r2, r3, r4⟩ := hk
                                subst r1 r2 r3 r4
                                go_wp2
                                go_ret3
                                exact ⟨by rw [unhide HX]; rfl, HB7⟩
                              · have hk' : k1 = true ∨ (k1 = false ∧ k2 = true) ∨ (k1 = false ∧ k2 = false ∧ k3 = true) ∨ (k1 = false ∧ k2 = false ∧ k3 = false ∧ k4 = true) := by
                                  cases k1 <;> cases k2 <;> cases k3 <;> cases k4 <;> simp at hk ⊢
                                have HXK : Hid (X = if 1024 < g.length then er4 414 else (m, g, 0)) := by
                                  show _ = _
                                  rw [unhide HX]
                                  simp only [hk]
                                  rfl
                                clear hk HX
                                by_cases hg4 : 1024 < g.length
                                · have HX : Hid (X = er4 414) := by show _ = _; rw [unhide HXK, if_pos hg4]
                                  have hg5 : (1024 : Int) < (g.length : Int) := by omega
                                  clear HXK hg4
                                  rcases hk' with r1 | ⟨r1, r2⟩ | ⟨r1, r2, r3⟩ | ⟨r1, r2, r3, r4⟩
                                  · subst r1
                                    go_wp2
                                    go_ret3
                                    exact ⟨by rw [unhide HX]; rfl, HB7⟩
                                  · subst r1 r2
                                    go_wp2
                                    go_ret3
                                    exact ⟨by rw [unhide HX]; rfl, HB7⟩
                                  · subst r1 r2 r3
                                    go_wp2
                                    go_ret3
                                    exact ⟨by rw [unhide HX]; rfl, HB7⟩
                                  · subst r1 r2 r3 r4
                                    go_wp2
                                    go_ret3
                                    exact ⟨by rw [unhide HX]; rfl, HB7⟩
                                · have HX : Hid (X = (m, g, 0)) := by show _ = _; rw [unhide HXK, if_neg hg4]
                                  have hg5 : ¬ (1024 : Int) < (g.length : Int) := by omega
                                  clear HXK hg4
                                  rcases hk' with r1 | ⟨r1, r2⟩ | ⟨r1, r2, r3⟩ | ⟨r1, r2, r3, r4⟩
                                  · subst r1
                                    go_wp2
                                    go_ret3
                                    exact ⟨by rw [unhide HX]; rfl, HB7⟩
                                  · subst r1 r2
                                    go_wp2
                                    go_ret3
                                    exact ⟨by rw [unhide HX]; rfl, HB7⟩
                                  · subst r1 r2 r3
                                    go_wp2
                                    go_ret3
                                    exact ⟨by rw [unhide HX]; rfl, HB7⟩
                                  · subst r1 r2 r3 r4
                                    go_wp2
                                    go_ret3
                                    exact ⟨by rw [unhide HX]; rfl, HB7⟩
                        · have e46 : ((v6.toNat : Int) != 46) = true := by rw [bne_iff_ne]; intro h; exact h46 (UInt8.toNat_inj.1 (by show v6.toNat = 46; omega))
                          rw [decide_eq_false h46] at HX
                          clear h46
                          go_wp2
                          go_ret3
                          exact ⟨by rw [unhide HX]; rfl, HB6⟩
                  · have e8 : ((v.length : Int) != 8) = true := by rw [bne_iff_ne]; omega
                    rw [decide_eq_false h8] at HX
                    clear h8 HIX
                    go_wp2
                    go_ret3
                    exact ⟨by rw [unhide HX]; rfl, HB5⟩
          · have ec : ((c : Int) != (v.length : Int)) = true := by rw [bne_iff_ne]; omega
            rw [decide_eq_false hc] at HX
            clear hc
            go_wp2
            go_ret3
            exact ⟨by rw [unhide HX]; rfl, HB3⟩
#print axioms line8
end Go.Proofs.YtonaekkenggmbaaGreatDoor
end
section
set_option linter.unusedVariables false
set_option maxRecDepth 1000000
namespace Go.Proofs.YtonaekkenggmbaaGreatDoor
open Go.RowKit

/-- One line's field. -/
def fd8 (s : List UInt8) : Option Hd :=
  if (decide (etM 4 s < 1) || (decide (64 < etM 4 s) || (decide (etM 4 s = s.length) || (!decide (s.getD (etM 4 s) 0 = 58) || !alM (trm (s.drop (etM 4 s + 1))) 0 8192 6)))) = true then none else some (sm (s.take (etM 4 s)), trm (s.drop (etM 4 s + 1)))
def fr8 : List (List UInt8) → List Hd → List Hd × Nat
  | [], acc => (acc, 0)
  | l :: L, acc => if acc.length = 32 then ([], 431) else match fd8 l with | some h => fr8 L (acc ++ [h]) | none => ([], 400)
theorem stp_apph (w : World) {ops : Array Oper} {o : Oper} {a : Act} {K : Act → World → Prop} {Q : Exit → Act → World → Prop} {E : Prop} (hgd : o.guard = none) (s x : Operand)
    (ho : o.op = .call { callee := .builtin .append, args := #[s, x], argTypes := #[37, 37] })
    (base : Nat) (a1 : Option Addr) (cap1 : Nat) (l1 : List Hd) (hs : a.eval s = .slice a1 l1.length cap1) (hown : OwnH w base a1 cap1 l1)
    (b cap2 : Nat) (n : Hd) (hx : a.eval x = .slice (some ⟨b, 0, none⟩) 1 cap2) (hs0 : w.cell? ⟨b, 0, none⟩ = some (.string (str n.1))) (hs1 : w.cell? ⟨b, 1, none⟩ = some (.string (str n.2)))
    (hlen : l1.length ≤ 100000000) (hbase : base ≤ w.heap.size)
    (h : ∀ a' cap' r w', Hid (r = l1 ++ [n]) → Hid (OwnH w' base a' cap' r) → Hid (w.grownBy w' (blk a1)) → K (a.put o.dst (.slice a' r.length cap')) w') :
    if Region.wanted o (yielded ops a.tmps) = true then Oper.wp Tryz.prog o a w K Q else E := by
  refine stp_of_list hgd (wp_apph w hgd s x ho base a1 cap1 l1 hs hown b cap2 n hx hs0 hs1 hlen hbase ?_)
  intro a' cap' r w' h1 h2 h3
  exact ⟨rfl, h a' cap' r w' h1 h2 h3⟩
/-- What two calls leave, and a block more. -/
theorem two_hd {w w3 wa wb : World} {a : Option Addr} {c : Nat} {H : List Hd} (hb : Below w.heap.size w w3) (ho : OwnH w3 w.heap.size a c H) (h1 : Below w3.drew.heap.size w3.drew wa) (h2 : Below wa.heap.size wa wb) (m t : List UInt8) :
    OwnH (wb.alloc (.cells #[.string (str m), .string (str t)] 49)) w.heap.size a c H ∧ w.heap.size ≤ (wb.alloc (.cells #[.string (str m), .string (str t)] 49)).heap.size ∧ (wb.alloc (.cells #[.string (str m), .string (str t)] 49)).cell? ⟨wb.heap.size, 0, none⟩ = some (.string (str m)) ∧ (wb.alloc (.cells #[.string (str m), .string (str t)] 49)).cell? ⟨wb.heap.size, 1, none⟩ = some (.string (str t)) ∧ (∀ w', (wb.alloc (.cells #[.string (str m), .string (str t)] 49)).grownBy w' (blk a) → Below w.heap.size w w') := by
  have e0 : Below w3.heap.size w3 w3.drew := (Below.refl _ _).drew
  have e1 : w3.drew.heap.size = w3.heap.size := rfl
  have z1 := hb.size
  have z2 := h1.size
  have z3 := h2.size
  have e2 : Below wb.heap.size wb (wb.alloc (.cells #[.string (str m), .string (str t)] 49)) := (Below.refl _ _).alloc (Nat.le_refl _) _
  have hB : Below w.heap.size w wb := ((hb.trans (e0.mono z1)).trans (h1.mono (by omega))).trans (h2.mono (by omega))
  refine ⟨(((ho.below e0 (Nat.le_refl _)).below h1 (Nat.le_refl _)).below h2 (Nat.le_refl _)).below e2 (Nat.le_refl _), Nat.le_trans hB.size e2.size, by rw [cell_of_row _ _ _ _ _ _ (heap_alloc_new wb _)]; rfl, by rw [cell_of_row _ _ _ _ _ _ (heap_alloc_new wb _)]; rfl, fun w' hg => ?_⟩
  exact below_grown (a := a) (hB.alloc hB.size _) hg (Nat.le_refl _) (fun k hk => (ho.lt k hk).1)
theorem trm_len8 (s : List UInt8) : (trm s).length ≤ s.length := trm_len s
set_option maxHeartbeats 4000000 in
theorem fields8 (w : World) (p : Option Addr) (cp : Nat) (Ls : List (List UInt8)) (hN : NsO w p Ls) (hl : Ls.length ≤ 1000000) (hs : ∀ x ∈ Ls, x.length ≤ 1000000) :
    Calls Tryz.prog 75 #[.slice p Ls.length cp] w fun e w' => ∃ a c H, ∃ st : Nat, e = .returned (.tuple #[.slice a H.length c, .int .i64 (st : Int)]) ∧ Hid ((H, st) = fr8 Ls []) ∧ Hid (HdR w' a H ∧ ∀ k, blk a = some k → w.heap.size ≤ k) ∧ Hid (Below w.heap.size w w') := by
  obtain ⟨X, hX⟩ : ∃ X, X = fr8 Ls [] := ⟨_, rfl⟩
  rw [← hX]
  have HX0 : Hid (X = fr8 (Ls.drop 0) []) := hX
  have HNN := hide hN
  have HSS := hide hs
  clear hX hN hs
  go_enter Tryz.func75, Tryz.ntmps75
  go_wp2
  go_loopw [4, 10] (fun v i wr => ∃ (k : Nat) (a : Option Addr) (c : Nat) (H : List Hd), k ≤ Ls.length ∧ H.length ≤ 32 ∧ v = .slice a H.length c ∧ i = .int .i64 (k : Int) ∧ Hid (k = H.length) ∧ Hid (X = fr8 (Ls.drop k) H) ∧ Hid (OwnH wr w.heap.size a c H) ∧ Hid (Below w.heap.size w wr)) (fun _ i _ => Ls.length - (intOf i).toNat)
  case atStart => exact ⟨0, none, 0, [], Nat.zero_le _, by decide, rfl, rfl, rfl, HX0, OwnH.nil _ _, Below.refl _ _⟩
  case round =>
    clear HX0
    obtain ⟨k, a, c, H, hk, hH, rfl, rfl, HKH, HX, HO, HB⟩ := hrel
    by_cases hlt : k < Ls.length
    · have hlt' : (k : Int) < (Ls.length : Int) := by omega
      obtain ⟨s, hsk⟩ : ∃ s, Ls[k]? = some s := ⟨_, List.getElem?_eq_getElem hlt⟩
      obtain ⟨b, off, hpe, hcell⟩ := ((unhide HNN).below (unhide HB) (Nat.le_refl _)).mem (by intro e; subst e; simp at hsk)
      subst hpe
      have hck := hcell k s hsk
      have hsl : s.length ≤ 1000000 := unhide HSS s (List.mem_of_getElem? hsk)
      have hdr : Ls.drop k = s :: Ls.drop (k + 1) := by
        rw [List.drop_eq_getElem_cons hlt]
        congr 1
        have := List.getElem?_eq_getElem hlt
        rw [this] at hsk; exact Option.some.inj hsk
      have hX := unhide HX
      rw [hdr] at hX
      simp only [fr8] at hX
      have HXX := hide hX
      clear hcell hsk hdr hX HX
      by_cases h32 : H.length = 32
      · have HX : Hid (X = ([], 431)) := by show _ = _; rw [unhide HXX, if_pos h32]
        have hk32 : (32 : Int) ≤ (k : Int) := by have := unhide HKH; omega
        clear HXX h32
        go_wp2
        go_ret2
        exact ⟨none, 0, [], 431, rfl, hide (unhide HX).symm, ⟨⟨fun h => absurd rfl h, Nat.zero_le _⟩, fun k hk => by simp [blk] at hk⟩, HB⟩
      · have hk32 : ¬ (32 : Int) ≤ (k : Int) := by have := unhide HKH; omega
        have hX := unhide HXX
        rw [if_neg h32] at hX
        have z1 : (str s).size = s.length := str_size s
        have HE : Hid (Calls Tryz.prog 86 #[.string (str s), .int .i64 4] wr fun e w' => e = .returned (.int .i64 (etM 4 s : Int)) ∧ Hid (Below wr.heap.size wr w')) := eat_any s 4 (by decide) wr hsl
        have hnl := etM_le 4 s
        unfold fd8 at hX
        generalize etM 4 s = n at *
        have HX := hide hX
        clear hX HXX
        go_wp2_with fail
        refine (unhide HE).mono ?_
        rintro e w1 ⟨rfl, HB1'⟩
        have HB1 : Hid (Below w.heap.size w w1) := (unhide HB).trans ((unhide HB1').mono (unhide HB).size)
        have HO1 := hide ((unhide HO).below (unhide HB1') (Nat.le_refl _))
        clear HE HB HO HB1' hck
        by_cases h1 : n < 1
        · have f1 : (n : Int) < 1 := by omega
          rw [decide_eq_true h1] at HX
          clear h1 hnl
          go_wp2
          go_ret2
          exact ⟨none, 0, [], 400, rfl, hide (unhide HX).symm, ⟨⟨fun h => absurd rfl h, Nat.zero_le _⟩, fun k hk => by simp [blk] at hk⟩, HB1⟩
        · have f1 : ¬ (n : Int) < 1 := by omega
          rw [decide_eq_false h1] at HX
          by_cases h2 : 64 < n
          · have f2 : (64 : Int) < (n : Int) := by omega
            rw [decide_eq_true h2] at HX
            clear h2 hnl h1
            go_wp2
            go_ret2
            exact ⟨none, 0, [], 400, rfl, hide (unhide HX).symm, ⟨⟨fun h => absurd rfl h, Nat.zero_le _⟩, fun k hk => by simp [blk] at hk⟩, HB1⟩
          · have f2 : ¬ (64 : Int) < (n : Int) := by omega
            rw [decide_eq_false h2] at HX
            by_cases h3 : n = s.length
            · have f3 : ((n : Int) == (s.length : Int)) = true := by rw [beq_iff_eq]; omega
              rw [decide_eq_true h3] at HX
              clear h3 hnl h1 h2
              go_wp2
              go_ret2
              exact ⟨none, 0, [], 400, rfl, hide (unhide HX).symm, ⟨⟨fun h => absurd rfl h, Nat.zero_le _⟩, fun k hk => by simp [blk] at hk⟩, HB1⟩
            · have f3 : ((n : Int) == (s.length : Int)) = false := by rw [beq_eq_false_iff_ne]; omega
              rw [decide_eq_false h3] at HX
              have hn1 : n + 1 ≤ s.length := by omega
              obtain ⟨y, hy⟩ : ∃ y, s.getD n 0 = y := ⟨_, rfl⟩
              have hix : ∀ w, (Instr.index 9 (.string (str s)) (.int .i64 (n : Int))).run Tryz.prog w = .ok (.int .u8 (y.toNat : Int)) w := fun w => by rw [← hy]; exact run_ixs w s n (by omega)
              rw [hy] at HX
              clear hy h3 h1 h2 hnl
              by_cases h4 : y = 58
              · have f4 : ((y.toNat : Int) != 58) = false := by rw [bne_eq_false_iff_eq, h4]; rfl
                rw [decide_eq_true h4] at HX
                clear h4
                obtain ⟨nm, hnm⟩ : ∃ nm, nm = s.take n := ⟨_, rfl⟩
                obtain ⟨vl, hvl⟩ : ∃ vl, vl = s.drop (n + 1) := ⟨_, rfl⟩
                have x1 : (str s).extract 0 n = str nm := by rw [hnm]; exact cut_to s n
                have x2 : (str s).extract (n + 1) s.length = str vl := by rw [hvl]; exact cut_from s (n + 1)
                have hnml : nm.length ≤ 1000000 := by rw [hnm]; simp; omega
                have hvll : vl.length ≤ 1000000 := by rw [hvl]; simp; omega
                rw [← hnm, ← hvl] at HX
                have hi0 : (0 : Int) ≤ (n : Int) := by omega
                have hi1 : (n : Int) ≤ (s.length : Int) := by omega
                have hi2 : (n : Int) + 1 ≤ (s.length : Int) := by omega
                have hw1 : IntKind.i64.wrap ((n : Int) + 1) = (n : Int) + 1 := by rw [IntKind.wrap_i64]; omega
                clear hnm hvl
                have HTR : Hid (∀ w, Calls Tryz.prog 85 #[.string (str vl)] w fun e w' => e = .returned (.string (str (trm vl))) ∧ Hid (Below w.heap.size w w')) := fun w => trim8 vl w hvll
                have HSM : Hid (∀ w, Calls Tryz.prog 49 #[.string (str nm)] w fun e w' => e = .returned (.string (str (sm nm))) ∧ Hid (Below w.heap.size w w')) := fun w => rsmall8 nm w hnml
                have htl := trm_len8 vl
                generalize trm vl = t at *
                generalize sm nm = m at *
                have HAL : Hid (∀ w, Calls Tryz.prog 80 #[.string (str t), .int .i64 0, .int .i64 8192, .int .i64 6] w fun e w' => e = .returned (.bool (alM t 0 8192 6)) ∧ Hid (Below w.heap.size w w')) := fun w => all8_any t 0 8192 6 (by decide) w (by omega) (by decide) (by decide)
                generalize alM t 0 8192 6 = q at *
                go_wp2_with fail
                refine (unhide HTR _).mono ?_
                rintro e w2 ⟨rfl, HB2'⟩
                have HB2 : Hid (Below w.heap.size w w2) := (unhide HB1).trans ((unhide HB2').mono (unhide HB1).size)
                have HO2 := hide ((unhide HO1).below (unhide HB2') (Nat.le_refl _))
                clear HB1 HO1 HB2'
                go_wp2_with fail
                refine (unhide HAL _).mono ?_
                rintro e w3 ⟨rfl, HB3'⟩
                have HB3 : Hid (Below w.heap.size w w3) := (unhide HB2).trans ((unhide HB3').mono (unhide HB2).size)
                have HO3 := hide ((unhide HO2).below (unhide HB3') (Nat.le_refl _))
                clear HB2 HO2 HB3' HAL
                cases q with
                | false =>
                  go_wp2
                  go_ret2
                  exact ⟨none, 0, [], 400, rfl, hide (unhide HX).symm, ⟨⟨fun h => absurd rfl h, Nat.zero_le _⟩, fun k hk => by simp [blk] at hk⟩, HB3⟩
                | true =>
                  have HX2 : Hid (X = fr8 (Ls.drop (k + 1)) (H ++ [(m, t)])) := unhide HX
                  clear HX
                  go_upto_region 10 with fail
                  go_region_held3 (fun _ => True) (trivial) ((first
                    | (obtain ⟨p1, p2, p3, p4, p5⟩ := two_hd (unhide HB3) (unhide HO3) (unhide HBs) (unhide HBt) m t; refine stp_apph _ rfl _ _ rfl w.heap.size a c H rfl p1 wt.heap.size 1 (m, t) rfl p3 p4 (by omega) p2 ?_; intro a' cap' r' w' hr' ho' hg'; have HB4 := hide (p5 w' (unhide hg')))
                    | (obtain ⟨p1, p2, p3, p4, p5⟩ := two_hd (unhide HB3) (unhide HO3) (unhide HBt) (unhide HBs) m t; refine stp_apph _ rfl _ _ rfl w.heap.size a c H rfl p1 ws.heap.size 1 (m, t) rfl p3 p4 (by omega) p2 ?_; intro a' cap' r' w' hr' ho' hg'; have HB4 := hide (p5 w' (unhide hg')))
                    | (go_at_call 85; refine (unhide HTR _).mono ?_; rintro e wt ⟨rfl, HBt⟩)
                    | (go_at_call 49; refine (unhide HSM _).mono ?_; rintro e ws ⟨rfl, HBs⟩)))
                  have HX3 : Hid (X = fr8 (Ls.drop (k + 1)) r') := by show _ = _; rw [unhide hr']; exact unhide HX2
                  have hrl : r'.length ≤ 32 := by rw [unhide hr']; simp; omega
                  have HK2 : Hid (k + 1 = r'.length) := by show _ = _; rw [unhide hr']; have := unhide HKH; simp; omega
                  clear HX2 hr' hg'
                  go_wp2
                  go_roundw
                  case rel => exact ⟨k + 1, a', cap', r', by omega, hrl, rfl, by go_num, HK2, HX3, ho', HB4⟩
                  case measure => simp [intOf]; omega
              · have f4 : ((y.toNat : Int) != 58) = true := by rw [bne_iff_ne]; intro h; exact h4 (UInt8.toNat_inj.1 (by show y.toNat = 58; omega))
                rw [decide_eq_false h4] at HX
                clear h4
                go_wp2
                go_ret2
                exact ⟨none, 0, [], 400, rfl, hide (unhide HX).symm, ⟨⟨fun h => absurd rfl h, Nat.zero_le _⟩, fun k hk => by simp [blk] at hk⟩, HB1⟩
    · obtain rfl : k = Ls.length := by omega
      have HX2 : Hid (X = (H, 0)) := by
        have := unhide HX
        rw [List.drop_length] at this
        exact this
      clear hlt
      go_wp2
      go_ret2
      exact ⟨a, c, H, 0, rfl, hide (unhide HX2).symm, ⟨(unhide HO).hdR, fun k hk => ((unhide HO).lt k hk).1⟩, HB⟩
#print axioms fields8
end Go.Proofs.YtonaekkenggmbaaGreatDoor
end
