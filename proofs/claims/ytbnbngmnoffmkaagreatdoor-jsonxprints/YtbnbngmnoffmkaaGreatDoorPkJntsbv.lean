/-
  for all values JsonxPrints answers true: over what the document's text owes.; jsonx: the document's own text of every value that can be; for all values JsonxPrints answers true: the walk.
-/
import Derived.Test.YtbnbngmnoffmkaaGreatDoorPkJntsbt
import Derived.Test.YtbnbngmnoffmkaaGreatDoorPkJntsbu
import Derived.Test.YtbnbngmnoffmkaaGreatDoorPkJntsbr
section
set_option linter.unusedVariables false
set_option maxRecDepth 1000000
namespace Go.Proofs.YtbnbngmnoffmkaaGreatDoor
open Go.RowKit

set_option maxHeartbeats 8000000 in
theorem jprints_of (HTX : ∀ j, TxJ 16 j) (j : Js) (v : Value) (w : World) (hJ : JV w (Al w) v j) (hi : Ib j) (hE : Env4 w) :
    Calls Tryz.prog 4 #[v] w fun e w' => e = .returned (.bool true) ∧ Hid (Below w.heap.size w w') := by
  obtain ⟨jk, jn, jt, ja1, jn1, jc1, ja2, jn2, jc2, rfl⟩ := hJ.form
  have HEn : Hid (∀ u, Below w.heap.size w u → Env4 u) := fun u hb => hE.below hb
  have HAW : Hid (∀ u, Below w.heap.size w u → Calls Tryz.prog 9 #[] u fun e w' => e = .returned (.bool true) ∧ Hid (Below u.heap.size u w')) := fun u hb => awake4 u (hE.below hb)
  obtain ⟨V, hV⟩ : ∃ V, V = w.heap.size := ⟨_, rfl⟩
  obtain ⟨W, hW⟩ : ∃ W, W = w.alloc (.cells #[.int .i64 jk, .int .i64 jn, .string (str jt), .slice ja1 jn1 jc1, .slice ja2 jn2 jc2] 25) := ⟨_, rfl⟩
  obtain ⟨hb, bW⟩ := Bj.made hJ (fun k hk => hk) W hW
  rw [← hV] at hb
  have HB := hide hb
  have HWW := hide bW
  have HCN := hide (can_any j (Al W) _ W hb.jv (fun k hk => hk) hi)
  have hszc := canM_sz j hi
  have hbnd := can_bound j hi
  generalize canM j = C at HCN hszc hbnd
  have HSZ := hide hszc
  have HBND := hide hbnd
  have HTXJ := hide (HTX j)
  obtain ⟨p0, p1, p2, p3, p4⟩ := cells5 hb.row
  clear hJ hi hE hb bW hszc hbnd HTX
  go_enter Tryz.func4, Tryz.ntmps4
  go_upto_region 1 with fail
  rw [← hW, ← hV]
  clear hW hV
  cases C with
  | false =>
    go_wp2_with fail
    refine (unhide HCN).mono ?_
    rintro e w1 ⟨rfl, h1⟩
    have HW1 : Hid (Below w.heap.size w w1) := (unhide HWW).trans ((unhide h1).mono (unhide HWW).size)
    have HA1 := hide (unhide HAW w1 (unhide HW1))
    clear HCN h1 p0 p1 p2 p3 p4 HBND HTXJ HSZ
    go_wp2_with fail
    refine (unhide HA1).mono ?_
    rintro e w2 ⟨rfl, h2⟩
    have HF : Hid (Below w.heap.size w w2) := (unhide HW1).trans ((unhide h2).mono (unhide HW1).size)
    go_wp2_with fail
    go_ret
    exact ⟨rfl, HF⟩
  | true =>
    have hz := unhide HSZ rfl
    have HZ := hide hz
    have HBN := hide (unhide HBND rfl)
    have HCk : Hid (∀ (u : World) (x : Value), Below w.heap.size w u → JV u (Al u) x j → Calls Tryz.prog 14 #[x] u fun e w' => e = .returned (.int .i64 ((ck 16 j : Nat) : Int)) ∧ Hid (Below u.heap.size u w')) := fun u x hb hx => checkJ_any j (Al u) x u (unhide HEn u hb).tb hx (fun k hk => hk) hz
    have HRk : Hid (∀ (u : World) (x : Value), JV u (Al u) x j → Calls Tryz.prog 15 #[x] u fun e w' => e = .returned (.int .i64 ((ck 16 j : Nat) : Int)) ∧ Hid (Below u.heap.size u w')) := fun u x hx => rcheckJ_any j (Al u) x u hx (fun k hk => hk) hz
    have HPR : Hid (∀ (u : World) (x : Value), Below w.heap.size w u → JV u (Al u) x j → Calls Tryz.prog 12 #[x] u fun e w' => e = .returned (.tuple #[.string (str (prM j).1), .int .i64 ((prM j).2 : Int)]) ∧ Hid (Below u.heap.size u w')) := fun u x hb hx => print_any j (Al u) x u (unhide HEn u hb).tb (unhide HEn u hb).pt hx (fun k hk => hk) hz
    have HRP : Hid (∀ (u : World) (x : Value), JV u (Al u) x j → Calls Tryz.prog 13 #[x] u fun e w' => e = .returned (.tuple #[.string (str (prM j).1), .int .i64 ((prM j).2 : Int)]) ∧ Hid (Below u.heap.size u w')) := fun u x hx => rprint_of j (unhide HTXJ) (Al u) x u hx (fun k hk => hk) hz (unhide HBN)
    generalize prM j = PJ at HPR HRP
    generalize ((ck 16 j : Nat) : Int) = CJ at HCk HRk
    obtain ⟨pt, pe⟩ := PJ
    simp only at HPR HRP
    clear hz HSZ HBND HBN HTXJ
    go_wp2_with fail
    refine (unhide HCN).mono ?_
    rintro e w1 ⟨rfl, h1⟩
    have HW1 : Hid (Below w.heap.size w w1) := (unhide HWW).trans ((unhide h1).mono (unhide HWW).size)
    have HB1 := hide ((unhide HB).below (unhide h1))
    have HO := hide (own_jv j (Al w1) _ w1 (unhide HB1).jv (fun k hk => hk) (unhide HZ))
    clear HCN h1 p0 p1 p2 p3 p4 HB HWW
    obtain ⟨p0, p1, p2, p3, p4⟩ := cells5 (unhide HB1).row
    go_wp2_with fail
    refine (unhide HO).mono ?_
    rintro e w2 ⟨ok, on, ot, oa1, on1, oc1, oa2, on2, oc2, rfl, hj2, h2⟩
    obtain ⟨X, hX⟩ : ∃ X, X = w2.heap.size := ⟨_, rfl⟩
    obtain ⟨Y, hY⟩ : ∃ Y, Y = w2.alloc (.cells #[.int .i64 ok, .int .i64 on, .string (str ot), .slice oa1 on1 oc1, .slice oa2 on2 oc2] 25) := ⟨_, rfl⟩
    obtain ⟨hb, bY⟩ := Bj.made (unhide hj2) (fun k hk => hk) Y hY
    rw [← hX] at hb
    have h1Y := (unhide h2).trans (bY.mono (unhide h2).size)
    have HBV := hide ((unhide HB1).below h1Y)
    have HBX := hide hb
    have HWY : Hid (Below w.heap.size w Y) := (unhide HW1).trans (h1Y.mono (unhide HW1).size)
    have HP1 := hide (unhide HPR Y _ (unhide HWY) hb.jv)
    clear HO h2 hj2 p0 p1 p2 p3 p4 HB1 HW1 h1Y bY
    obtain ⟨q0, q1, q2, q3, q4⟩ := cells5 hb.row
    clear hb
    go_upto_region 4 with fail
    rw [← hY, ← hX]
    clear hY hX
    go_wp2_with fail
    refine (unhide HP1).mono ?_
    rintro e w3 ⟨rfl, h3⟩
    have HW3 : Hid (Below w.heap.size w w3) := (unhide HWY).trans ((unhide h3).mono (unhide HWY).size)
    have HV3 := hide ((unhide HBV).below (unhide h3))
    have HX3 := hide ((unhide HBX).below (unhide h3))
    have HP2 := hide (unhide HRP w3 _ (unhide HV3).jv)
    clear HP1 h3 q0 q1 q2 q3 q4 HBV HBX HWY HPR HRP
    obtain ⟨p0, p1, p2, p3, p4⟩ := cells5 (unhide HV3).row
    go_wp2_with fail
    refine (unhide HP2).mono ?_
    rintro e w4 ⟨rfl, h4⟩
    have HW4 : Hid (Below w.heap.size w w4) := (unhide HW3).trans ((unhide h4).mono (unhide HW3).size)
    have HV4 := hide ((unhide HV3).below (unhide h4))
    have HX4 := hide ((unhide HX3).below (unhide h4))
    clear HP2 h4 p0 p1 p2 p3 p4 HV3 HX3 HW3
    go_wp2_with fail
    obtain ⟨D, hD⟩ : ∃ D, D = w4.drew := ⟨_, rfl⟩
    have bD : Below w4.heap.size w4 D := by rw [hD]; exact (Below.refl _ _).drew
    have HWD : Hid (Below w.heap.size w D) := (unhide HW4).trans (bD.mono (unhide HW4).size)
    have HVD := hide ((unhide HV4).below bD)
    have HXD := hide ((unhide HX4).below bD)
    have HC1 := hide (unhide HCk D _ (unhide HWD) (unhide HXD).jv)
    clear bD HW4 HV4 HX4 HCk
    refine wp_region_held_drew (S := fun u => u.heap[V]? = some (.cells #[.int .i64 jk, .int .i64 jn, .string (str jt), .slice ja1 jn1 jc1, .slice ja2 jn2 jc2] 25 (0, 0)) ∧ u.heap[X]? = some (.cells #[.int .i64 ok, .int .i64 on, .string (str ot), .slice oa1 on1 oc1, .slice oa2 on2 oc2] 25 (0, 0))) (by kernel_rfl) (by rw [← hD]; exact ⟨(unhide HVD).row, (unhide HXD).row⟩) (fun hHeld => ?_)
    rw [← hD] at hHeld ⊢
    clear hD
    refine wpAnyH_take (i := 0) (oi := ?_) (v := ?_) ?_ (by kernel_rfl) ?_ ?_ ?_ ?_ hHeld ?_
    rotate_left 2
    · (simp only [List.getElem?_toArray, List.getElem?_cons_zero]) <;> with_reducible rfl
    · kernel_rfl
    · kernel_rfl
    · exact fun _ _ _ h => h
    · exact Or.inl ⟨by rfl, by (intro w hSw; (try dsimp only at hSw); obtain ⟨sV, sX⟩ := hSw; obtain ⟨y0, y1, y2, y3, y4⟩ := cells5 sV; obtain ⟨x0, x1, x2, x3, x4⟩ := cells5 sX; go_simp <;> with_reducible rfl)⟩
    simp only [Act.put, List.setIfInBounds_toArray, List.set_cons_zero, List.set_cons_succ]
    refine wpAnyH_take (i := 1) (oi := ?_) (v := ?_) ?_ (by kernel_rfl) ?_ ?_ ?_ ?_ hHeld ?_
    rotate_left 2
    · (simp only [List.getElem?_toArray, List.getElem?_cons_succ, List.getElem?_cons_zero]) <;> with_reducible rfl
    · kernel_rfl
    · kernel_rfl
    · exact fun _ _ _ h => h
    · exact Or.inl ⟨by rfl, by (intro w hSw; (try dsimp only at hSw); obtain ⟨sV, sX⟩ := hSw; obtain ⟨y0, y1, y2, y3, y4⟩ := cells5 sV; obtain ⟨x0, x1, x2, x3, x4⟩ := cells5 sX; go_simp <;> with_reducible rfl)⟩
    simp only [Act.put, List.setIfInBounds_toArray, List.set_cons_zero, List.set_cons_succ]
    refine wpAnyH_take (i := 2) (oi := ?_) (v := ?_) ?_ (by kernel_rfl) ?_ ?_ ?_ ?_ hHeld ?_
    rotate_left 2
    · (simp only [List.getElem?_toArray, List.getElem?_cons_succ, List.getElem?_cons_zero]) <;> with_reducible rfl
    · kernel_rfl
    · kernel_rfl
    · exact fun _ _ _ h => h
    · exact Or.inl ⟨by rfl, by (intro w hSw; (try dsimp only at hSw); obtain ⟨sV, sX⟩ := hSw; obtain ⟨y0, y1, y2, y3, y4⟩ := cells5 sV; obtain ⟨x0, x1, x2, x3, x4⟩ := cells5 sX; go_simp <;> with_reducible rfl)⟩
    simp only [Act.put, List.setIfInBounds_toArray, List.set_cons_zero, List.set_cons_succ]
    refine wpAnyH_take (i := 3) (oi := ?_) (v := ?_) ?_ (by kernel_rfl) ?_ ?_ ?_ ?_ hHeld ?_
    rotate_left 2
    · (simp only [List.getElem?_toArray, List.getElem?_cons_succ, List.getElem?_cons_zero]) <;> with_reducible rfl
    · kernel_rfl
    · kernel_rfl
    · exact fun _ _ _ h => h
    · exact Or.inl ⟨by rfl, by (intro w hSw; (try dsimp only at hSw); obtain ⟨sV, sX⟩ := hSw; obtain ⟨y0, y1, y2, y3, y4⟩ := cells5 sV; obtain ⟨x0, x1, x2, x3, x4⟩ := cells5 sX; go_simp <;> with_reducible rfl)⟩
    simp only [Act.put, List.setIfInBounds_toArray, List.set_cons_zero, List.set_cons_succ]
    refine wpAnyH_take (i := 4) (oi := ?_) (v := ?_) ?_ (by kernel_rfl) ?_ ?_ ?_ ?_ hHeld ?_
    rotate_left 2
    · (simp only [List.getElem?_toArray, List.getElem?_cons_succ, List.getElem?_cons_zero]) <;> with_reducible rfl
    · kernel_rfl
    · kernel_rfl
    · exact fun _ _ _ h => h
    · exact Or.inl ⟨by rfl, by (intro w hSw; (try dsimp only at hSw); obtain ⟨sV, sX⟩ := hSw; obtain ⟨y0, y1, y2, y3, y4⟩ := cells5 sV; obtain ⟨x0, x1, x2, x3, x4⟩ := cells5 sX; go_simp <;> with_reducible rfl)⟩
    simp only [Act.put, List.setIfInBounds_toArray, List.set_cons_zero, List.set_cons_succ]
    refine wpAnyH_take (i := 5) (oi := ?_) (v := ?_) ?_ (by kernel_rfl) ?_ ?_ ?_ ?_ hHeld ?_
    rotate_left 2
    · (simp only [List.getElem?_toArray, List.getElem?_cons_succ, List.getElem?_cons_zero]) <;> with_reducible rfl
    · kernel_rfl
    · kernel_rfl
    · exact fun _ _ _ h => h
    · exact Or.inl ⟨by rfl, by (intro w hSw; (try dsimp only at hSw); obtain ⟨sV, sX⟩ := hSw; obtain ⟨y0, y1, y2, y3, y4⟩ := cells5 sV; obtain ⟨x0, x1, x2, x3, x4⟩ := cells5 sX; go_simp <;> with_reducible rfl)⟩
    simp only [Act.put, List.setIfInBounds_toArray, List.set_cons_zero, List.set_cons_succ]
    refine wpAnyH_take (i := 6) (oi := ?_) (v := ?_) ?_ (by kernel_rfl) ?_ ?_ ?_ ?_ hHeld ?_
    rotate_left 2
    · (simp only [List.getElem?_toArray, List.getElem?_cons_succ, List.getElem?_cons_zero]) <;> with_reducible rfl
    · kernel_rfl
    · kernel_rfl
    · exact fun _ _ _ h => h
    · exact Or.inl ⟨by rfl, by (intro w hSw; (try dsimp only at hSw); obtain ⟨sV, sX⟩ := hSw; obtain ⟨y0, y1, y2, y3, y4⟩ := cells5 sV; obtain ⟨x0, x1, x2, x3, x4⟩ := cells5 sX; go_simp <;> with_reducible rfl)⟩
    simp only [Act.put, List.setIfInBounds_toArray, List.set_cons_zero, List.set_cons_succ]
    refine wpAnyH_take (i := 7) (oi := ?_) (v := ?_) ?_ (by kernel_rfl) ?_ ?_ ?_ ?_ hHeld ?_
    rotate_left 2
    · (simp only [List.getElem?_toArray, List.getElem?_cons_succ, List.getElem?_cons_zero]) <;> with_reducible rfl
    · kernel_rfl
    · kernel_rfl
    · exact fun _ _ _ h => h
    · exact Or.inl ⟨by rfl, by (intro w hSw; (try dsimp only at hSw); obtain ⟨sV, sX⟩ := hSw; obtain ⟨y0, y1, y2, y3, y4⟩ := cells5 sV; obtain ⟨x0, x1, x2, x3, x4⟩ := cells5 sX; go_simp <;> with_reducible rfl)⟩
    simp only [Act.put, List.setIfInBounds_toArray, List.set_cons_zero, List.set_cons_succ]
    refine wpAnyH_take (i := 8) (oi := ?_) (v := ?_) ?_ (by kernel_rfl) ?_ ?_ ?_ ?_ hHeld ?_
    rotate_left 2
    · (simp only [List.getElem?_toArray, List.getElem?_cons_succ, List.getElem?_cons_zero]) <;> with_reducible rfl
    · kernel_rfl
    · kernel_rfl
    · exact fun _ _ _ h => h
    · exact Or.inl ⟨by rfl, by (intro w hSw; (try dsimp only at hSw); obtain ⟨sV, sX⟩ := hSw; obtain ⟨y0, y1, y2, y3, y4⟩ := cells5 sV; obtain ⟨x0, x1, x2, x3, x4⟩ := cells5 sX; go_simp <;> with_reducible rfl)⟩
    simp only [Act.put, List.setIfInBounds_toArray, List.set_cons_zero, List.set_cons_succ]
    refine wpAnyH_take (i := 9) (oi := ?_) (v := ?_) ?_ (by kernel_rfl) ?_ ?_ ?_ ?_ hHeld ?_
    rotate_left 2
    · (simp only [List.getElem?_toArray, List.getElem?_cons_succ, List.getElem?_cons_zero]) <;> with_reducible rfl
    · kernel_rfl
    · kernel_rfl
    · exact fun _ _ _ h => h
    · exact Or.inl ⟨by rfl, by (intro w hSw; (try dsimp only at hSw); obtain ⟨sV, sX⟩ := hSw; obtain ⟨y0, y1, y2, y3, y4⟩ := cells5 sV; obtain ⟨x0, x1, x2, x3, x4⟩ := cells5 sX; go_simp <;> with_reducible rfl)⟩
    simp only [Act.put, List.setIfInBounds_toArray, List.set_cons_zero, List.set_cons_succ]
    refine wpAnyH_take (i := 11) (oi := ?_) (v := ?_) ?_ (by kernel_rfl) ?_ ?_ ?_ ?_ hHeld ?_
    rotate_left 2
    · (simp only [List.getElem?_toArray, List.getElem?_cons_succ, List.getElem?_cons_zero]) <;> with_reducible rfl
    · kernel_rfl
    · kernel_rfl
    · exact fun _ _ _ h => h
    · exact Or.inl ⟨by rfl, by (intro w hSw; (try dsimp only at hSw); obtain ⟨sV, sX⟩ := hSw; obtain ⟨y0, y1, y2, y3, y4⟩ := cells5 sV; obtain ⟨x0, x1, x2, x3, x4⟩ := cells5 sX; go_simp <;> with_reducible rfl)⟩
    simp only [Act.put, List.setIfInBounds_toArray, List.set_cons_zero, List.set_cons_succ]
    refine wpAnyH_ready (rs := [10]) (by kernel_rfl) (by simp) ?rda
    refine AllReadyH.cons (o := ?oa10) ?ha10 (fun K hK => ?ba10) AllReadyH.nil
    case ha10 => (simp only [List.getElem?_toArray, List.getElem?_cons_succ, List.getElem?_cons_zero]) <;> with_reducible rfl
    case ba10 =>
      go_simp
      refine (unhide HC1).mono ?_
      rintro e w5 ⟨rfl, hb⟩
      have HWw5 : Hid (Below w.heap.size w w5) := (unhide HWD).trans ((unhide hb).mono (unhide HWD).size)
      have HVw5 := hide ((unhide HVD).below (unhide hb))
      have HXw5 := hide ((unhide HXD).below (unhide hb))
      have HC2 := hide (unhide HRk w5 _ (unhide HVw5).jv)
      clear hb HC1 HWD HVD HXD
      refine hK.out _ _ ⟨(unhide HVw5).row, (unhide HXw5).row⟩ (fun hHeld => ?_)
      clear hK K
      try simp only [Act.put, List.setIfInBounds_toArray, List.set_cons_zero, List.set_cons_succ]
      refine wpAnyH_ready (rs := [12]) (by kernel_rfl) (by simp) ?rdb
      refine AllReadyH.cons (o := ?ob12) ?hb12 (fun K hK => ?bb12) AllReadyH.nil
      case hb12 => (simp only [List.getElem?_toArray, List.getElem?_cons_succ, List.getElem?_cons_zero]) <;> with_reducible rfl
      case bb12 =>
        go_simp
        refine (unhide HC2).mono ?_
        rintro e w6 ⟨rfl, hb⟩
        have HWw6 : Hid (Below w.heap.size w w6) := (unhide HWw5).trans ((unhide hb).mono (unhide HWw5).size)
        have HVw6 := hide ((unhide HVw5).below (unhide hb))
        have HXw6 := hide ((unhide HXw5).below (unhide hb))
        have HC3 := hide (equal_same j (Al w6) _ _ w6 (unhide HXw6).jv (unhide HVw6).jv (fun k hk => hk))
        clear hb HC2 HWw5 HVw5 HXw5
        refine hK.out _ _ ⟨(unhide HVw6).row, (unhide HXw6).row⟩ (fun hHeld => ?_)
        clear hK K
        try simp only [Act.put, List.setIfInBounds_toArray, List.set_cons_zero, List.set_cons_succ]
        refine wpAnyH_take (i := 13) (oi := ?_) (v := ?_) ?_ (by kernel_rfl) ?_ ?_ ?_ ?_ hHeld ?_
        rotate_left 2
        · (simp only [List.getElem?_toArray, List.getElem?_cons_succ, List.getElem?_cons_zero]) <;> with_reducible rfl
        · kernel_rfl
        · kernel_rfl
        · exact fun _ _ _ h => h
        · exact Or.inl ⟨by rfl, by (intro w hSw; (try dsimp only at hSw); obtain ⟨sV, sX⟩ := hSw; obtain ⟨y0, y1, y2, y3, y4⟩ := cells5 sV; obtain ⟨x0, x1, x2, x3, x4⟩ := cells5 sX; go_simp <;> with_reducible rfl)⟩
        simp only [Act.put, List.setIfInBounds_toArray, List.set_cons_zero, List.set_cons_succ]
        refine wpAnyH_take (i := 14) (oi := ?_) (v := ?_) ?_ (by kernel_rfl) ?_ ?_ ?_ ?_ hHeld ?_
        rotate_left 2
        · (simp only [List.getElem?_toArray, List.getElem?_cons_succ, List.getElem?_cons_zero]) <;> with_reducible rfl
        · kernel_rfl
        · kernel_rfl
        · exact fun _ _ _ h => h
        · exact Or.inl ⟨by rfl, by (intro w hSw; (try dsimp only at hSw); obtain ⟨sV, sX⟩ := hSw; obtain ⟨y0, y1, y2, y3, y4⟩ := cells5 sV; obtain ⟨x0, x1, x2, x3, x4⟩ := cells5 sX; go_simp <;> with_reducible rfl)⟩
        simp only [Act.put, List.setIfInBounds_toArray, List.set_cons_zero, List.set_cons_succ]
        refine wpAnyH_take (i := 15) (oi := ?_) (v := ?_) ?_ (by kernel_rfl) ?_ ?_ ?_ ?_ hHeld ?_
        rotate_left 2
        · (simp only [List.getElem?_toArray, List.getElem?_cons_succ, List.getElem?_cons_zero]) <;> with_reducible rfl
        · kernel_rfl
        · kernel_rfl
        · exact fun _ _ _ h => h
        · exact Or.inl ⟨by rfl, by (intro w hSw; (try dsimp only at hSw); obtain ⟨sV, sX⟩ := hSw; obtain ⟨y0, y1, y2, y3, y4⟩ := cells5 sV; obtain ⟨x0, x1, x2, x3, x4⟩ := cells5 sX; go_simp <;> with_reducible rfl)⟩
        simp only [Act.put, List.setIfInBounds_toArray, List.set_cons_zero, List.set_cons_succ]
        refine wpAnyH_take (i := 16) (oi := ?_) (v := ?_) ?_ (by kernel_rfl) ?_ ?_ ?_ ?_ hHeld ?_
        rotate_left 2
        · (simp only [List.getElem?_toArray, List.getElem?_cons_succ, List.getElem?_cons_zero]) <;> with_reducible rfl
        · kernel_rfl
        · kernel_rfl
        · exact fun _ _ _ h => h
        · exact Or.inl ⟨by rfl, by (intro w hSw; (try dsimp only at hSw); obtain ⟨sV, sX⟩ := hSw; obtain ⟨y0, y1, y2, y3, y4⟩ := cells5 sV; obtain ⟨x0, x1, x2, x3, x4⟩ := cells5 sX; go_simp <;> with_reducible rfl)⟩
        simp only [Act.put, List.setIfInBounds_toArray, List.set_cons_zero, List.set_cons_succ]
        refine wpAnyH_take (i := 17) (oi := ?_) (v := ?_) ?_ (by kernel_rfl) ?_ ?_ ?_ ?_ hHeld ?_
        rotate_left 2
        · (simp only [List.getElem?_toArray, List.getElem?_cons_succ, List.getElem?_cons_zero]) <;> with_reducible rfl
        · kernel_rfl
        · kernel_rfl
        · exact fun _ _ _ h => h
        · exact Or.inl ⟨by rfl, by (intro w hSw; (try dsimp only at hSw); obtain ⟨sV, sX⟩ := hSw; obtain ⟨y0, y1, y2, y3, y4⟩ := cells5 sV; obtain ⟨x0, x1, x2, x3, x4⟩ := cells5 sX; go_simp <;> with_reducible rfl)⟩
        simp only [Act.put, List.setIfInBounds_toArray, List.set_cons_zero, List.set_cons_succ]
        refine wpAnyH_ready (rs := [18]) (by kernel_rfl) (by simp) ?rdc
        refine AllReadyH.cons (o := ?oc18) ?hc18 (fun K hK => ?bc18) AllReadyH.nil
        case hc18 => (simp only [List.getElem?_toArray, List.getElem?_cons_succ, List.getElem?_cons_zero]) <;> with_reducible rfl
        case bc18 =>
          go_simp
          refine (unhide HC3).mono ?_
          rintro e w7 ⟨rfl, hb⟩
          have HWw7 : Hid (Below w.heap.size w w7) := (unhide HWw6).trans ((unhide hb).mono (unhide HWw6).size)
          have HVw7 := hide ((unhide HVw6).below (unhide hb))
          have HXw7 := hide ((unhide HXw6).below (unhide hb))
          have HC4 := hide (unhide HAW w7 (unhide HWw7))
          clear hb HC3 HWw6 HVw6 HXw6
          refine hK.out _ _ ⟨(unhide HVw7).row, (unhide HXw7).row⟩ (fun hHeld => ?_)
          clear hK K
          try simp only [Act.put, List.setIfInBounds_toArray, List.set_cons_zero, List.set_cons_succ]
          refine wpAnyH_take (i := 19) (oi := ?_) (v := ?_) ?_ (by kernel_rfl) ?_ ?_ ?_ ?_ hHeld ?_
          rotate_left 2
          · (simp only [List.getElem?_toArray, List.getElem?_cons_succ, List.getElem?_cons_zero]) <;> with_reducible rfl
          · kernel_rfl
          · kernel_rfl
          · exact fun _ _ _ h => h
          · exact Or.inl ⟨by rfl, by (intro w hSw; (try dsimp only at hSw); obtain ⟨sV, sX⟩ := hSw; obtain ⟨y0, y1, y2, y3, y4⟩ := cells5 sV; obtain ⟨x0, x1, x2, x3, x4⟩ := cells5 sX; go_simp <;> with_reducible rfl)⟩
          simp only [Act.put, List.setIfInBounds_toArray, List.set_cons_zero, List.set_cons_succ]
          refine wpAnyH_take (i := 20) (oi := ?_) (v := ?_) ?_ (by kernel_rfl) ?_ ?_ ?_ ?_ hHeld ?_
          rotate_left 2
          · (simp only [List.getElem?_toArray, List.getElem?_cons_succ, List.getElem?_cons_zero]) <;> with_reducible rfl
          · kernel_rfl
          · kernel_rfl
          · exact fun _ _ _ h => h
          · exact Or.inl ⟨by rfl, by (intro w hSw; (try dsimp only at hSw); obtain ⟨sV, sX⟩ := hSw; obtain ⟨y0, y1, y2, y3, y4⟩ := cells5 sV; obtain ⟨x0, x1, x2, x3, x4⟩ := cells5 sX; go_simp <;> with_reducible rfl)⟩
          simp only [Act.put, List.setIfInBounds_toArray, List.set_cons_zero, List.set_cons_succ]
          refine wpAnyH_ready (rs := [21]) (by kernel_rfl) (by simp) ?rdd
          refine AllReadyH.cons (o := ?od21) ?hd21 (fun K hK => ?bd21) AllReadyH.nil
          case hd21 => (simp only [List.getElem?_toArray, List.getElem?_cons_succ, List.getElem?_cons_zero]) <;> with_reducible rfl
          case bd21 =>
            go_simp
            refine (unhide HC4).mono ?_
            rintro e w8 ⟨rfl, hb⟩
            have HWw8 : Hid (Below w.heap.size w w8) := (unhide HWw7).trans ((unhide hb).mono (unhide HWw7).size)
            have HVw8 := hide ((unhide HVw7).below (unhide hb))
            have HXw8 := hide ((unhide HXw7).below (unhide hb))
            have HF := HWw8
            clear hb HC4
            refine hK.out _ _ ⟨(unhide HVw8).row, (unhide HXw8).row⟩ (fun hHeld => ?_)
            clear hK K
            try simp only [Act.put, List.setIfInBounds_toArray, List.set_cons_zero, List.set_cons_succ]
            refine wpAnyH_take (i := 22) (oi := ?_) (v := ?_) ?_ (by kernel_rfl) ?_ ?_ ?_ ?_ hHeld ?_
            rotate_left 2
            · (simp only [List.getElem?_toArray, List.getElem?_cons_succ, List.getElem?_cons_zero]) <;> with_reducible rfl
            · kernel_rfl
            · kernel_rfl
            · exact fun _ _ _ h => h
            · exact Or.inl ⟨by rfl, by (intro w hSw; (try dsimp only at hSw); obtain ⟨sV, sX⟩ := hSw; obtain ⟨y0, y1, y2, y3, y4⟩ := cells5 sV; obtain ⟨x0, x1, x2, x3, x4⟩ := cells5 sX; go_simp <;> with_reducible rfl)⟩
            simp only [Act.put, List.setIfInBounds_toArray, List.set_cons_zero, List.set_cons_succ]
            refine wpAnyH_take (i := 23) (oi := ?_) (v := ?_) ?_ (by kernel_rfl) ?_ ?_ ?_ ?_ hHeld ?_
            rotate_left 2
            · (simp only [List.getElem?_toArray, List.getElem?_cons_succ, List.getElem?_cons_zero]) <;> with_reducible rfl
            · kernel_rfl
            · kernel_rfl
            · exact fun _ _ _ h => h
            · exact Or.inl ⟨by rfl, by (intro w hSw; (try dsimp only at hSw); obtain ⟨sV, sX⟩ := hSw; obtain ⟨y0, y1, y2, y3, y4⟩ := cells5 sV; obtain ⟨x0, x1, x2, x3, x4⟩ := cells5 sX; go_simp <;> with_reducible rfl)⟩
            simp only [Act.put, List.setIfInBounds_toArray, List.set_cons_zero, List.set_cons_succ]
            refine wpAnyH_done (by kernel_rfl) ?_ _
            go_wp2_with fail
            go_ret
            exact ⟨rfl, HF⟩
#print axioms jprints_of
end Go.Proofs.YtbnbngmnoffmkaaGreatDoor
end
section
set_option linter.unusedVariables false
set_option maxRecDepth 1000000
namespace Go.Proofs.YtbnbngmnoffmkaaGreatDoor
open Go.RowKit

theorem text_any : ∀ (n : Nat) (j : Js), TxJ n j
  | 0, .mk k i t ns is => by
    intro S v w hJ hS hck hz hlen
    obtain ⟨hw, _, h45⟩ := ck_zero 0 k i t ns is hck
    obtain ⟨hk, _⟩ := wf_kind hw
    by_cases h4 : k < 4
    · exact text_flat 0 k i t ns is h4 S v w hJ hS hck hz hlen
    · obtain ⟨m, e, _⟩ := h45 (by omega)
      exact absurd e (by omega)
  | n + 1, .mk k i t ns is => by
    intro S v w hJ hS hck hz hlen
    obtain ⟨hw, _, _⟩ := ck_zero (n + 1) k i t ns is hck
    obtain ⟨hk, _⟩ := wf_kind hw
    by_cases h4 : k < 4
    · exact text_flat (n + 1) k i t ns is h4 S v w hJ hS hck hz hlen
    · by_cases h5 : k = 4
      · subst h5; exact text_list n i t ns is (fun x _ => text_any n x) S v w hJ hS hck hz hlen
      · obtain rfl : k = 5 := by omega
        exact text_obj n i t ns is (fun x _ => text_any n x) S v w hJ hS hck hz hlen
theorem jsonxPrints_walk (v : Value) (j : Js) (w : World) (hJ : JV w (Al w) v j) (hi : Ib j) (hE : Env4 w) :
    Calls Tryz.prog 4 #[v] w fun e w' => e = .returned (.bool true) ∧ Below w.heap.size w w' :=
  (jprints_of (fun j => text_any 16 j) j v w hJ hi hE).mono fun e w' h => ⟨h.1, unhide h.2⟩
#print axioms text_any
end Go.Proofs.YtbnbngmnoffmkaaGreatDoor
end
