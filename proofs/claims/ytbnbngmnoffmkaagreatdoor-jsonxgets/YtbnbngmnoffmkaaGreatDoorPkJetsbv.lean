/-
  for all values and names JsonxGets answers true: the walk.
-/
import Derived.Test.YtbnbngmnoffmkaaGreatDoorPkJetsbu
section
set_option linter.unusedVariables false
set_option maxRecDepth 1000000
namespace Go.Proofs.YtbnbngmnoffmkaaGreatDoor
open Go.RowKit

set_option maxHeartbeats 16000000 in
theorem jgets_any (name : List UInt8) (j j' : Js) (v v' : Value) (w : World) (hJ : JV w (Al w) v j) (hJ' : JV w (Al w) v' j') (hi : Ib j) (hi' : Ib j') (hE : Env4 w) :
    Calls Tryz.prog 5 #[v, v', .string (str name)] w fun e w' => e = .returned (.bool true) ∧ Hid (Below w.heap.size w w') := by
  obtain ⟨vk, vn, vt, va1, vn1, vc1, va2, vn2, vc2, rfl⟩ := hJ.form
  obtain ⟨zk, zn, zt, za1, zn1, zc1, za2, zn2, zc2, rfl⟩ := hJ'.form
  have HEn : Hid (∀ u, Below w.heap.size w u → Env4 u) := fun u hb => hE.below hb
  have HAW : Hid (∀ u, Below w.heap.size w u → Calls Tryz.prog 9 #[] u fun e w' => e = .returned (.bool true) ∧ Hid (Below u.heap.size u w')) := fun u hb => awake4 u (hE.below hb)
  obtain ⟨V, hV⟩ : ∃ V, V = w.heap.size := ⟨_, rfl⟩
  obtain ⟨X, hX⟩ : ∃ X, X = w.heap.size + 1 := ⟨_, rfl⟩
  obtain ⟨W1, hW1⟩ : ∃ W1, W1 = w.alloc (.cells #[.int .i64 vk, .int .i64 vn, .string (str vt), .slice va1 vn1 vc1, .slice va2 vn2 vc2] 25) := ⟨_, rfl⟩
  obtain ⟨W, hW⟩ : ∃ W, W = W1.alloc (.cells #[.int .i64 zk, .int .i64 zn, .string (str zt), .slice za1 zn1 zc1, .slice za2 zn2 zc2] 25) := ⟨_, rfl⟩
  obtain ⟨hb1, bW1⟩ := Bj.made hJ (fun k hk => hk) W1 hW1
  obtain ⟨hb2, bW2⟩ := Bj.made (JV.al hJ' (fun k hk => hk) bW1) (fun k hk => hk) W hW
  have sW1 : W1.heap.size = X := by rw [hW1, hX]; simp
  rw [sW1] at hb2
  rw [← hV] at hb1
  have hb1 := hb1.below bW2
  have HWW : Hid (Below w.heap.size w W) := bW1.trans (bW2.mono bW1.size)
  have HV := hide hb1
  have HX := hide hb2
  have HCN := hide (can_any j (Al W) _ W hb1.jv (fun k hk => hk) hi)
  have HCX : Hid (∀ u, Below W.heap.size W u → Calls Tryz.prog 10 #[(.agg #[.int .i64 zk, .int .i64 zn, .string (str zt), .slice za1 zn1 zc1, .slice za2 zn2 zc2])] u fun e w' => e = .returned (.bool (canM j')) ∧ Hid (Below u.heap.size u w')) := fun u hb => can_any j' (Al u) _ u (hb2.below hb).jv (fun k hk => hk) hi'
  have hszc := canM_sz j hi
  have hbnd := can_bound j hi
  have hszc' := canM_sz j' hi'
  have hbnd' := can_bound j' hi'
  generalize canM j = C at HCN hszc hbnd
  generalize canM j' = C' at HCX hszc' hbnd'
  have HSZ := hide hszc
  have HBND := hide hbnd
  have HSZ' := hide hszc'
  have HBND' := hide hbnd'
  obtain ⟨p0, p1, p2, p3, p4⟩ := cells5 hb1.row
  rw [hW1] at hW
  clear hJ hJ' hi hi' hE hb1 hb2 bW1 bW2 sW1 hszc hbnd hszc' hbnd' hW1
  go_enter Tryz.func5, Tryz.ntmps5
  go_upto_region 1 with fail
  rw [← hW, ← hX, ← hV]
  clear hW hV hX
  cases C with
  | false =>
    go_wp2_with fail
    refine (unhide HCN).mono ?_
    rintro e w1 ⟨rfl, h1⟩
    have HW1 : Hid (Below w.heap.size w w1) := (unhide HWW).trans ((unhide h1).mono (unhide HWW).size)
    have HA1 := hide (unhide HAW w1 (unhide HW1))
    clear HCN HCX h1 p0 p1 p2 p3 p4 HBND HSZ HBND' HSZ'
    go_wp2_with fail
    refine (unhide HA1).mono ?_
    rintro e w2 ⟨rfl, h2⟩
    have HF : Hid (Below w.heap.size w w2) := (unhide HW1).trans ((unhide h2).mono (unhide HW1).size)
    go_wp2_with fail
    go_ret
    exact ⟨rfl, HF⟩
  | true =>
    have hz := unhide HSZ rfl
    have HZ := hide hz
    have HBN := hide (unhide HBND rfl)
    clear HSZ HBND hz
    go_wp2_with fail
    refine (unhide HCN).mono ?_
    rintro e w1 ⟨rfl, h1⟩
    have HW1 : Hid (Below w.heap.size w w1) := (unhide HWW).trans ((unhide h1).mono (unhide HWW).size)
    have HV1 := hide ((unhide HV).below (unhide h1))
    have HX1 := hide ((unhide HX).below (unhide h1))
    have HC2 := hide (unhide HCX w1 (unhide h1))
    clear HCN HCX h1 p0 p1 p2 p3 p4 HV HX HWW
    obtain ⟨q0, q1, q2, q3, q4⟩ := cells5 (unhide HX1).row
    cases C' with
    | false =>
      go_wp2_with fail
      refine (unhide HC2).mono ?_
      rintro e w2 ⟨rfl, h2⟩
      have HW2 : Hid (Below w.heap.size w w2) := (unhide HW1).trans ((unhide h2).mono (unhide HW1).size)
      have HA1 := hide (unhide HAW w2 (unhide HW2))
      clear HC2 h2 q0 q1 q2 q3 q4 HBND' HSZ'
      go_wp2_with fail
      refine (unhide HA1).mono ?_
      rintro e w3 ⟨rfl, h3⟩
      have HF : Hid (Below w.heap.size w w3) := (unhide HW2).trans ((unhide h3).mono (unhide HW2).size)
      go_wp2_with fail
      go_ret
      exact ⟨rfl, HF⟩
    | true =>
      have hz' := unhide HSZ' rfl
      have HZ' := hide hz'
      have HBN' := hide (unhide HBND' rfl)
      clear HSZ' HBND' hz'
      have HGT : Hid (∀ (u : World) (x : Value), JV u (Al u) x j → Calls Tryz.prog 16 #[x, .string (str name)] u fun e w' => GtP u (gtM name j) e w') := fun u x hx => get_any name j (Al u) x u hx (fun k hk => hk) (unhide HZ)
      have HRT : Hid (∀ (u : World) (x : Value), JV u (Al u) x j → Calls Tryz.prog 17 #[x, .string (str name)] u fun e w' => RgP u (gtM name j) e w') := fun u x hx => rget_any name j (Al u) x u hx (fun k hk => hk) (unhide HZ)
      have HSA : Hid (∀ (u : World) (x y : Value), Tb4 u → JV u (Al u) x j → JV u (Al u) y j' → Calls Tryz.prog 18 #[x, y] u fun e w' => e = .returned (.bool (saM j j')) ∧ Hid (Below u.heap.size u w')) := fun u x y ht hx hy => same_any j j' (Al u) x y u ht hx hy (fun k hk => hk) (unhide HZ) (unhide HZ')
      have HSR : Hid (∀ (u : World) (x y : Value), JV u (Al u) x j → JV u (Al u) y j' → Calls Tryz.prog 19 #[x, y] u fun e w' => e = .returned (.bool (saM j j')) ∧ Hid (Below u.heap.size u w')) := fun u x y hx hy => by rw [saM_rs j j' (unhide HZ) (unhide HZ')]; exact rsame_any j j' (Al u) x y u hx hy (fun k hk => hk) (unhide HZ) (unhide HZ') (unhide HBN) (unhide HBN')
      generalize gtM name j = O at HGT HRT
      generalize saM j j' = B at HSA HSR
      go_wp2_with fail
      refine (unhide HC2).mono ?_
      rintro e w2 ⟨rfl, h2⟩
      have HW2 : Hid (Below w.heap.size w w2) := (unhide HW1).trans ((unhide h2).mono (unhide HW1).size)
      have HV2 := hide ((unhide HV1).below (unhide h2))
      have HX2 := hide ((unhide HX1).below (unhide h2))
      have HO := hide (own_jv j (Al w2) _ w2 (unhide HV2).jv (fun k hk => hk) (unhide HZ))
      clear HC2 h2 q0 q1 q2 q3 q4 HV1 HX1 HW1 HBN HBN'
      obtain ⟨p0, p1, p2, p3, p4⟩ := cells5 (unhide HV2).row
      go_wp2_with fail
      refine (unhide HO).mono ?_
      rintro e w3 ⟨gk, gn, gt, ga1, gn1, gc1, ga2, gn2, gc2, rfl, hj3, h3⟩
      obtain ⟨Y7, hY7⟩ : ∃ Y7, Y7 = w3.heap.size := ⟨_, rfl⟩
      obtain ⟨U7, hU7⟩ : ∃ U7, U7 = w3.alloc (.cells #[.int .i64 gk, .int .i64 gn, .string (str gt), .slice ga1 gn1 gc1, .slice ga2 gn2 gc2] 25) := ⟨_, rfl⟩
      obtain ⟨hb, bU⟩ := Bj.made (unhide hj3) (fun k hk => hk) U7 hU7
      rw [← hY7] at hb
      have h3U := (unhide h3).trans (bU.mono (unhide h3).size)
      have HKK : Hid (∀ u, Below U7.heap.size U7 u → Bj u V vk vn vt va1 vn1 vc1 va2 vn2 vc2 j ∧ Bj u X zk zn zt za1 zn1 zc1 za2 zn2 zc2 j' ∧ Bj u Y7 gk gn gt ga1 gn1 gc1 ga2 gn2 gc2 j ∧ Env4 u ∧ Below w.heap.size w u) := fun u hu =>
        have hwu := (unhide HW2).trans ((h3U.trans (hu.mono h3U.size)).mono (unhide HW2).size)
        ⟨((unhide HV2).below h3U).below hu, ((unhide HX2).below h3U).below hu, hb.below hu, unhide HEn u hwu, hwu⟩
      have HGE := hide (unhide HGT U7 _ hb.jv)
      obtain ⟨q0, q1, q2, q3, q4⟩ := cells5 hb.row
      clear HO h3 hj3 p0 p1 p2 p3 p4 HV2 HX2 HW2 bU h3U hb HGT
      go_upto_region 4 with fail
      rw [← hU7, ← hY7]
      clear hU7 hY7
      go_wp2_with fail
      refine (unhide HGE).mono ?_
      rintro e w4 ⟨xv, lo, rfl, hlo, hcp, h4⟩
      obtain ⟨⟨Jk, Jn, Jt, Jns, Jis⟩, hJJ⟩ : ∃ J, J = O.getD Js.nul := ⟨_, rfl⟩
      obtain ⟨ob, hob⟩ : ∃ ob, ob = O.isSome := ⟨_, rfl⟩
      rw [← hJJ] at hcp
      rw [← hob]
      have hxj := hcp.jv (S := Al w4) (fun k _ hk => hk)
      obtain ⟨xa1, xc1, xa2, xc2, xs, rfl, xT, xJ, xE, xD⟩ := hcp
      obtain ⟨m, hm⟩ : ∃ m, m = Jis.length := ⟨_, rfl⟩
      rw [← hm] at xJ hxj ⊢
      have hm9 : m ≤ 9223372036854775807 := by have := (owns_cap xJ).1; have := (owns_cap xJ).2.1; unfold maxLen at this; omega
      have HJJ := hide hJJ
      have HOB := hide hob
      have HLO := hide hlo
      have HXJ := hide xJ
      have HMM := hide hm
      obtain ⟨Y8, hY8⟩ : ∃ Y8, Y8 = w4.heap.size := ⟨_, rfl⟩
      obtain ⟨U8, hU8⟩ : ∃ U8, U8 = w4.alloc (.cells #[.int .i64 Jk, .int .i64 Jn, .string (str Jt), .slice xa1 Jns.length xc1, .slice xa2 m xc2] 25) := ⟨_, rfl⟩
      obtain ⟨hb8, b8⟩ := Bj.made hxj (fun k hk => hk) U8 hU8
      rw [← hY8] at hb8
      have HB8 := hide hb8
      have HY8 := hide hY8
      have H48 := hide b8
      have H78 : Hid (Below U7.heap.size U7 U8) := h4.trans (b8.mono h4.size)
      have HRG := hide (unhide HRT U8 _ (unhide HKK U8 (unhide H78)).1.jv)
      obtain ⟨p0, p1, p2, p3, p4⟩ := cells5 (unhide HKK U8 (unhide H78)).1.row
      clear HGE q0 q1 q2 q3 q4 hxj xT xJ xE xD hJJ hob hlo hm hb8 b8 h4 HRT
      go_upto_region 5 with fail
      rw [← hU8, ← hY8]
      clear hU8 hY8
      go_wp2_with fail
      refine (unhide HRG).mono ?_
      rintro e w5 ⟨yv, rfl, hyj, h5⟩
      rw [← unhide HJJ] at hyj
      rw [← unhide HOB]
      obtain ⟨yk, yn, yt, ya1, yn1, yc1, ya2, yn2, yc2, rfl⟩ := hyj.form
      obtain ⟨Y10, hY10⟩ : ∃ Y10, Y10 = w5.heap.size := ⟨_, rfl⟩
      obtain ⟨U10, hU10⟩ : ∃ U10, U10 = w5.alloc (.cells #[.int .i64 yk, .int .i64 yn, .string (str yt), .slice ya1 yn1 yc1, .slice ya2 yn2 yc2] 25) := ⟨_, rfl⟩
      obtain ⟨hb10, b10⟩ := Bj.made hyj (fun k hk => hk) U10 hU10
      rw [← hY10] at hb10
      have h8 := h5.trans (b10.mono h5.size)
      have H810 := hide h8
      have HB8b := hide ((unhide HB8).below h8)
      have HQ := hide (equal_same _ (Al U10) _ _ U10 (unhide HB8b).jv hb10.jv (fun k hk => hk))
      obtain ⟨q0, q1, q2, q3, q4⟩ := cells5 hb10.row
      obtain ⟨x0, x1, x2, x3, x4⟩ := cells5 (unhide HB8b).row
      have e0 : (ob != ob) = false := by simp
      clear HRG p0 p1 p2 p3 p4 hyj hb10 b10 h5 h8 HJJ HOB
      go_upto_region 6 with fail
      rw [← hU10, ← hY10]
      clear hU10 hY10
      go_wp2_with fail
      refine (unhide HQ).mono ?_
      rintro e w6 ⟨rfl, h6⟩
      have HB6 := hide ((unhide HB8b).below (unhide h6))
      have H86 : Hid (Below U8.heap.size U8 w6) := (unhide H810).trans ((unhide h6).mono (unhide H810).size)
      have H46 : Hid (Below w4.heap.size w4 w6) := (unhide H48).trans ((unhide H86).mono (unhide H48).size)
      have H76 : Hid (Below U7.heap.size U7 w6) := (unhide H78).trans ((unhide H86).mono (unhide H78).size)
      have HOJ : Hid (OwnJ w6 lo xa2 xc2 m xs) := owns_same (unhide HXJ) (fun k hk => (unhide H46).block k (owns_lt (unhide HXJ) k hk).2)
      obtain ⟨G2, hG2⟩ : ∃ G2, (blk xa2 = some G2 ∧ G2 < Y8 ∧ lo ≤ G2) ∨ (blk xa2 = none ∧ G2 = w6.heap.size) := by
        cases hx : blk xa2 with
        | none => exact ⟨_, .inr ⟨rfl, rfl⟩⟩
        | some g => exact ⟨g, .inl ⟨rfl, by rw [unhide HY8]; exact (owns_lt (unhide HXJ) g hx).2, (owns_lt (unhide HXJ) g hx).1⟩⟩
      have hr6 := (unhide HB6).row
      have hlt6 := (Array.getElem?_eq_some_iff.1 hr6).1
      have HG8 : Hid (Y8 ≠ G2 ∧ U7.heap.size ≤ G2) := by
        have h1 := unhide HLO
        have h2 := (unhide H76).size
        constructor
        · rcases hG2 with h | h <;> omega
        · rcases hG2 with h | h <;> omega
      have HG2 := hide hG2
      have HRX : Hid (∀ u, Mv w6 u G2 → u.heap[Y8]? = some (.cells #[.int .i64 Jk, .int .i64 Jn, .string (str Jt), .slice xa1 Jns.length xc1, .slice xa2 m xc2] 25 (0, 0))) := fun u hu => (hu.block Y8 hlt6 (fun e => (unhide HG8).1 (Option.some.inj e))).trans hr6
      have HMV0 : Hid (Mv w6 w6 G2) := Mv.refl _ _
      clear HQ h6 q0 q1 q2 q3 q4 x0 x1 x2 x3 x4 hG2 hlt6 hr6 HB8 HB8b HB6 e0 HXJ HLO
      obtain ⟨x0, x1, x2, x3, x4⟩ := cells5 (unhide HRX w6 (unhide HMV0))
      go_wp2_with fail
      clear x0 x1 x2 x3 x4
      go_loopw [48] (fun v wr => ∃ (q : Nat) (ys : List Value), q ≤ m ∧ v = .int .i64 (q : Int) ∧ Hid (OwnJ wr lo xa2 xc2 m ys) ∧ Hid (Mv w6 wr G2)) (fun v _ => m - (intOf v).toNat)
      case atStart => exact ⟨0, xs, Nat.zero_le _, rfl, HOJ, HMV0⟩
      case round =>
        clear HOJ HMV0
        obtain ⟨q, ys, hq, rfl, HOJ, HMq⟩ := hrel
        obtain ⟨x0, x1, x2, x3, x4⟩ := cells5 (unhide HRX wr (unhide HMq))
        by_cases hlt : q < m
        · have hlt' : (q : Int) < (m : Int) := by omega
          obtain ⟨gg, rfl⟩ : ∃ gg, xa2 = some ⟨gg, 0, none⟩ := by
            rcases owns_cases (unhide HOJ) with ⟨_, _, h3, _⟩ | ⟨gg, _, h, _⟩
            · omega
            · exact ⟨gg, h⟩
          obtain rfl : gg = G2 := by rcases unhide HG2 with h | h <;> simp [blk] at h; exact h.1
          have hyl : ys.length = m * 5 := (unhide HOJ).1
          obtain ⟨u0, hu0⟩ : ∃ u, ys[q * 5]? = some u := ⟨_, List.getElem?_eq_getElem (by omega)⟩
          obtain ⟨e0, f0⟩ := owns_cell (unhide HOJ) (q * 5) _ hu0
          obtain ⟨u1, hu1⟩ : ∃ u, ys[q * 5 + 1]? = some u := ⟨_, List.getElem?_eq_getElem (by omega)⟩
          obtain ⟨e1, f1⟩ := owns_cell (unhide HOJ) (q * 5 + 1) _ hu1
          obtain ⟨u2, hu2⟩ : ∃ u, ys[q * 5 + 2]? = some u := ⟨_, List.getElem?_eq_getElem (by omega)⟩
          obtain ⟨e2, f2⟩ := owns_cell (unhide HOJ) (q * 5 + 2) _ hu2
          obtain ⟨u3, hu3⟩ : ∃ u, ys[q * 5 + 3]? = some u := ⟨_, List.getElem?_eq_getElem (by omega)⟩
          obtain ⟨e3, f3⟩ := owns_cell (unhide HOJ) (q * 5 + 3) _ hu3
          obtain ⟨u4, hu4⟩ : ∃ u, ys[q * 5 + 4]? = some u := ⟨_, List.getElem?_eq_getElem (by omega)⟩
          obtain ⟨e4, f4⟩ := owns_cell (unhide HOJ) (q * 5 + 4) _ hu4
          obtain ⟨w9, hw9⟩ : ∃ w9, w9 = (((((wr.setCell ⟨gg, q * 5, none⟩ (.int .i64 77)).setCell ⟨gg, q * 5 + 1, none⟩ (.int .i64 0)).setCell ⟨gg, q * 5 + 2, none⟩ (.string ⟨#[]⟩)).setCell ⟨gg, q * 5 + 3, none⟩ (.slice none 0 0)).setCell ⟨gg, q * 5 + 4, none⟩ (.slice none 0 0)) := ⟨_, rfl⟩
          have HO9 : Hid (OwnJ w9 lo (some ⟨gg, 0, none⟩) xc2 m (st5 ys q (.int .i64 77) (.int .i64 0) (.string ⟨#[]⟩) (.slice none 0 0) (.slice none 0 0))) := by
            show OwnJ _ _ _ _ _ _
            rw [hw9]
            exact owns_set (owns_set (owns_set (owns_set (owns_set (unhide HOJ) _ _ (by omega)) _ _ (by rw [List.length_set]; omega)) _ _ (by rw [List.length_set, List.length_set]; omega)) _ _ (by rw [List.length_set, List.length_set, List.length_set]; omega)) _ _ (by rw [List.length_set, List.length_set, List.length_set, List.length_set]; omega)
          have HM9 : Hid (Mv w6 w9 gg) := by
            show Mv _ _ _
            have m7 := unhide HMq
            obtain ⟨o1, o2, o3⟩ := oth5 wr gg (q * 5) (q * 5 + 1) (q * 5 + 2) (q * 5 + 3) (q * 5 + 4) (.int .i64 77) (.int .i64 0) (.string ⟨#[]⟩) (.slice none 0 0) (.slice none 0 0)
            have z9 : w9.heap.size = wr.heap.size := by rw [hw9, siz5]
            rw [← hw9] at o1 o2 o3
            exact ⟨o1.trans m7.os, o2.trans m7.tape, o3.trans m7.output, by rw [z9]; exact m7.size, fun y hy hne => (by rw [hw9]; exact far5 _ _ _ _ _ _ _ _ _ _ _ _ _ (fun e => hne (by rw [e])) : w9.heap[y]? = wr.heap[y]?).trans (m7.block y hy hne)⟩
          clear hyl hu0 hu1 hu2 hu3 hu4
          go_wp2_with fail
          rw [← hw9]
          clear hw9 e0 e1 e2 e3 e4 f0 f1 f2 f3 f4 x0 x1 x2 x3 x4
          go_roundw
          case rel => exact ⟨q + 1, _, by omega, by go_num, HO9, HM9⟩
          case measure => simp [intOf]; omega
        · have hlt' : ¬ (q : Int) < (m : Int) := by omega
          have HEB : Hid (Below U7.heap.size U7 wr) := by
            have h1 := unhide H76
            have h2 := unhide HMq
            have h3 := unhide HG8
            exact ⟨h2.os.trans h1.os, h2.tape.trans h1.tape, h2.output.trans h1.output, Nat.le_trans h1.size h2.size, fun k hk => (h2.block k (Nat.lt_of_lt_of_le hk h1.size) (fun e => by have := Option.some.inj e; omega)).trans (h1.block k hk)⟩
          clear hlt HMq HOJ HG2 HG8 H76 H46 H86 HRX H78 H810 H48 HY8
          have e3 : (B == B) = true := by simp
          go_wp2_with fail
          obtain ⟨D, hD⟩ : ∃ D, D = wr.drew := ⟨_, rfl⟩
          have HBD : Hid (Below U7.heap.size U7 D) := by show Below _ _ _; rw [hD]; exact (unhide HEB).drew
          have HSP : Hid (∀ u, Below U7.heap.size U7 u → u.heap[V]? = some (.cells #[.int .i64 vk, .int .i64 vn, .string (str vt), .slice va1 vn1 vc1, .slice va2 vn2 vc2] 25 (0, 0)) ∧ u.heap[X]? = some (.cells #[.int .i64 zk, .int .i64 zn, .string (str zt), .slice za1 zn1 zc1, .slice za2 zn2 zc2] 25 (0, 0)) ∧ u.heap[Y7]? = some (.cells #[.int .i64 gk, .int .i64 gn, .string (str gt), .slice ga1 gn1 gc1, .slice ga2 gn2 gc2] 25 (0, 0))) := fun u hu => ⟨(unhide HKK u hu).1.row, (unhide HKK u hu).2.1.row, (unhide HKK u hu).2.2.1.row⟩
          refine wp_region_held_drew (S := fun u => u.heap[V]? = some (.cells #[.int .i64 vk, .int .i64 vn, .string (str vt), .slice va1 vn1 vc1, .slice va2 vn2 vc2] 25 (0, 0)) ∧ u.heap[X]? = some (.cells #[.int .i64 zk, .int .i64 zn, .string (str zt), .slice za1 zn1 zc1, .slice za2 zn2 zc2] 25 (0, 0)) ∧ u.heap[Y7]? = some (.cells #[.int .i64 gk, .int .i64 gn, .string (str gt), .slice ga1 gn1 gc1, .slice ga2 gn2 gc2] 25 (0, 0))) (by kernel_rfl) (by rw [← hD]; exact unhide HSP D (unhide HBD)) (fun hHeld => ?_)
          rw [← hD] at hHeld ⊢
          clear hD HEB
          refine wpAnyH_take (i := 0) (oi := ?_) (v := ?_) ?_ (by kernel_rfl) ?_ ?_ ?_ ?_ hHeld ?_
          rotate_left 2
          · (simp only [List.getElem?_toArray, List.getElem?_cons_zero]) <;> with_reducible rfl
          · kernel_rfl
          · kernel_rfl
          · exact fun _ _ _ h => h
          · exact Or.inl ⟨by rfl, by (intro w hSw; (try dsimp only at hSw); obtain ⟨sV, sX, sG⟩ := hSw; obtain ⟨y0, y1, y2, y3, y4⟩ := cells5 sV; obtain ⟨x0, x1, x2, x3, x4⟩ := cells5 sX; obtain ⟨g0, g1, g2, g3, g4⟩ := cells5 sG; go_simp <;> with_reducible rfl)⟩
          simp only [Act.put, List.setIfInBounds_toArray, List.set_cons_zero, List.set_cons_succ]
          refine wpAnyH_take (i := 1) (oi := ?_) (v := ?_) ?_ (by kernel_rfl) ?_ ?_ ?_ ?_ hHeld ?_
          rotate_left 2
          · (simp only [List.getElem?_toArray, List.getElem?_cons_succ, List.getElem?_cons_zero]) <;> with_reducible rfl
          · kernel_rfl
          · kernel_rfl
          · exact fun _ _ _ h => h
          · exact Or.inl ⟨by rfl, by (intro w hSw; (try dsimp only at hSw); obtain ⟨sV, sX, sG⟩ := hSw; obtain ⟨y0, y1, y2, y3, y4⟩ := cells5 sV; obtain ⟨x0, x1, x2, x3, x4⟩ := cells5 sX; obtain ⟨g0, g1, g2, g3, g4⟩ := cells5 sG; go_simp <;> with_reducible rfl)⟩
          simp only [Act.put, List.setIfInBounds_toArray, List.set_cons_zero, List.set_cons_succ]
          refine wpAnyH_ready (rs := [2]) (by kernel_rfl) (by simp) ?rda
          refine AllReadyH.cons (o := ?oa) ?ha (fun K hK => ?ba) AllReadyH.nil
          case ha => (simp only [List.getElem?_toArray, List.getElem?_cons_succ, List.getElem?_cons_zero]) <;> with_reducible rfl
          case ba =>
            go_simp
            refine (equal_same j (Al D) _ _ D (unhide HKK D (unhide HBD)).2.2.1.jv (unhide HKK D (unhide HBD)).1.jv (fun k hk => hk)).mono ?_
            rintro e w21 ⟨rfl, hb⟩
            have HBw21 : Hid (Below U7.heap.size U7 w21) := (unhide HBD).trans ((unhide hb).mono (unhide HBD).size)
            clear hb
            refine hK.out _ _ (unhide HSP w21 (unhide HBw21)) (fun hHeld => ?_)
            clear hK K
            try simp only [Act.put, List.setIfInBounds_toArray, List.set_cons_zero, List.set_cons_succ]
            refine wpAnyH_take (i := 3) (oi := ?_) (v := ?_) ?_ (by kernel_rfl) ?_ ?_ ?_ ?_ hHeld ?_
            rotate_left 2
            · (simp only [List.getElem?_toArray, List.getElem?_cons_succ, List.getElem?_cons_zero]) <;> with_reducible rfl
            · kernel_rfl
            · kernel_rfl
            · exact fun _ _ _ h => h
            · exact Or.inl ⟨by rfl, by (intro w hSw; (try dsimp only at hSw); obtain ⟨sV, sX, sG⟩ := hSw; obtain ⟨y0, y1, y2, y3, y4⟩ := cells5 sV; obtain ⟨x0, x1, x2, x3, x4⟩ := cells5 sX; obtain ⟨g0, g1, g2, g3, g4⟩ := cells5 sG; go_simp <;> with_reducible rfl)⟩
            simp only [Act.put, List.setIfInBounds_toArray, List.set_cons_zero, List.set_cons_succ]
            refine wpAnyH_take (i := 4) (oi := ?_) (v := ?_) ?_ (by kernel_rfl) ?_ ?_ ?_ ?_ hHeld ?_
            rotate_left 2
            · (simp only [List.getElem?_toArray, List.getElem?_cons_succ, List.getElem?_cons_zero]) <;> with_reducible rfl
            · kernel_rfl
            · kernel_rfl
            · exact fun _ _ _ h => h
            · exact Or.inl ⟨by rfl, by (intro w hSw; (try dsimp only at hSw); obtain ⟨sV, sX, sG⟩ := hSw; obtain ⟨y0, y1, y2, y3, y4⟩ := cells5 sV; obtain ⟨x0, x1, x2, x3, x4⟩ := cells5 sX; obtain ⟨g0, g1, g2, g3, g4⟩ := cells5 sG; go_simp <;> with_reducible rfl)⟩
            simp only [Act.put, List.setIfInBounds_toArray, List.set_cons_zero, List.set_cons_succ]
            refine wpAnyH_take (i := 5) (oi := ?_) (v := ?_) ?_ (by kernel_rfl) ?_ ?_ ?_ ?_ hHeld ?_
            rotate_left 2
            · (simp only [List.getElem?_toArray, List.getElem?_cons_succ, List.getElem?_cons_zero]) <;> with_reducible rfl
            · kernel_rfl
            · kernel_rfl
            · exact fun _ _ _ h => h
            · exact Or.inl ⟨by rfl, by (intro w hSw; (try dsimp only at hSw); obtain ⟨sV, sX, sG⟩ := hSw; obtain ⟨y0, y1, y2, y3, y4⟩ := cells5 sV; obtain ⟨x0, x1, x2, x3, x4⟩ := cells5 sX; obtain ⟨g0, g1, g2, g3, g4⟩ := cells5 sG; go_simp <;> with_reducible rfl)⟩
            simp only [Act.put, List.setIfInBounds_toArray, List.set_cons_zero, List.set_cons_succ]
            refine wpAnyH_take (i := 7) (oi := ?_) (v := ?_) ?_ (by kernel_rfl) ?_ ?_ ?_ ?_ hHeld ?_
            rotate_left 2
            · (simp only [List.getElem?_toArray, List.getElem?_cons_succ, List.getElem?_cons_zero]) <;> with_reducible rfl
            · kernel_rfl
            · kernel_rfl
            · exact fun _ _ _ h => h
            · exact Or.inl ⟨by rfl, by (intro w hSw; (try dsimp only at hSw); obtain ⟨sV, sX, sG⟩ := hSw; obtain ⟨y0, y1, y2, y3, y4⟩ := cells5 sV; obtain ⟨x0, x1, x2, x3, x4⟩ := cells5 sX; obtain ⟨g0, g1, g2, g3, g4⟩ := cells5 sG; go_simp <;> with_reducible rfl)⟩
            simp only [Act.put, List.setIfInBounds_toArray, List.set_cons_zero, List.set_cons_succ]
            refine wpAnyH_take (i := 8) (oi := ?_) (v := ?_) ?_ (by kernel_rfl) ?_ ?_ ?_ ?_ hHeld ?_
            rotate_left 2
            · (simp only [List.getElem?_toArray, List.getElem?_cons_succ, List.getElem?_cons_zero]) <;> with_reducible rfl
            · kernel_rfl
            · kernel_rfl
            · exact fun _ _ _ h => h
            · exact Or.inl ⟨by rfl, by (intro w hSw; (try dsimp only at hSw); obtain ⟨sV, sX, sG⟩ := hSw; obtain ⟨y0, y1, y2, y3, y4⟩ := cells5 sV; obtain ⟨x0, x1, x2, x3, x4⟩ := cells5 sX; obtain ⟨g0, g1, g2, g3, g4⟩ := cells5 sG; go_simp <;> with_reducible rfl)⟩
            simp only [Act.put, List.setIfInBounds_toArray, List.set_cons_zero, List.set_cons_succ]
            refine wpAnyH_ready (rs := [6]) (by kernel_rfl) (by simp) ?rdb
            refine AllReadyH.cons (o := ?ob) ?hb (fun K hK => ?bb) AllReadyH.nil
            case hb => (simp only [List.getElem?_toArray, List.getElem?_cons_succ, List.getElem?_cons_zero]) <;> with_reducible rfl
            case bb =>
              go_simp
              refine (unhide HSA w21 _ _ (unhide HKK w21 (unhide HBw21)).2.2.2.1.tb (unhide HKK w21 (unhide HBw21)).1.jv (unhide HKK w21 (unhide HBw21)).2.1.jv).mono ?_
              rintro e w22 ⟨rfl, hb⟩
              have HBw22 : Hid (Below U7.heap.size U7 w22) := (unhide HBw21).trans ((unhide hb).mono (unhide HBw21).size)
              clear hb
              refine hK.out _ _ (unhide HSP w22 (unhide HBw22)) (fun hHeld => ?_)
              clear hK K
              try simp only [Act.put, List.setIfInBounds_toArray, List.set_cons_zero, List.set_cons_succ]
              refine wpAnyH_ready (rs := [9]) (by kernel_rfl) (by simp) ?rdc
              refine AllReadyH.cons (o := ?oc) ?hc (fun K hK => ?bc) AllReadyH.nil
              case hc => (simp only [List.getElem?_toArray, List.getElem?_cons_succ, List.getElem?_cons_zero]) <;> with_reducible rfl
              case bc =>
                go_simp
                refine (unhide HSR w22 _ _ (unhide HKK w22 (unhide HBw22)).1.jv (unhide HKK w22 (unhide HBw22)).2.1.jv).mono ?_
                rintro e w23 ⟨rfl, hb⟩
                have HBw23 : Hid (Below U7.heap.size U7 w23) := (unhide HBw22).trans ((unhide hb).mono (unhide HBw22).size)
                clear hb
                refine hK.out _ _ (unhide HSP w23 (unhide HBw23)) (fun hHeld => ?_)
                clear hK K
                try simp only [Act.put, List.setIfInBounds_toArray, List.set_cons_zero, List.set_cons_succ]
                refine wpAnyH_take (i := 10) (oi := ?_) (v := ?_) ?_ (by kernel_rfl) ?_ ?_ ?_ ?_ hHeld ?_
                rotate_left 2
                · (simp only [List.getElem?_toArray, List.getElem?_cons_succ, List.getElem?_cons_zero]) <;> with_reducible rfl
                · kernel_rfl
                · kernel_rfl
                · exact fun _ _ _ h => h
                · exact Or.inl ⟨by rfl, by (intro w hSw; (try dsimp only at hSw); obtain ⟨sV, sX, sG⟩ := hSw; obtain ⟨y0, y1, y2, y3, y4⟩ := cells5 sV; obtain ⟨x0, x1, x2, x3, x4⟩ := cells5 sX; obtain ⟨g0, g1, g2, g3, g4⟩ := cells5 sG; go_simp <;> with_reducible rfl)⟩
                simp only [Act.put, List.setIfInBounds_toArray, List.set_cons_zero, List.set_cons_succ]
                refine wpAnyH_take (i := 11) (oi := ?_) (v := ?_) ?_ (by kernel_rfl) ?_ ?_ ?_ ?_ hHeld ?_
                rotate_left 2
                · (simp only [List.getElem?_toArray, List.getElem?_cons_succ, List.getElem?_cons_zero]) <;> with_reducible rfl
                · kernel_rfl
                · kernel_rfl
                · exact fun _ _ _ h => h
                · exact Or.inl ⟨by rfl, by (intro w hSw; (try dsimp only at hSw); obtain ⟨sV, sX, sG⟩ := hSw; obtain ⟨y0, y1, y2, y3, y4⟩ := cells5 sV; obtain ⟨x0, x1, x2, x3, x4⟩ := cells5 sX; obtain ⟨g0, g1, g2, g3, g4⟩ := cells5 sG; go_simp <;> with_reducible rfl)⟩
                simp only [Act.put, List.setIfInBounds_toArray, List.set_cons_zero, List.set_cons_succ]
                refine wpAnyH_take (i := 12) (oi := ?_) (v := ?_) ?_ (by kernel_rfl) ?_ ?_ ?_ ?_ hHeld ?_
                rotate_left 2
                · (simp only [List.getElem?_toArray, List.getElem?_cons_succ, List.getElem?_cons_zero]) <;> with_reducible rfl
                · kernel_rfl
                · kernel_rfl
                · exact fun _ _ _ h => h
                · exact Or.inl ⟨by rfl, by (intro w hSw; (try dsimp only at hSw); obtain ⟨sV, sX, sG⟩ := hSw; obtain ⟨y0, y1, y2, y3, y4⟩ := cells5 sV; obtain ⟨x0, x1, x2, x3, x4⟩ := cells5 sX; obtain ⟨g0, g1, g2, g3, g4⟩ := cells5 sG; go_simp <;> with_reducible rfl)⟩
                simp only [Act.put, List.setIfInBounds_toArray, List.set_cons_zero, List.set_cons_succ]
                refine wpAnyH_ready (rs := [13]) (by kernel_rfl) (by simp) ?rdd
                refine AllReadyH.cons (o := ?od) ?hd (fun K hK => ?bd) AllReadyH.nil
                case hd => (simp only [List.getElem?_toArray, List.getElem?_cons_succ, List.getElem?_cons_zero]) <;> with_reducible rfl
                case bd =>
                  go_simp
                  refine (unhide HAW w23 (unhide HKK w23 (unhide HBw23)).2.2.2.2).mono ?_
                  rintro e w24 ⟨rfl, hb⟩
                  have HBw24 : Hid (Below U7.heap.size U7 w24) := (unhide HBw23).trans ((unhide hb).mono (unhide HBw23).size)
                  clear hb
                  refine hK.out _ _ (unhide HSP w24 (unhide HBw24)) (fun hHeld => ?_)
                  clear hK K
                  try simp only [Act.put, List.setIfInBounds_toArray, List.set_cons_zero, List.set_cons_succ]
                  refine wpAnyH_take (i := 14) (oi := ?_) (v := ?_) ?_ (by kernel_rfl) ?_ ?_ ?_ ?_ hHeld ?_
                  rotate_left 2
                  · (simp only [List.getElem?_toArray, List.getElem?_cons_succ, List.getElem?_cons_zero]) <;> with_reducible rfl
                  · kernel_rfl
                  · kernel_rfl
                  · exact fun _ _ _ h => h
                  · exact Or.inl ⟨by rfl, by (intro w hSw; (try dsimp only at hSw); obtain ⟨sV, sX, sG⟩ := hSw; obtain ⟨y0, y1, y2, y3, y4⟩ := cells5 sV; obtain ⟨x0, x1, x2, x3, x4⟩ := cells5 sX; obtain ⟨g0, g1, g2, g3, g4⟩ := cells5 sG; go_simp <;> with_reducible rfl)⟩
                  simp only [Act.put, List.setIfInBounds_toArray, List.set_cons_zero, List.set_cons_succ]
                  refine wpAnyH_take (i := 15) (oi := ?_) (v := ?_) ?_ (by kernel_rfl) ?_ ?_ ?_ ?_ hHeld ?_
                  rotate_left 2
                  · (simp only [List.getElem?_toArray, List.getElem?_cons_succ, List.getElem?_cons_zero]) <;> with_reducible rfl
                  · kernel_rfl
                  · kernel_rfl
                  · exact fun _ _ _ h => h
                  · exact Or.inl ⟨by rfl, by (intro w hSw; (try dsimp only at hSw); obtain ⟨sV, sX, sG⟩ := hSw; obtain ⟨y0, y1, y2, y3, y4⟩ := cells5 sV; obtain ⟨x0, x1, x2, x3, x4⟩ := cells5 sX; obtain ⟨g0, g1, g2, g3, g4⟩ := cells5 sG; go_simp <;> with_reducible rfl)⟩
                  simp only [Act.put, List.setIfInBounds_toArray, List.set_cons_zero, List.set_cons_succ]
                  refine wpAnyH_done (by kernel_rfl) ?_ _
                  have HF : Hid (Below w.heap.size w w24) := (unhide HKK w24 (unhide HBw24)).2.2.2.2
                  go_wp2_with fail
                  go_ret
                  exact ⟨rfl, HF⟩
#print axioms jgets_any
theorem jsonxGets_walk (v : Value) (j : Js) (v' : Value) (j' : Js) (s : List UInt8) (w : World) (hJ : JV w (Al w) v j) (hi : Ib j) (hJ' : JV w (Al w) v' j') (hi' : Ib j') (hs : s.length ≤ maxLen) (hE : Env4 w) :
    Calls Tryz.prog 5 #[v, v', .string (str s)] w fun e w' => e = .returned (.bool true) ∧ Below w.heap.size w w' :=
  (jgets_any s j j' v v' w hJ hJ' hi hi' hE).mono fun e w' h => ⟨h.1, unhide h.2⟩
end Go.Proofs.YtbnbngmnoffmkaaGreatDoor
end
