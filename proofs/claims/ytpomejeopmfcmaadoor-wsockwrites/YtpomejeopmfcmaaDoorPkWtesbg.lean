/-
  WsockWrites: THE WALK.
-/
import Derived.Test.YtpomejeopmfcmaaDoorPkWtesax
import Derived.Test.YtpomejeopmfcmaaDoorPkWtesbf
import Derived.Deep.RegionHeld3
section
set_option linter.unusedVariables false
set_option maxRecDepth 1000000
namespace Go.Proofs.YtpomejeopmfcmaaDoor
open Go.RowKit


theorem equal_same (a1 : Option Addr) (cap1 : Nat) (l : List UInt8) (a2 : Option Addr) (cap2 : Nat) (w : World) (h1 : Bs w a1 cap1 l) (h2 : Bs w a2 cap2 l) :
    Calls Tryd.prog 10 #[.slice a1 l.length cap1, .slice a2 l.length cap2] w fun e w' => e = .returned (.bool true) ∧ w' = w := by
  refine (equal_any a1 l.length cap1 l a2 l.length cap2 l w h1.row h2.row rfl rfl).mono ?_
  rintro e w' ⟨rfl, rfl⟩
  exact ⟨by rw [beq_self_eq_true], rfl⟩

/-- The copy of the frame that came in, and of the mask. -/
structure GV (W wx : World) (g : Nat) (y : Option Addr) (cy : Nat) (fin : Bool) (op : Int) (x : Option Addr) (n c : Nat) (m : List UInt8) : Prop where
  below : Below W.heap.size W wx
  row : wx.heap[g]? = some (.cells #[.bool fin, .int .i64 op, .slice x n c] 24 (0, 0))
  own : OwnB wx W.heap.size y cy m
  ge : W.heap.size ≤ g
  ne : blk y ≠ some g

theorem set3_row (v : World) (g : Nat) (a b d a' b' d' : Value) (T : TypeId) (h : v.heap[g]? = some (.cells #[a, b, d] T (0, 0))) : (((v.setCell ⟨g, 0, none⟩ a').setCell ⟨g, 1, none⟩ b').setCell ⟨g, 2, none⟩ d').heap[g]? = some (.cells #[a', b', d'] T (0, 0)) := by
  rw [heap_setCell_same _ g 2 _ _ _ (heap_setCell_same _ g 1 _ _ _ (heap_setCell_same _ g 0 _ _ _ h))]; rfl
theorem below_set {B : Nat} {W v : World} (h : Below B W v) (hB : B ≤ v.heap.size) (p : Addr) (u : Value) (hp : B ≤ p.block) : Below B W (v.setCell p u) := h.grown (grownBy_setCell v p u) hB (fun k hk => by simp at hk; omega)
theorem gv_set {W v : World} {B g : Nat} {y : Option Addr} {cy : Nat} {fin : Bool} {op : Int} {x : Option Addr} {n c : Nat} {m : List UInt8} {a b d : Value} (hb : Below W.heap.size W v) (h : v.heap[g]? = some (.cells #[a, b, d] 24 (0, 0))) (ho : OwnB v B y cy m) (hB : W.heap.size ≤ B) (hne : blk y ≠ some g) (hg : W.heap.size ≤ g) :
    GV W (((v.setCell ⟨g, 0, none⟩ (.bool fin)).setCell ⟨g, 1, none⟩ (.int .i64 op)).setCell ⟨g, 2, none⟩ (.slice x n c)) g y cy fin op x n c m := by
  have st : ∀ (v : World) (p : Addr) (u : Value), p.block = g → OwnB v B y cy m → OwnB (v.setCell p u) B y cy m := fun v p u hp h => h.kept (grownBy_setCell v p u) (.inr (fun e => hne (by rw [e, hp])))
  have sb : ∀ (v : World) (p : Addr) (u : Value), p.block = g → Below W.heap.size W v → Below W.heap.size W (v.setCell p u) := fun v p u hp h => below_set h h.size p u (by omega)
  exact ⟨sb _ _ _ rfl (sb _ _ _ rfl (sb _ _ _ rfl hb)), set3_row v g a b d _ _ _ _ h, (st _ _ _ rfl (st _ _ _ rfl (st _ _ _ rfl ho))).base hB, hg, hne⟩

set_option maxHeartbeats 8000000 in
theorem wsockWrites_walk (fin : Bool) (op : Int) (x : Option Addr) (c : Nat) (l : List UInt8) (b : Option Addr) (cb : Nat) (m : List UInt8) (code : Int) (s : List UInt8) (w : World) (hL : Bs w x c l) (hM : Bs w b cb m) (hs : s.length ≤ maxLen) (hT : Tb w) (hU : Tabs w) :
    Calls Tryd.prog 3 #[.agg #[.bool fin, .int .i64 op, .slice x l.length c], .slice b m.length cb, .int .i64 code, .string (str s)] w fun e w' => e = .returned (.bool true) ∧ Below w.heap.size w w' := by
  have hle := hL.le
  have hmost := hL.most
  have hmle := hM.le
  have hmmost := hM.most
  unfold maxLen at hmost hmmost hs
  have hsz : (str s).size = s.length := str_size s
  obtain ⟨W, hW⟩ : ∃ W, W = w.alloc (.cells #[.bool fin, .int .i64 op, .slice x l.length c] 24) := ⟨_, rfl⟩
  have hB : Below w.heap.size w W := by rw [hW]; exact (Below.refl _ _).alloc (Nat.le_refl _) _
  have hF : W.heap[w.heap.size]? = some (.cells #[.bool fin, .int .i64 op, .slice x l.length c] 24 (0, 0)) := by rw [hW]; exact heap_alloc_new w _
  have hwz : w.heap.size < W.heap.size := (Array.getElem?_eq_some_iff.1 hF).1
  have r0 : W.cell? ⟨w.heap.size, 0, none⟩ = some (.bool fin) := by rw [cell_of_row W w.heap.size 0 _ _ _ hF]; rfl
  have r1 : W.cell? ⟨w.heap.size, 1, none⟩ = some (.int .i64 op) := by rw [cell_of_row W w.heap.size 1 _ _ _ hF]; rfl
  have r2 : W.cell? ⟨w.heap.size, 2, none⟩ = some (.slice x l.length c) := by rw [cell_of_row W w.heap.size 2 _ _ _ hF]; rfl
  have HF := hide hF
  have HL := hide (hL.below hB (Nat.le_refl _))
  have HM := hide (hM.below hB (Nat.le_refl _))
  have HT := hide (hT.below hB hT.big)
  have HU := hide (Utf8Tabs_below hU hB)
  have HB := hide hB
  clear hB hL hM hT hU hF
  go_enter Tryd.func3, Tryd.ntmps3
  go_upto_region 1 with fail
  rw [← hW]
  clear hW
  by_cases hbig : 262144 < l.length
  · have hb' : (262144 : Int) < (l.length : Int) := by omega
    clear hbig
    go_wp2_with (go_at_call 4; refine (awake9_any W (unhide HT)).mono ?_; rintro e w2 ⟨rfl, hb2⟩)
    go_ret
    exact ⟨rfl, (unhide HB).trans ((unhide hb2).mono (unhide HB).size)⟩
  have hb1 : ¬ (262144 : Int) < (l.length : Int) := by omega
  by_cases hbs : 262144 < s.length
  · have hb' : (262144 : Int) < (s.length : Int) := by omega
    clear hbig hbs
    go_wp2_with (go_at_call 4; refine (awake9_any W (unhide HT)).mono ?_; rintro e w2 ⟨rfl, hb2⟩)
    go_ret
    exact ⟨rfl, (unhide HB).trans ((unhide hb2).mono (unhide HB).size)⟩
  have hb2 : ¬ (262144 : Int) < (s.length : Int) := by omega
  by_cases hbm : 262144 < m.length
  · have hb' : (262144 : Int) < (m.length : Int) := by omega
    clear hbig hbs hbm
    go_wp2_with (go_at_call 4; refine (awake9_any W (unhide HT)).mono ?_; rintro e w2 ⟨rfl, hbw⟩)
    go_ret
    exact ⟨rfl, (unhide HB).trans ((unhide hbw).mono (unhide HB).size)⟩
  have hb3 : ¬ (262144 : Int) < (m.length : Int) := by omega
  have hl26 : l.length ≤ 262144 := by omega
  have hs26 : s.length ≤ 262144 := by omega
  have hm26 : m.length ≤ 262144 := by omega
  clear hbig hbs hbm
  have HBA : Hid (Below W.heap.size W (W.alloc (.cells #[.bool false, .int .i64 0, .slice none 0 0] 24)).drew) := ((Below.refl _ W).alloc (Nat.le_refl _) _).drew
  have HMA := hide ((unhide HM).below (unhide HBA) (Nat.le_refl _))
  have HZA : Hid ((W.alloc (.cells #[.bool false, .int .i64 0, .slice none 0 0] 24)).drew.heap[W.heap.size]? = some (.cells #[.bool false, .int .i64 0, .slice none 0 0] 24 (0, 0))) := heap_alloc_new W _
  have HZl : Hid (W.heap.size < (W.alloc (.cells #[.bool false, .int .i64 0, .slice none 0 0] 24)).drew.heap.size) := (Array.getElem?_eq_some_iff.1 (unhide HZA)).1
  have hcs : ∀ (v : World) (v0 v1 v2 : Value) (o : Nat), (((v.setCell ⟨W.heap.size, 0, none⟩ v0).setCell ⟨W.heap.size, 1, none⟩ v1).setCell ⟨W.heap.size, 2, none⟩ v2).cell? ⟨w.heap.size, o, none⟩ = v.cell? ⟨w.heap.size, o, none⟩ := fun v v0 v1 v2 o => by
    have ne : ∀ i, (⟨W.heap.size, i, none⟩ : Addr) ≠ ⟨w.heap.size, o, none⟩ := fun i e => by have := congrArg Addr.block e; simp at this; omega
    rw [World.cell?_setCell_other _ _ _ _ (ne 2), World.cell?_setCell_other _ _ _ _ (ne 1), World.cell?_setCell_other _ _ _ _ (ne 0)]
  have HCS := hide hcs
  clear hcs
  go_upto_region 3 with fail
  go_cut [9, 10] (fun s9 s10 wx => ∃ g y cy, s9 = .pointer (some ⟨g, 0, none⟩) ∧ s10 = .slice y m.length cy ∧ Hid (GV W wx g y cy fin op x l.length c m))
  case first =>
    go_region_held3 (fun w' => w'.cell? ⟨w.heap.size, 0, none⟩ = some (.bool fin) ∧ w'.cell? ⟨w.heap.size, 1, none⟩ = some (.int .i64 op) ∧ w'.cell? ⟨w.heap.size, 2, none⟩ = some (.slice x l.length c)) (first | exact S2 | exact ⟨r0, r1, r2⟩ | exact ⟨(unhide HCS _ _ _ _ _).trans S2.1, (unhide HCS _ _ _ _ _).trans S2.2.1, (unhide HCS _ _ _ _ _).trans S2.2.2⟩ | go_keep) ((first | (go_at_call 5; refine (sclone_any b m.length cb m _ (unhide HMA) rfl (by omega)).mono ?_; rintro e w2 ⟨y, cy, mm, rfl, hmm, ho2, hb2'⟩; obtain rfl : mm = m := unhide hmm; have HO2 := hide ho2; have HB2 : Hid (Below W.heap.size W w2) := (unhide HBA).trans (hb2'.mono (unhide HBA).size); have hZ2 := (hb2'.block W.heap.size (unhide HZl)).trans (unhide HZA); have k0 : w2.cell? ⟨W.heap.size, 0, none⟩ = some (.bool false) := by { rw [cell_of_row w2 W.heap.size 0 _ _ _ hZ2]; rfl }; have k1 : w2.cell? ⟨W.heap.size, 1, none⟩ = some (.int .i64 0) := by { rw [cell_of_row w2 W.heap.size 1 _ _ _ hZ2]; rfl }; have k2 : w2.cell? ⟨W.heap.size, 2, none⟩ = some (.slice none 0 0) := by { rw [cell_of_row w2 W.heap.size 2 _ _ _ hZ2]; rfl }; have f0 := frozen_of_row w2 W.heap.size 0 _ _ hZ2; have f1 := frozen_of_row w2 W.heap.size 1 _ _ hZ2; have f2 := frozen_of_row w2 W.heap.size 2 _ _ hZ2; have HZ2 := hide hZ2; have S2 : w2.cell? ⟨w.heap.size, 0, none⟩ = some (.bool fin) ∧ w2.cell? ⟨w.heap.size, 1, none⟩ = some (.int .i64 op) ∧ w2.cell? ⟨w.heap.size, 2, none⟩ = some (.slice x l.length c) := ⟨((unhide HB2).cell (show w.heap.size < W.heap.size by omega)).trans r0, ((unhide HB2).cell (show w.heap.size < W.heap.size by omega)).trans r1, ((unhide HB2).cell (show w.heap.size < W.heap.size by omega)).trans r2⟩; clear hb2' ho2 hmm hZ2) | (go_at_call 5; refine (sclone_any b m.length cb m W.drew ((unhide HM).below ((Below.refl _ W).drew) (Nat.le_refl _)) rfl (by omega)).mono ?_; rintro e w2 ⟨y, cy, mm, rfl, hmm, ho2, hb2'⟩; obtain rfl : mm = m := unhide hmm; have HO2 := hide ho2; have HB2 : Hid (Below W.heap.size W w2) := ((Below.refl _ W).drew).trans hb2'; have S2 : w2.cell? ⟨w.heap.size, 0, none⟩ = some (.bool fin) ∧ w2.cell? ⟨w.heap.size, 1, none⟩ = some (.int .i64 op) ∧ w2.cell? ⟨w.heap.size, 2, none⟩ = some (.slice x l.length c) := ⟨((unhide HB2).cell (show w.heap.size < W.heap.size by omega)).trans r0, ((unhide HB2).cell (show w.heap.size < W.heap.size by omega)).trans r1, ((unhide HB2).cell (show w.heap.size < W.heap.size by omega)).trans r2⟩; clear hb2' ho2 hmm)))
    · go_wp2_with fail
      go_meet
      case rel =>
        refine ⟨w2.heap.size, y, cy, rfl, rfl, ?_⟩
        refine ⟨(unhide HB2).alloc (unhide HB2).size _, heap_alloc_new w2 _, ((unhide HO2).alloc _).base (Nat.le_refl _), (unhide HB2).size, fun e => ?_⟩
        have := ((unhide HO2).lt _ e).2
        omega
    · go_wp2_with fail
      go_meet
      case rel =>
        refine ⟨W.heap.size, y, cy, rfl, rfl, gv_set (unhide HB2) (unhide HZ2) (unhide HO2) (unhide HBA).size (fun e => ?_) (Nat.le_refl _)⟩
        have h1 := ((unhide HO2).lt _ e).1
        have h2 := unhide HZl
        omega
  case rest =>
    obtain ⟨g, y, cy, rfl, rfl, HG⟩ := hcut
    have hwc := (unhide HG).below
    have q2 : wc.cell? ⟨w.heap.size, 2, none⟩ = some (.slice x l.length c) := (hwc.cell (show w.heap.size < W.heap.size by omega)).trans r2
    have f2 : wc.frozen? ⟨g, 2, none⟩ = false := frozen_of_row wc g 2 _ _ (unhide HG).row
    have HLc := hide ((unhide HL).below hwc (Nat.le_refl _))
    have hgl : g < wc.heap.size := (Array.getElem?_eq_some_iff.1 (unhide HG).row).1
    have c2 : wc.cell? ⟨g, 2, none⟩ = some (.slice x l.length c) := by rw [cell_of_row wc g 2 _ _ _ (unhide HG).row]; rfl
    clear hwc
    go_wp2_with fail
    refine (sclone_any x l.length c l wc (unhide HLc) rfl (by omega)).mono ?_
    rintro e w3 ⟨y2, cy2, ll, rfl, hll, ho3, hb3⟩
    obtain rfl : ll = l := unhide hll
    have hG3 : GV W w3 g y cy fin op x ll.length c m := ⟨(unhide HG).below.trans (hb3.mono (unhide HG).below.size), (hb3.block g hgl).trans (unhide HG).row, (unhide HG).own.below hb3 (Nat.le_refl _), (unhide HG).ge, (unhide HG).ne⟩
    have c2 : w3.cell? ⟨g, 2, none⟩ = some (.slice x ll.length c) := by rw [cell_of_row w3 g 2 _ _ _ hG3.row]; rfl
    have f2 : w3.frozen? ⟨g, 2, none⟩ = false := frozen_of_row w3 g 2 _ _ hG3.row
    obtain ⟨V, hV⟩ : ∃ V, V = w3.setCell ⟨g, 2, none⟩ (.slice y2 ll.length cy2) := ⟨_, rfl⟩
    have hne3 : blk y2 ≠ some g := fun e => by have := (ho3.lt g e).1; omega
    have hVB : Below W.heap.size W V := by rw [hV]; exact below_set hG3.below hG3.below.size _ _ hG3.ge
    have hVR : V.heap[g]? = some (.cells #[.bool fin, .int .i64 op, .slice y2 ll.length cy2] 24 (0, 0)) := by rw [hV, heap_setCell_same _ g 2 _ _ _ hG3.row]; rfl
    have HOy := hide (show Bs V y cy m by rw [hV]; exact (hG3.own.kept (grownBy_setCell w3 ⟨g, 2, none⟩ _) (.inr hG3.ne)).toBs)
    have HO2 := hide (show Bs V y2 cy2 ll by rw [hV]; exact (ho3.kept (grownBy_setCell w3 ⟨g, 2, none⟩ _) (.inr hne3)).toBs)
    have HVB := hide hVB
    have HVR := hide hVR
    have HLV := hide ((unhide HL).below hVB (Nat.le_refl _))
    have HMV := hide ((unhide HM).below hVB (Nat.le_refl _))
    have HTV := hide ((unhide HT).below hVB (unhide HT).big)
    have HUV := hide (Utf8Tabs_below (unhide HU) hVB)
    have HFV := hide ((hVB.block _ hwz).trans (unhide HF))
    clear ho3 hb3 hll hG3 hVB hVR hne3 HLc HG
    go_upto_region 5 with fail
    rw [← hV]
    clear hV c2 f2 q2 r0 r1 r2
    have z0 : V.cell? ⟨g, 0, none⟩ = some (.bool fin) := by rw [cell_of_row V g 0 _ _ _ (unhide HVR)]; rfl
    have z1 : V.cell? ⟨g, 1, none⟩ = some (.int .i64 op) := by rw [cell_of_row V g 1 _ _ _ (unhide HVR)]; rfl
    have z2 : V.cell? ⟨g, 2, none⟩ = some (.slice y2 ll.length cy2) := by rw [cell_of_row V g 2 _ _ _ (unhide HVR)]; rfl
    go_wp2_with fail
    refine (write_any op fin y2 cy2 ll y cy m V (unhide HO2) (unhide HOy)).mono ?_
    rintro e w5 ⟨a5, c5, R, rfl, HR5, HO5, HB5⟩
    have hA5 := (unhide HVB).trans ((unhide HB5).mono (unhide HVB).size)
    have hF5 := (hA5.block _ hwz).trans (unhide HF)
    have q0 : w5.cell? ⟨w.heap.size, 0, none⟩ = some (.bool fin) := by rw [cell_of_row w5 w.heap.size 0 _ _ _ hF5]; rfl
    have q1 : w5.cell? ⟨w.heap.size, 1, none⟩ = some (.int .i64 op) := by rw [cell_of_row w5 w.heap.size 1 _ _ _ hF5]; rfl
    have q2 : w5.cell? ⟨w.heap.size, 2, none⟩ = some (.slice x ll.length c) := by rw [cell_of_row w5 w.heap.size 2 _ _ _ hF5]; rfl
    have HA5 := hide hA5
    have HRR5 := hide ((unhide HB5).block g (Array.getElem?_eq_some_iff.1 (unhide HVR)).1 |>.trans (unhide HVR))
    clear hA5 hF5 z0 z1 z2
    go_wp2_with fail
    refine (rwr_any op fin x c ll b cb m w5 ((unhide HL).below (unhide HA5) (Nat.le_refl _)) ((unhide HM).below (unhide HA5) (Nat.le_refl _))).mono ?_
    rintro e w6 ⟨a6, c6, R6, rfl, HR6, HO6, HB6⟩
    obtain rfl : R6 = R := (unhide HR6).trans (unhide HR5).symm
    clear HR6 HR5 q0 q1 q2
    have HA6 := hide ((unhide HA5).trans ((unhide HB6).mono (unhide HA5).size))
    have HU6 := hide (Utf8Tabs_below (unhide HU) (unhide HA6))
    generalize wrE op fin m ll = E1
    go_wp2_with fail
    refine (txt_any code s w6 (unhide HU6) hs26).mono ?_
    rintro e w7 ⟨a7, c7, R7, rfl, HR7, HO7, HB7⟩
    have HA7 := hide ((unhide HA6).trans ((unhide HB7).mono (unhide HA6).size))
    go_wp2_with fail
    refine (rtxt_any code s w7 hs26).mono ?_
    rintro e w8 ⟨a8, c8, R8, rfl, HR8, HO8, HB8⟩
    obtain rfl : R8 = R7 := (unhide HR8).trans (unhide HR7).symm
    clear HR8 HR7
    generalize txE code s = E2
    have HA8 := hide ((unhide HA7).trans ((unhide HB8).mono (unhide HA7).size))
    have hs6 := (unhide HB6).size
    have hs7 := (unhide HB7).size
    have hs8 := (unhide HB8).size
    have hsV := (unhide HB5).size
    have HX6 : Hid (Below w6.heap.size w6 w8) := (unhide HB7).trans ((unhide HB8).mono hs7)
    have HX5 : Hid (Below w5.heap.size w5 w8) := (unhide HB6).trans ((unhide HX6).mono hs6)
    have HXV : Hid (Below V.heap.size V w8) := (unhide HB5).trans ((unhide HX5).mono hsV)
    have e1 : (E1 == E1) = true := beq_self_eq_true _
    have e2 : (E2 == E2) = true := beq_self_eq_true _
    have hF8 := ((unhide HA8).block _ hwz).trans (unhide HF)
    have q0 : w8.cell? ⟨w.heap.size, 0, none⟩ = some (.bool fin) := by rw [cell_of_row w8 w.heap.size 0 _ _ _ hF8]; rfl
    have q1 : w8.cell? ⟨w.heap.size, 1, none⟩ = some (.int .i64 op) := by rw [cell_of_row w8 w.heap.size 1 _ _ _ hF8]; rfl
    have q2 : w8.cell? ⟨w.heap.size, 2, none⟩ = some (.slice x ll.length c) := by rw [cell_of_row w8 w.heap.size 2 _ _ _ hF8]; rfl
    have hG8 := ((unhide HXV).block g (Array.getElem?_eq_some_iff.1 (unhide HVR)).1).trans (unhide HVR)
    have z0 : w8.cell? ⟨g, 0, none⟩ = some (.bool fin) := by rw [cell_of_row w8 g 0 _ _ _ hG8]; rfl
    have z1 : w8.cell? ⟨g, 1, none⟩ = some (.int .i64 op) := by rw [cell_of_row w8 g 1 _ _ _ hG8]; rfl
    have z2 : w8.cell? ⟨g, 2, none⟩ = some (.slice y2 ll.length cy2) := by rw [cell_of_row w8 g 2 _ _ _ hG8]; rfl
    clear hF8 hG8
    go_wp2_with fail
    refine (equal_same a5 c5 R6 a6 c6 w8 ((unhide HO5).toBs.below (unhide HX5) (Nat.le_refl _)) ((unhide HO6).toBs.below (unhide HX6) (Nat.le_refl _))).mono ?_
    rintro e wz ⟨rfl, rfl⟩
    go_wp2_with fail
    refine (equal_same a7 c7 R8 a8 c8 wz ((unhide HO7).toBs.below (unhide HB8) (Nat.le_refl _)) (unhide HO8).toBs).mono ?_
    rintro e wy ⟨rfl, rfl⟩
    go_wp2_with fail
    refine (same_eq fin op y2 cy2 x c ll wy ((unhide HO2).below (unhide HXV) (Nat.le_refl _)) ((unhide HL).below (unhide HA8) (Nat.le_refl _))).mono ?_
    rintro e w9 ⟨rfl, HB9⟩
    have HA9 := hide ((unhide HA8).trans ((unhide HB9).mono (unhide HA8).size))
    have HXV9 : Hid (Below V.heap.size V w9) := (unhide HXV).trans ((unhide HB9).mono (unhide HXV).size)
    clear q0 q1 q2 z0 z1 z2
    go_wp2_with fail
    refine (equal_same y cy m b cb w9 ((unhide HOy).below (unhide HXV9) (Nat.le_refl _)) ((unhide HM).below (unhide HA9) (Nat.le_refl _))).mono ?_
    rintro e wx ⟨rfl, rfl⟩
    go_wp2_with fail
    refine (awake9_any wx ((unhide HT).below (unhide HA9) (unhide HT).big)).mono ?_
    rintro e w10 ⟨rfl, HB10⟩
    go_wp2_with fail
    go_ret
    exact ⟨rfl, (unhide HB).trans (((unhide HA9).trans ((unhide HB10).mono (unhide HA9).size)).mono (unhide HB).size)⟩
#print axioms wsockWrites_walk
end Go.Proofs.YtpomejeopmfcmaaDoor
end
