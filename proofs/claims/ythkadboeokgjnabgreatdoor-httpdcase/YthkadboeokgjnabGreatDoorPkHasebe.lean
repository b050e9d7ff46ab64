/-
  httpd: the document's SameRequest at equal requests.; HttpdCase's walk.
-/
import Derived.Test.YthkadboeokgjnabGreatDoorPkHaseay
import Derived.Test.YthkadboeokgjnabGreatDoorPkHasebd
import Derived.Test.YthkadboeokgjnabGreatDoorPkHaseaw
section
set_option linter.unusedVariables false
set_option maxRecDepth 1000000
namespace Go.Proofs.YthkadboeokgjnabGreatDoor
open Go.RowKit

set_option maxHeartbeats 4000000 in
theorem same_eq (m p : List UInt8) (H : List Hd) (B : List UInt8) (hp hq bp bq : Option Addr) (hc hd bc bd : Nat) (w : World) (h1 : HdR w hp H) (h2 : HdR w hq H) (b1 : Bs w bp bc B) (b2 : Bs w bq bd B) (hl : H.length ≤ 1000000) (hbl : B.length ≤ 100000000) :
    Calls Tryz.prog 17 #[.agg #[.string (str m), .string (str p), .slice hp H.length hc, .slice bp B.length bc], .agg #[.string (str m), .string (str p), .slice hq H.length hd, .slice bq B.length bd]] w fun e w' => e = .returned (.bool true) ∧ Hid (Below w.heap.size w w') := by
  have H1 := hide h1
  have H2 := hide h2
  have B1 := hide b1
  have B2 := hide b2
  clear h1 h2 b1 b2
  obtain ⟨o1, ho1⟩ : ∃ o, o = Obj.cells #[.string (str m), .string (str p), .slice hp H.length hc, .slice bp B.length bc] 38 := ⟨_, rfl⟩
  obtain ⟨o2, ho2⟩ : ∃ o, o = Obj.cells #[.string (str m), .string (str p), .slice hq H.length hd, .slice bq B.length bd] 38 := ⟨_, rfl⟩
  have hb : Below w.heap.size w ((w.alloc o1).alloc o2) := ((Below.refl _ _).alloc (Nat.le_refl _) _).alloc (by simp) _
  have k1 := run_str _ _ _ bc B (unhide B1 |>.below hb (Nat.le_refl _)).row rfl
  have k2 := run_str _ _ _ bd B (unhide B2 |>.below hb (Nat.le_refl _)).row rfl
  have HS := hide (samh_eq hp hq hc hd H _ ((unhide H1).below hb (Nat.le_refl _)) ((unhide H2).below hb (Nat.le_refl _)) hl)
  have HB := hide hb
  clear hb
  rw [ho1, ho2] at k1 k2 HS HB
  clear ho1 ho2
  have HBS := hide (unhide HB).size
  go_enter Tryz.func17, Tryz.ntmps17
  go_wp2_with fail
  refine (unhide HS).mono ?_
  rintro e w' ⟨rfl, HB2⟩
  go_wp2_with fail
  go_ret
  exact ⟨rfl, hide ((unhide HB).trans ((unhide HB2).mono (unhide HBS)))⟩
#print axioms same_eq
end Go.Proofs.YthkadboeokgjnabGreatDoor
end
section
set_option linter.unusedVariables false
set_option maxRecDepth 1000000
namespace Go.Proofs.YthkadboeokgjnabGreatDoor
open Go.RowKit

theorem Fl.snoc : ∀ {nm : Bool} {s t : List UInt8} {x y : UInt8}, Fl nm s t → Fs (stt nm s) x y → Fl nm (s ++ [x]) (t ++ [y])
  | _, [], [], x, y, _, h => ⟨h, trivial⟩
  | nm, a :: l, b :: r, x, y, h, k => ⟨h.1, Fl.snoc h.2 k⟩
  | _, [], _ :: _, _, _, h, _ => h.elim
  | _, _ :: _, [], _, _, h, _ => h.elim
theorem u8x8 (a : UInt8) : bits .xor .u8 (a.toNat : Int) 32 = ((a ^^^ 32).toNat : Int) := by
  have := u8_xor_nat a.toNat 32 a.toNat_lt (by decide)
  rw [show ((32 : Nat) : Int) = 32 from rfl] at this
  rw [this, UInt8.toNat_xor]; rfl
theorem own_stored8 {w : World} {base g cap : Nat} {l : List UInt8} (h : OwnB w base (some ⟨g, 0, none⟩) cap l) (j : Nat) (c : UInt8) : OwnB (w.setCell ⟨g, j, none⟩ (.int .u8 (c.toNat : Int))) base (some ⟨g, 0, none⟩) cap (l.set j c) := by
  have := World.ownsRow.stored h j (.int .u8 (c.toNat : Int))
  unfold OwnB
  rw [List.length_set]
  have e : bs (l.set j c) = (bs l).set j (.int .u8 (c.toNat : Int)) := by simp [bs, List.map_set]
  rw [e]
  exact this.1
/-- What a round keeps: some bytes were gone through. -/
structure CsI (w1 wr : World) (b cc : List UInt8) (g cap k : Nat) (nm : Bool) : Prop where
  own : OwnB wr w1.heap.size (some ⟨g, 0, none⟩) cap cc
  bel : Below w1.heap.size w1 wr
  fl : Fl false (b.take k) (cc.take k)
  st : nm = stt false (b.take k)
  rest : cc.drop k = b.drop k
  len : cc.length = b.length
theorem CsI.next {w1 wr w' : World} {b cc cc' : List UInt8} {g cap k : Nat} {nm : Bool} (h : CsI w1 wr b cc g cap k nm) (hk : k < b.length) (x y : UInt8) (hx : b[k]? = some x) (hy : cc' = cc.set k y) (hf : Fs nm x y) (ho : OwnB w' w1.heap.size (some ⟨g, 0, none⟩) cap cc') (hb : Below w1.heap.size w1 w') : CsI w1 w' b cc' g cap (k + 1) (nx nm x) := by
  have hl := h.len
  have e1 : b.take (k + 1) = b.take k ++ [x] := by rw [List.take_add_one, hx]; rfl
  have e2 : cc'.take (k + 1) = cc.take k ++ [y] := by
    rw [hy, List.take_add_one, List.getElem?_set_self (by omega), List.take_set_of_le (Nat.le_refl k)]
    rfl
  refine ⟨ho, hb, ?_, ?_, ?_, by rw [hy]; simp [hl]⟩
  · rw [e1, e2]
    exact h.fl.snoc (by rw [← h.st]; exact hf)
  · rw [e1, stt_app, ← h.st]; rfl
  · rw [hy, List.drop_set_of_lt (by omega)]
    have := congrArg (List.drop 1) h.rest
    simpa [List.drop_drop, Nat.add_comm] using this
theorem CsI.at {w1 wr : World} {b cc : List UInt8} {g cap k : Nat} {nm : Bool} (h : CsI w1 wr b cc g cap k nm) (hk : k < b.length) : cc[k]? = b[k]? := by
  have := congrArg (fun l => l[0]?) h.rest
  simpa using this
set_option maxHeartbeats 1500000 in
theorem case_any (hix : ∀ (w : World) (a1 : Option Addr) (c1 : Nat) (b : List UInt8) (A : Nat) (c2 : Nat), EnvH w → Bs w a1 c1 b → Bs w (some ⟨A, 0, none⟩) c2 hend → b.length ≤ 1000000 → Calls Tryz.prog 22 #[.slice a1 b.length c1, .slice (some ⟨A, 0, none⟩) 4 c2] w fun e w' => e = .returned (.int .i64 (Lib.index b hend)) ∧ Hid (Below w.heap.size w w'))
    (w : World) (hE : EnvH w) (a1 : Option Addr) (c1 : Nat) (b : List UInt8) (h1 : Bs w a1 c1 b) (wh : Int) (hwh : 0 ≤ wh ∧ wh ≤ 18446744073709551615) :
    Calls Tryz.prog 7 #[.slice a1 b.length c1, .int .u64 wh] w fun e w' => e = .returned (.bool true) ∧ Hid (Below w.heap.size w w') := by
  by_cases hb : b.length ≤ 262144
  · have g1 : ¬ (262144 : Int) < (b.length : Int) := by omega
    obtain ⟨X, hX⟩ : ∃ X, X = w.alloc (.cells #[.int .u8 13, .int .u8 10, .int .u8 13, .int .u8 10] 5 (4, 5)) := ⟨_, rfl⟩
    have kc : (convert 23 23 (.slice (some ⟨w.heap.size, 0, none⟩) 4 4)).run Tryz.prog (w.alloc (.cells #[.int .u8 13, .int .u8 10, .int .u8 13, .int .u8 10] 5)) = .ok (.slice (some ⟨w.heap.size, 0, none⟩) 4 4) X := by
      rw [hX]; exact Lib.run_convert_bytes_const (P := Tryz.prog) w 23 5 #[.int .u8 13, .int .u8 10, .int .u8 13, .int .u8 10] 4 4 Tryz.underlying23 Tryz.underlying5
    have hb0 : Below w.heap.size w X := by rw [hX]; exact (Below.refl _ _).alloc (Nat.le_refl _) _
    have HIX := hide (hix X a1 c1 b w.heap.size 4 (hE.below hb0) (h1.below hb0 (Nat.le_refl _)) (by rw [hX]; exact bsc w _ hend rfl (4, 5) (by decide)) (by omega))
    obtain ⟨I, hI⟩ : ∃ I, I = Lib.index b hend := ⟨_, rfl⟩
    rw [← hI] at HIX
    have HII := hide hI
    have HB0 := hide hb0
    have HE := hide hE
    have H1 := hide h1
    clear hb0 hE h1 hI hix hX
    go_enter Tryz.func7, Tryz.ntmps7
    go_wp2_with fail
    refine (unhide HIX).mono ?_
    rintro e w1 ⟨rfl, HB1'⟩
    clear HIX
    have HW1 : Hid (Below w.heap.size w w1) := (unhide HB0).trans ((unhide HB1').mono (unhide HB0).size)
    have HCL' := hide (sclone_any a1 b.length c1 b w1 ((unhide H1).below (unhide HW1) (Nat.le_refl _)) rfl (by omega))
    clear HB1' HB0
    go_wp2_with fail
    refine (unhide HCL').mono ?_
    rintro e w2 ⟨a', c', r, rfl, HRR, hO2, hB2⟩
    clear HCL'
    obtain rfl := unhide HRR
    have HO2 := hide hO2
    have HB2 := hide hB2
    clear hO2 hB2 HRR
    by_cases hi : 0 ≤ I
    · obtain ⟨E, rfl⟩ := Int.eq_ofNat_of_zero_le hi
      have hEl : E + 4 ≤ r.length := by
        have := Lib.index_room r hend (by rw [← unhide HII]; omega)
        rw [← unhide HII] at this
        simp [hend] at this
        omega
      obtain ⟨gg, hge⟩ : ∃ gg, a' = some ⟨gg, 0, none⟩ := by
        rcases (unhide HO2).cases with ⟨_, _, h⟩ | ⟨g, cur, h, _⟩
        · rw [h] at hEl; simp at hEl
        · exact ⟨g, h⟩
      subst hge
      have HI0 : Hid (CsI w1 w2 r r gg c' 0 false) := ⟨unhide HO2, unhide HB2, by simp [Fl], rfl, rfl, rfl⟩
      clear HO2 HB2
      go_wp2_with fail
      go_loopw [7, 28] (fun v7 i wr => ∃ (k : Nat) (nm : Bool) (cc : List UInt8), k ≤ E ∧ i = .int .i64 (k : Int) ∧ v7 = .bool nm ∧ Hid (CsI w1 wr r cc gg c' k nm)) (fun _ i _ => E - (intOf i).toNat)
      case atStart => exact ⟨0, false, r, Nat.zero_le _, rfl, rfl, HI0⟩
      case round =>
        clear HI0
        obtain ⟨k, nm, cc, hk, rfl, rfl, HI⟩ := hrel
        by_cases hlt : k < E
        · have hlt' : (k : Int) < (E : Int) := by omega
          have hkl : k < r.length := by omega
          obtain ⟨x, hx⟩ : ∃ x, r[k]? = some x := ⟨_, List.getElem?_eq_getElem hkl⟩
          have hcx : cc[k]? = some x := ((unhide HI).at hkl).trans hx
          obtain ⟨bb, off, hae, hcell⟩ := (unhide HI).own.toBs.row (by intro e; rw [e] at hcx; simp at hcx)
          simp only [Option.some.injEq, Addr.mk.injEq, and_true] at hae
          obtain ⟨rfl, rfl⟩ := hae
          have hck := hcell k (List.getElem?_eq_some_iff.1 hcx).1
          rw [Nat.zero_add, show cc.getD k 0 = x by rw [List.getD_eq_getElem?_getD, hcx]; rfl] at hck
          have hx256 := x.toNat_lt
          have hset : cc.set k x = cc := by
            apply List.ext_getElem?
            intro j
            by_cases hj : j = k
            · subst hj; rw [List.getElem?_set_self (List.getElem?_eq_some_iff.1 hcx).1, hcx]
            · rw [List.getElem?_set_ne (fun e => hj e.symm)]
          have HNX : Hid (CsI w1 wr r cc gg c' (k + 1) (nx nm x)) := (unhide HI).next hkl x x hx hset.symm (.inl rfl) (unhide HI).own (unhide HI).bel
          have HCH : Hid (nm = true → letB x = true → CsI w1 (wr.setCell ⟨gg, k, none⟩ (.int .u8 ((x ^^^ 32).toNat : Int))) r (cc.set k (x ^^^ 32)) gg c' (k + 1) (nx nm x)) := fun h1 h2 => by
            refine (unhide HI).next hkl x (x ^^^ 32) hx rfl (.inr ⟨h1, h2, rfl⟩) (own_stored8 (unhide HI).own k _) ?_
            have hg := ((unhide HI).own.lt gg rfl).1
            have hbl := (unhide HI).bel
            exact ⟨hbl.os, hbl.tape, hbl.output, by simp [World.setCell]; exact hbl.size, fun j hj => (Below.heap_setCell _ _ _ j (by show j ≠ gg; omega)).trans (hbl.block j hj)⟩
          have hfz : wr.frozen? ⟨gg, k, none⟩ = false := by
            rcases (unhide HI).own.cases with ⟨h, _⟩ | ⟨g, cur, h, _, hg, _⟩
            · cases h
            · cases h; exact frozen_of_row wr gg k _ _ hg
          clear hcell hset hx hcx HI
          by_cases h10 : x = 10
          · subst h10
            have hck2 : wr.cell? ⟨gg, k, none⟩ = some (.int .u8 10) := hck
            clear hck HCH
            go_wp2
            go_roundw
            case rel => exact ⟨k + 1, true, cc, by omega, by go_num, rfl, HNX⟩
            case measure => simp [intOf]; omega
          · by_cases h58 : x = 58
            · subst h58
              have hck2 : wr.cell? ⟨gg, k, none⟩ = some (.int .u8 58) := hck
              clear hck HCH
              go_wp2
              go_roundw
              case rel => exact ⟨k + 1, false, cc, by omega, by go_num, rfl, HNX⟩
              case measure => simp [intOf]; omega
            · have n10 : ((x.toNat : Int) == 10) = false := by
                rw [beq_eq_false_iff_ne]; intro e; exact h10 (by apply UInt8.toNat_inj.1; show x.toNat = 10; omega)
              have n58 : ((x.toNat : Int) == 58) = false := by
                rw [beq_eq_false_iff_ne]; intro e; exact h58 (by apply UInt8.toNat_inj.1; show x.toNat = 58; omega)
              have hnx : nx nm x = nm := by unfold nx; rw [if_neg h10, if_neg h58]
              rw [hnx] at HNX HCH
              clear hnx h10 h58
              cases nm with
              | false =>
                clear HCH
                go_wp2
                go_roundw
                case rel => exact ⟨k + 1, false, cc, by omega, by go_num, rfl, HNX⟩
                case measure => simp [intOf]; omega
              | true =>
                go_wp2_with fail
                all_goals first
                  | exact ⟨⟨k + 1, true, cc, by omega, by go_num, rfl, HNX⟩, by simp [intOf]; omega⟩
                  | (refine ⟨⟨k + 1, true, cc.set k (x ^^^ 32), by omega, by go_num, rfl, ?_⟩, by simp [intOf]; omega⟩
                     rw [u8x8 x]
                     exact unhide HCH rfl (by simp [letB]; omega))
        · have hge : ¬ (k : Int) < (E : Int) := by omega
          obtain rfl : k = E := by omega
          have HEX : Hid (EnvH wr) := (unhide HE).below ((unhide HW1).trans ((unhide HI).bel.mono (unhide HW1).size))
          have HBW : Hid (Below w.heap.size w wr) := (unhide HW1).trans ((unhide HI).bel.mono (unhide HW1).size)
          have HB1 : Hid (Bs wr a1 c1 r) := (unhide H1).below (unhide HBW) (Nat.le_refl _)
          have HBC : Hid (Bs wr (some ⟨gg, 0, none⟩) c' cc) := (unhide HI).own.toBs
          have HPM : Hid (pM cc = pM r) := pM_case r cc k (unhide HII).symm (unhide HI).fl (unhide HI).rest
          have HCL : Hid (cc.length = r.length) := (unhide HI).len
          clear HI hlt
          have HP := hide (parse_w wr a1 c1 r (unhide HEX) (unhide HB1) (by omega))
          have HHL := hide (pM_hl r)
          obtain ⟨P, hP⟩ : ∃ P, P = pM r := ⟨_, rfl⟩
          rw [← hP] at HP HHL
          have HPM2 : Hid (pM cc = P) := (unhide HPM).trans hP.symm
          clear hP
          obtain ⟨⟨pm, pp, ph, pb⟩, n, st⟩ := P
          simp only at HP HHL
          go_wp2_with fail
          refine (unhide HP).mono ?_
          rintro e W ⟨hp, hc, bp, bc, rfl, HR, HB⟩
          clear HP
          obtain ⟨o, ho⟩ : ∃ o, o = Obj.cells #[.string (str pm), .string (str pp), .slice hp ph.length hc, .slice bp pb.length bc] 38 := ⟨_, rfl⟩
          have hbU : Below W.heap.size W (W.alloc o) := (Below.refl _ _).alloc (Nat.le_refl _) _
          have hbX : Below (wr).heap.size wr (W.alloc o) := (unhide HB).trans (hbU.mono (unhide HB).size)
          have HP2 := hide (parse_w (W.alloc o) (some ⟨gg, 0, none⟩) c' cc ((unhide HEX).below hbX) ((unhide HBC).below hbX (Nat.le_refl _)) (by have := unhide HCL; omega))
          rw [unhide HPM2] at HP2
          simp only at HP2
          have HXU : Hid (EnvH (W.alloc o) ∧ Below w.heap.size w (W.alloc o) ∧ W.heap.size < (W.alloc o).heap.size ∧ (W.alloc o).heap[W.heap.size]? = some (.cells #[.string (str pm), .string (str pp), .slice hp ph.length hc, .slice bp pb.length bc] 38 (0, 0)) ∧ HdR (W.alloc o) hp ph ∧ Bs (W.alloc o) bp bc pb) := ⟨(unhide HEX).below hbX, (unhide HBW).trans (hbX.mono (unhide HBW).size), by simp, by rw [ho]; exact heap_alloc_new W _, (unhide HR).hdr.below hbU (Nat.le_refl _), (unhide HR).own.toBs.below hbU (Nat.le_refl _)⟩
          have HLC := unhide HCL
          rw [ho] at HP2 HXU
          rw [HLC] at HP2
          clear hbU hbX ho o HR HB HEX HB1 HBC HBW
          go_wp2_with fail
          refine (unhide HP2).mono ?_
          rintro e Y ⟨hp3, hc3, bp3, bc3, rfl, HR3, HB3⟩
          clear HP2
          obtain ⟨hEU, hbw, hlt, hrU, hH1, hBB⟩ := unhide HXU
          obtain ⟨o4, ho4⟩ : ∃ o, o = Obj.cells #[.string (str pm), .string (str pp), .slice hp3 ph.length hc3, .slice bp3 pb.length bc3] 38 := ⟨_, rfl⟩
          have hbY : Below Y.heap.size Y (Y.alloc o4) := (Below.refl _ _).alloc (Nat.le_refl _) _
          have hX3 := (unhide HB3).trans (hbY.mono (unhide HB3).size)
          have hrY := (hX3.block _ hlt).trans hrU
          have HSR := hide (same_eq pm pp ph pb hp hp3 bp bp3 hc hc3 bc bc3 (Y.alloc o4) (hH1.below hX3 (Nat.le_refl _)) ((unhide HR3).hdr.below hbY (Nat.le_refl _)) (hBB.below hX3 (Nat.le_refl _)) ((unhide HR3).own.toBs.below hbY (Nat.le_refl _)) (by have := (unhide HHL).1; omega) (by have := (unhide HHL).2; omega))
          have q0 : (Y.alloc o4).cell? ⟨W.heap.size, 0, none⟩ = some (.string (str pm)) := cell_of_row _ _ _ _ _ _ hrY
          have q1 : (Y.alloc o4).cell? ⟨W.heap.size, 1, none⟩ = some (.string (str pp)) := cell_of_row _ _ _ _ _ _ hrY
          have q2 : (Y.alloc o4).cell? ⟨W.heap.size, 2, none⟩ = some (.slice hp ph.length hc) := cell_of_row _ _ _ _ _ _ hrY
          have q3 : (Y.alloc o4).cell? ⟨W.heap.size, 3, none⟩ = some (.slice bp pb.length bc) := cell_of_row _ _ _ _ _ _ hrY
          have HEY : Hid (EnvH (Y.alloc o4)) := hEU.below hX3
          have HX3 : Hid (Below w.heap.size w (Y.alloc o4)) := hbw.trans (hX3.mono hbw.size)
          rw [ho4] at q0 q1 q2 q3 HSR HEY HX3
          clear hbY hX3 hrY ho4 o4 hEU hbw hlt hrU hH1 hBB HXU
          go_wp2_with fail
          refine (unhide HSR).mono ?_
          rintro e V ⟨rfl, HBV⟩
          have HAW := hide (awake8_any V ((unhide HEY).below (unhide HBV)))
          have HVV : Hid (Below w.heap.size w V) := (unhide HX3).trans ((unhide HBV).mono (unhide HX3).size)
          clear HSR q0 q1 q2 q3
          go_wp2_with fail
          refine (unhide HAW).mono ?_
          rintro e V2 ⟨rfl, HB2⟩
          go_wp2_with fail
          go_ret
          exact ⟨rfl, hide ((unhide HVV).trans ((unhide HB2).mono (unhide HVV).size))⟩
    · have hge : ¬ 0 ≤ I := hi
      have HEX : Hid (EnvH w2) := (unhide HE).below ((unhide HW1).trans ((unhide HB2).mono (unhide HW1).size))
      have HBW : Hid (Below w.heap.size w w2) := (unhide HW1).trans ((unhide HB2).mono (unhide HW1).size)
      have HB1 : Hid (Bs w2 a1 c1 r) := (unhide H1).below (unhide HBW) (Nat.le_refl _)
      have HBC : Hid (Bs w2 a' c' r) := (unhide HO2).toBs
      have HPM : Hid (pM r = pM r) := rfl
      have HCL : Hid (r.length = r.length) := rfl
      clear HO2 HB2 hi
      have HP := hide (parse_w w2 a1 c1 r (unhide HEX) (unhide HB1) (by omega))
      have HHL := hide (pM_hl r)
      obtain ⟨P, hP⟩ : ∃ P, P = pM r := ⟨_, rfl⟩
      rw [← hP] at HP HHL
      have HPM2 : Hid (pM r = P) := (unhide HPM).trans hP.symm
      clear hP
      obtain ⟨⟨pm, pp, ph, pb⟩, n, st⟩ := P
      simp only at HP HHL
      go_wp2_with fail
      refine (unhide HP).mono ?_
      rintro e W ⟨hp, hc, bp, bc, rfl, HR, HB⟩
      clear HP
      obtain ⟨o, ho⟩ : ∃ o, o = Obj.cells #[.string (str pm), .string (str pp), .slice hp ph.length hc, .slice bp pb.length bc] 38 := ⟨_, rfl⟩
      have hbU : Below W.heap.size W (W.alloc o) := (Below.refl _ _).alloc (Nat.le_refl _) _
      have hbX : Below (w2).heap.size w2 (W.alloc o) := (unhide HB).trans (hbU.mono (unhide HB).size)
      have HP2 := hide (parse_w (W.alloc o) a' c' r ((unhide HEX).below hbX) ((unhide HBC).below hbX (Nat.le_refl _)) (by have := unhide HCL; omega))
      rw [unhide HPM2] at HP2
      simp only at HP2
      have HXU : Hid (EnvH (W.alloc o) ∧ Below w.heap.size w (W.alloc o) ∧ W.heap.size < (W.alloc o).heap.size ∧ (W.alloc o).heap[W.heap.size]? = some (.cells #[.string (str pm), .string (str pp), .slice hp ph.length hc, .slice bp pb.length bc] 38 (0, 0)) ∧ HdR (W.alloc o) hp ph ∧ Bs (W.alloc o) bp bc pb) := ⟨(unhide HEX).below hbX, (unhide HBW).trans (hbX.mono (unhide HBW).size), by simp, by rw [ho]; exact heap_alloc_new W _, (unhide HR).hdr.below hbU (Nat.le_refl _), (unhide HR).own.toBs.below hbU (Nat.le_refl _)⟩
      have HLC := unhide HCL
      rw [ho] at HP2 HXU
      clear hbU hbX ho o HR HB HEX HB1 HBC HBW
      go_wp2_with fail
      refine (unhide HP2).mono ?_
      rintro e Y ⟨hp3, hc3, bp3, bc3, rfl, HR3, HB3⟩
      clear HP2
      obtain ⟨hEU, hbw, hlt, hrU, hH1, hBB⟩ := unhide HXU
      obtain ⟨o4, ho4⟩ : ∃ o, o = Obj.cells #[.string (str pm), .string (str pp), .slice hp3 ph.length hc3, .slice bp3 pb.length bc3] 38 := ⟨_, rfl⟩
      have hbY : Below Y.heap.size Y (Y.alloc o4) := (Below.refl _ _).alloc (Nat.le_refl _) _
      have hX3 := (unhide HB3).trans (hbY.mono (unhide HB3).size)
      have hrY := (hX3.block _ hlt).trans hrU
      have HSR := hide (same_eq pm pp ph pb hp hp3 bp bp3 hc hc3 bc bc3 (Y.alloc o4) (hH1.below hX3 (Nat.le_refl _)) ((unhide HR3).hdr.below hbY (Nat.le_refl _)) (hBB.below hX3 (Nat.le_refl _)) ((unhide HR3).own.toBs.below hbY (Nat.le_refl _)) (by have := (unhide HHL).1; omega) (by have := (unhide HHL).2; omega))
      have q0 : (Y.alloc o4).cell? ⟨W.heap.size, 0, none⟩ = some (.string (str pm)) := cell_of_row _ _ _ _ _ _ hrY
      have q1 : (Y.alloc o4).cell? ⟨W.heap.size, 1, none⟩ = some (.string (str pp)) := cell_of_row _ _ _ _ _ _ hrY
      have q2 : (Y.alloc o4).cell? ⟨W.heap.size, 2, none⟩ = some (.slice hp ph.length hc) := cell_of_row _ _ _ _ _ _ hrY
      have q3 : (Y.alloc o4).cell? ⟨W.heap.size, 3, none⟩ = some (.slice bp pb.length bc) := cell_of_row _ _ _ _ _ _ hrY
      have HEY : Hid (EnvH (Y.alloc o4)) := hEU.below hX3
      have HX3 : Hid (Below w.heap.size w (Y.alloc o4)) := hbw.trans (hX3.mono hbw.size)
      rw [ho4] at q0 q1 q2 q3 HSR HEY HX3
      clear hbY hX3 hrY ho4 o4 hEU hbw hlt hrU hH1 hBB HXU
      go_wp2_with fail
      refine (unhide HSR).mono ?_
      rintro e V ⟨rfl, HBV⟩
      have HAW := hide (awake8_any V ((unhide HEY).below (unhide HBV)))
      have HVV : Hid (Below w.heap.size w V) := (unhide HX3).trans ((unhide HBV).mono (unhide HX3).size)
      clear HSR q0 q1 q2 q3
      go_wp2_with fail
      refine (unhide HAW).mono ?_
      rintro e V2 ⟨rfl, HB2⟩
      go_wp2_with fail
      go_ret
      exact ⟨rfl, hide ((unhide HVV).trans ((unhide HB2).mono (unhide HVV).size))⟩
  · have g1 : (262144 : Int) < (b.length : Int) := by omega
    have HAW := hide (awake8_any w hE)
    go_enter Tryz.func7, Tryz.ntmps7
    go_wp2_with fail
    refine (unhide HAW).mono ?_
    rintro e V2 ⟨rfl, HB2⟩
    go_wp2_with fail
    go_ret
    exact ⟨rfl, HB2⟩
#print axioms case_any
end Go.Proofs.YthkadboeokgjnabGreatDoor
end
