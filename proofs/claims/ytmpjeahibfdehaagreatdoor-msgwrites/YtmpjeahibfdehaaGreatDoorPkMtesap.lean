/-
  jsonx: untilQuote.; jsonx: untilQuote: the walk.
-/
import Derived.Test.YtmpjeahibfdehaaGreatDoorPkMtesak
import Derived.Test.YtmpjeahibfdehaaGreatDoorPkMtesan
import Derived.Test.YtmpjeahibfdehaaGreatDoorPkMtesao
section
set_option linter.unusedVariables false
set_option maxRecDepth 1000000
namespace Go.Proofs.YtmpjeahibfdehaaGreatDoor
open Go.RowKit

theorem tk_len (c : UInt8) (l r : List UInt8) (h : tkM c l = .ok () r) : l = c :: r := by
 cases l with
 | nil => simp [tkM] at h
 | cons x l =>
  simp only [tkM] at h
  split at h
  ·rename_i e; simp only [Rs.ok.injEq, true_and] at h; rw [e, h]
  ·cases h
theorem wd_len : ∀ (u l r : List UInt8), wdM u l = .ok () r → l = u ++ r
 | [], l, r, h => by simp [wdM] at h; simp [h]
 | c :: u, [], r, h => by simp [wdM] at h
 | c :: u, x :: l, r, h => by
  simp only [wdM] at h
  split at h
  ·rename_i e; rw [e, wd_len u l r h]; rfl
  ·cases h
theorem un_len (fit : Nat → Nat → Bool) : ∀ (k n : Nat) (l : List UInt8) (m : Nat) (r : List UInt8), unM fit k n l = .ok m r → r.length + k = l.length
 | 0, n, l, m, r, h => by simp only [unM, Rs.ok.injEq] at h; rw [h.2]; rfl
 | k + 1, n, [], m, r, h => by simp [unM] at h
 | k + 1, n, c :: l, m, r, h => by
  rw [unM] at h
  cases hx : hxB c with
  | none => rw [hx] at h; cases h
  | some x =>
   rw [hx] at h
   simp only at h
   split at h
   ·have := un_len fit k _ _ _ _ h; simp only [List.length_cons]; omega
   ·cases h
theorem hc_len (l : List UInt8) (n : Nat) (r : List UInt8) (h : hcM l = .ok n r) : r.length < l.length := by
 unfold hcM at h
 split at h
 ·cases h
 ·rename_i hh r1 h1
  have e1 := un_len fitH 4 0 _ _ _ h1
  split at h
  ·split at h
   ·cases h
   ·rename_i u r2 h2
    have e2 := wd_len _ _ _ h2
    split at h
    ·cases h
    ·rename_i lo r3 h3
     have e3 := un_len fitL 4 0 _ _ _ h3
     simp only [Rs.ok.injEq] at h
     rw [← h.2]
     have := congrArg List.length e2
     simp at this
     omega
  ·simp only [Rs.ok.injEq] at h
   rw [← h.2]; omega
theorem es_len (l : List UInt8) (n : Nat) (r : List UInt8) (h : esM l = .ok n r) : r.length + 2 ≤ l.length := by
 unfold esM at h
 split at h
 ·cases h
 ·cases h
 ·rename_i c r1 h1
  have e1 := tk_len _ _ _ h1
  rw [e1]
  split at h
  ·have := hc_len _ _ _ h; simp; omega
  ·split at h
   ·cases h
   ·simp only [Rs.ok.injEq] at h
    rw [← h.2]; simp
theorem ch_len : ∀ (l p q r : List UInt8), chL p l = .ok q r → ∃ t, l = t ++ r ∧ q = p ++ t ∧ t ≠ []
 | [], p, q, r, h => by simp [chL] at h
 | c :: l, p, q, r, h => by
  simp only [chL] at h
  split at h
  ·split at h
   ·simp only [Rs.ok.injEq] at h
    exact ⟨[c], by simp [h.2], by simp [h.1], by simp⟩
   ·cases h
  ·obtain ⟨t, h1, h2, h3⟩ := ch_len l (p ++ [c]) q r h
   exact ⟨c :: t, by simp [h1], by simp [h2], by simp⟩
theorem Bld.mv {w w' : World} {base b P : Nat} {p : Value} {l : List UInt8} (h : Bld w base b p l) (hg : w.grownBy w' (some P)) (hP : P < base) : Bld w' base b p l := by
 obtain ⟨hb, a, cap, hC, hO, hne, hz⟩ := h
 refine ⟨hb, a, cap, hC.grown hg (fun e => by have := Option.some.inj e; omega), hO.kept hg ?_, hne, hz⟩
 right
 intro e
 have := (hO.lt P e).1
 omega
theorem Bld.below {w w' : World} {base b : Nat} {p : Value} {l : List UInt8} (h : Bld w base b p l) (hg : Below w.heap.size w w') : Bld w' base b p l := by
 obtain ⟨hb, a, cap, hC, hO, hne, hz⟩ := h
 refine ⟨hb, a, cap, ?_, hO.below hg (Nat.le_refl _), hne, hz⟩
 unfold Cel at hC ⊢
 rw [hg.block b (aI hC).1]; exact hC
theorem Mv.bel {a b c : World} {P B : Nat} (h : Mv a b P) (hb : Below B b c) (hB : a.heap.size ≤ B) : Mv a c P :=
 ⟨hb.os.trans h.os, hb.tape.trans h.tape, hb.output.trans h.output, Nat.le_trans h.size hb.size, fun k hk hn => (hb.block k (by omega)).trans (h.block k hk hn)⟩
end Go.Proofs.YtmpjeahibfdehaaGreatDoor
end
section
set_option linter.unusedVariables false
set_option maxRecDepth 1000000
namespace Go.Proofs.YtmpjeahibfdehaaGreatDoor
open Go.RowKit

/-- In the midst of a text. -/
structure UqI (w1 wr : World) (P B : Nat) (T : List UInt8) (a' d : Nat) (p : Value) (acc : List UInt8) : Prop where
 pa : Pa wr P T a' d
 mv : Mv w1 wr P
 bld : Bld wr B B p acc
 hp : p = .pointer none ∨ p = selfP B
 len : acc.length ≤ 4 * a'
 eB : B = w1.heap.size
 lt : P < B
theorem UqI.sz {w1 wr : World} {P B : Nat} {T : List UInt8} {a' d : Nat} {p : Value} {acc : List UInt8} (h : UqI w1 wr P B T a' d p acc) : B ≤ wr.heap.size := by rw [h.eB]; exact h.mv.size
theorem UqI.go {w1 wr w' : World} {P B : Nat} {T : List UInt8} {a' a2 d : Nat} {p : Value} {acc : List UInt8} (h : UqI w1 wr P B T a' d p acc) (hP : Pa w' P T a2 d) (hm : Mv wr w' P) (ha : a' ≤ a2) : UqI w1 w' P B T a2 d p acc :=
 ⟨hP, h.mv.trans hm, h.bld.mv hm h.lt, h.hp, by have := h.len; omega, h.eB, h.lt⟩
theorem UqI.put {w1 wr w' : World} {P B : Nat} {T : List UInt8} {a' d : Nat} {p : Value} {acc acc' : List UInt8} (h : UqI w1 wr P B T a' d p acc) (hb : Below B wr w') (hB : Bld w' B B (selfP B) acc') (hl : acc'.length ≤ 4 * a') : UqI w1 w' P B T a' d (selfP B) acc' :=
 ⟨h.pa.bel hb h.lt, h.mv.bel hb (Nat.le_of_eq h.eB.symm), hB, .inr rfl, hl, h.eB, h.lt⟩
set_option maxHeartbeats 4000000 in
theorem untilQuote_any (P : Nat) (T : List UInt8) (a d : Nat) (w : World) (h : Pa w P T a d) :
  Calls Tryz.prog 104 #[.pointer (some ⟨P, 0, none⟩)] w fun e w' => Po (fun p val _ => val = .string (str p)) T w P d (uqM (T.drop a)) e w' := by
 have hbig := h.big
 have HT := hide (take_any P T a d 34 w h)
 obtain ⟨RES, hRES⟩ : ∃ RES, RES = uqM (T.drop a) := ⟨_, rfl⟩
 rw [← hRES]
 unfold uqM at hRES
 have HRES := hide hRES
 clear h hRES
 go_enter Tryz.func104, Tryz.ntmps104
 go_wp2_with fail
 refine (uh HT).mono ?_
 rintro e w1 (⟨n, val, a1, hM, rfl, hP1, hM1, hval⟩ | ⟨y, a1, hM, rfl, h2, h3⟩)
 ·obtain rfl : val = .tuple #[] := hval
  rw [hM] at HRES
  simp only at HRES
  obtain ⟨W, hW⟩ : ∃ W, W = w1.alloc (.cells #[.pointer none, .slice none 0 0] 168) := ⟨_, rfl⟩
  obtain ⟨B, hB⟩ : ∃ B, B = w1.heap.size := ⟨_, rfl⟩
  have hbW : Below w1.heap.size w1 W := by rw [hW]; exact bA _
  have hbl : Bld W B B (.pointer none) [] := by
   refine ⟨Nat.le_refl _, none, 0, ?_, OwnB.nil _ _, by simp [blk], fun _ => ⟨rfl, rfl⟩⟩
   unfold Cel
   rw [hW, hB]
   exact heap_alloc_new _ _
  have HI0 : Hid (UqI w1 W P B T a1 d (.pointer none) []) := ⟨hP1.below hbW, Mv.ofB hbW, hbl, .inl rfl, by simp, hB, by rw [hB]; exact hP1.lt⟩
  have HMw := hide hM1
  clear HT hP1 hM1 hM hbW hbl
  go_wp2_with fail
  rw [← hW, ← hB]
  clear hW hB
  obtain ⟨F0, hF0⟩ : ∃ F0, F0 = (T.drop a1).length + 1 := ⟨_, rfl⟩
  rw [← hF0] at HRES
  have HF0 : Hid ((T.drop a1).length < F0) := by show _ < _; omega
  clear hF0
  go_loopw [4] (fun _ wr => ∃ (F a' : Nat) (p : Value) (acc : List UInt8), Hid (UqI w1 wr P B T a' d p acc) ∧ Hid ((T.drop a').length < F) ∧ Hid (RES = uqL F acc (T.drop a'))) (fun _ wr => 70000 - (match wr.cell? ⟨P, 1, none⟩ with | some (.int .i64 x) => x.toNat | _ => 0))
  case atStart => exact ⟨F0, a1, _, [], HI0, HF0, HRES⟩
  case round =>
   clear HI0 HF0 HRES
   obtain ⟨F, a', p, acc, HI, HF, HS⟩ := hrel
   have hPr := (uh HI).pa
   have hle := hPr.le
   have hcl := hPr.cells.2.1
   have hN := next_any P T a' d wr hPr
   obtain ⟨f, rfl⟩ : ∃ f, F = f + 1 := ⟨F - 1, by have : (T.drop a').length < F := HF; omega⟩
   cases hl : T.drop a' with
   | nil =>
    rw [hl, show nxI [] = -1 from rfl] at hN
    have HN := hide hN
    have HE : Hid (RES = .no (T.drop a') 40) := by show _ = _; rw [uh HS, hl]; rfl
    clear hN hPr
    go_wp2_with fail
    refine (uh HN).mono ?_
    rintro e w2 ⟨rfl, HP2, HB2⟩
    have hN2 := next_any P T a' d w2 (uh HP2)
    rw [hl, show nxI [] = -1 from rfl] at hN2
    have HN2 := hide hN2
    clear HN hN2
    go_wp2_with fail
    refine (uh HN2).mono ?_
    rintro e w3 ⟨rfl, HP3, HB3⟩
    have HG := hide (giveUp_any P T a' d 40 w3 (uh HP3))
    have HM3 : Hid (Mv w w3 P) := (uh HMw).trans ((uh HI).mv.trans ((Mv.ofB (uh HB2)).trans (Mv.ofB (uh HB3))))
    clear HN2
    go_wp2_with fail
    refine (uh HG).mono ?_
    rintro e w5 ⟨rfl, hw5⟩
    subst hw5
    exact ⟨rfl, Po.nay (uh HE) hle (uh HM3)⟩
   | cons c r =>
    obtain ⟨hlt, hget, hdr⟩ := drop_cons hl
    rw [hl, show nxI (c :: r) = (c.toNat : Int) from rfl] at hN
    have HN := hide hN
    have hc256 := c.toNat_lt
    have hst : uqL (f + 1) acc (c :: r) = if c = 34 then .ok acc (c :: r)
      else if c = 92 then (match esM (c :: r) with | .no r2 y => .no r2 y | .ok n r2 => uqL f (acc ++ enB n) r2)
      else if c.toNat < 32 then .no (c :: r) 40
      else match chM (c :: r) with | .no r2 y => .no r2 y | .ok p r2 => uqL f (acc ++ p) r2 := rfl
    rw [hl, hst] at HS
    rw [hl] at HF
    clear hN hPr hst
    by_cases h34 : c = 34
    ·subst h34
     rw [if_pos rfl] at HS
     rw [show ((34 : UInt8).toNat : Int) = 34 from rfl] at HN
     have HE : Hid (RES = .ok acc (T.drop a')) := by show _ = _; rw [uh HS, hl]
     go_wp2_with fail
     refine (uh HN).mono ?_
     rintro e w2 ⟨rfl, HP2, HB2⟩
     have HI2 := hide ((uh HI).go (uh HP2) (Mv.ofB (uh HB2)) (Nat.le_refl _))
     have HStr := hide (bstr_any B B p acc w2 (uh HI2).bld (by have := (uh HI2).len; omega))
     clear HN
     go_wp2_with fail
     refine (uh HStr).mono ?_
     rintro e w3 ⟨rfl, HB3⟩
     have HP3 := hide ((uh HI2).pa.bel (uh HB3) (uh HI2).lt)
     have HM3 : Hid (Mv w w3 P) := (uh HMw).trans ((uh HI2).mv.bel (uh HB3) (Nat.le_of_eq (uh HI2).eB.symm))
     clear HStr
     go_wp2_with fail
     go_ret
     exact Po.yes (uh HE) (uh HP3) (uh HM3) rfl
    ·rw [if_neg h34] at HS
     have hne34 : ¬ (c.toNat : Int) = 34 := fun e => h34 (UInt8.toNat_inj.1 (by show c.toNat = 34; omega))
     by_cases h92 : c = 92
     ·subst h92
      rw [if_pos rfl] at HS
      rw [show ((92 : UInt8).toNat : Int) = 92 from rfl] at HN
      clear hne34 h34
      go_wp2_with fail
      refine (uh HN).mono ?_
      rintro e w2 ⟨rfl, HP2, HB2⟩
      have hN2 := next_any P T a' d w2 (uh HP2)
      rw [hl, show nxI (92 :: r) = 92 from rfl] at hN2
      have HN2 := hide hN2
      clear HN hN2
      go_wp2_with fail
      refine (uh HN2).mono ?_
      rintro e w3 ⟨rfl, HP3, HB3⟩
      have HI3 := hide ((uh HI).go (uh HP3) ((Mv.ofB (uh HB2)).trans (Mv.ofB (uh HB3))) (Nat.le_refl _))
      have hE := escape_any P T a' d w3 (uh HP3)
      rw [hl] at hE
      have HEs := hide hE
      clear HN2 hE HI
      go_wp2_with fail
      refine (uh HEs).mono ?_
      rintro e w4 (⟨n, val, a4, hM4, rfl, hP4, hMv4, rfl, hru⟩ | ⟨y, a4, hM4, rfl, h2, h3⟩)
      ·have hlen := es_len _ _ _ hM4
       rw [List.length_drop, List.length_cons] at hlen
       have hrl : r.length + 1 = T.length - a' := by have := congrArg List.length hl; simp at this; omega
       have ha4 : a' + 2 ≤ a4 := by have := hP4.le; omega
       have HI4 := hide ((uh HI3).go hP4 hMv4 (by omega))
       rw [hM4] at HS
       simp only at HS
       have HW := hide (bwr_any B B p acc w4 (uh HI4).bld (uh HI4).hp n hru (by have := (uh HI3).len; omega) (uh HI4).sz)
       have HF2 : Hid ((T.drop a4).length < f) := by show _ < _; have : (92 :: r).length < f + 1 := HF; simp at this ⊢; omega
       have hl3 := (uh HI3).len
       clear HEs hM4 hP4 hMv4 hru HI3
       go_wp2_with fail
       refine (uh HW).mono ?_
       rintro e w5 ⟨k, rfl, HBl, HB5⟩
       have HI5 := hide ((uh HI4).put (uh HB5) (uh HBl) (by have := (en_ne n).2; simp; omega))
       clear HW
       go_wp2_with fail
       go_roundw
       case rel => exact ⟨f, a4, _, acc ++ enB n, HI5, HF2, HS⟩
       case measure =>
        have e1 := (uh HI5).pa.cells.2.1
        rw [hcl, e1]
        simp only
        omega
      ·rw [hM4] at HS
       exact ⟨rfl, Po.nay (uh HS) h2 ((uh HMw).trans ((uh HI3).mv.trans h3))⟩
     ·rw [if_neg h92] at HS
      have hne92 : ¬ (c.toNat : Int) = 92 := fun e => h92 (UInt8.toNat_inj.1 (by show c.toNat = 92; omega))
      have HX : Hid (nxI (c :: r) = (c.toNat : Int)) := rfl
      clear h34 h92
      go_wp2_with fail
      refine (uh HN).mono ?_
      rintro e w2 ⟨rfl, HP2, HB2⟩
      have hN2 := next_any P T a' d w2 (uh HP2)
      rw [hl, uh HX] at hN2
      have HN2 := hide hN2
      clear HN hN2
      go_wp2_with fail
      refine (uh HN2).mono ?_
      rintro e w3 ⟨rfl, HP3, HB3⟩
      have HI3 := hide ((uh HI).go (uh HP3) ((Mv.ofB (uh HB2)).trans (Mv.ofB (uh HB3))) (Nat.le_refl _))
      clear HN2 HI
      by_cases h32 : c.toNat < 32
      ·rw [if_pos h32] at HS
       have h32' : (c.toNat : Int) < 32 := by omega
       have HE : Hid (RES = .no (T.drop a') 40) := by show _ = _; rw [uh HS, hl]
       have HG := hide (giveUp_any P T a' d 40 w3 (uh HP3))
       have HM3 : Hid (Mv w w3 P) := (uh HMw).trans (uh HI3).mv
       go_wp2_with fail
       refine (uh HG).mono ?_
       rintro e w5 ⟨rfl, hw5⟩
       subst hw5
       exact ⟨rfl, Po.nay (uh HE) hle (uh HM3)⟩
      ·rw [if_neg h32] at HS
       have h32' : ¬ (c.toNat : Int) < 32 := by omega
       have hE := character_any P T a' d w3 (uh HP3)
       rw [hl] at hE
       have HEs := hide hE
       clear hE h32
       go_wp2_with fail
       refine (uh HEs).mono ?_
       rintro e w4 (⟨q, val, a4, hM4, rfl, hP4, hMv4, rfl⟩ | ⟨y, a4, hM4, rfl, h2, h3⟩)
       ·obtain ⟨t, ht1, ht2, ht3⟩ := ch_len _ _ _ _ hM4
        rw [List.nil_append] at ht2
        subst ht2
        have hrl : r.length + 1 = T.length - a' := by have := congrArg List.length hl; simp at this; omega
        have hql : q.length + (T.length - a4) = r.length + 1 := by have := congrArg List.length ht1; simp at this; omega
        have hq1 : 1 ≤ q.length := List.length_pos_iff.2 ht3
        have ha4 : a' + q.length = a4 := by have := hP4.le; omega
        have HI4 := hide ((uh HI3).go hP4 hMv4 (by omega))
        rw [hM4] at HS
        simp only at HS
        have hl3 := (uh HI3).len
        have hsq : (str q).size = q.length := rfl
        have HW := hide (bws_any B B p acc w4 (uh HI4).bld (uh HI4).hp (str q) (by show q ≠ []; exact ht3) (by rw [hsq]; omega) (uh HI4).sz)
        rw [show (str q).data.toList = q from rfl] at HW
        have HF2 : Hid ((T.drop a4).length < f) := by show _ < _; have : (c :: r).length < f + 1 := HF; simp at this ⊢; omega
        clear HEs hM4 hP4 hMv4 HI3 ht1 ht3
        go_wp2_with fail
        refine (uh HW).mono ?_
        rintro e w5 ⟨rfl, HBl, HB5⟩
        have HI5 := hide ((uh HI4).put (uh HB5) (uh HBl) (by simp; omega))
        clear HW
        go_wp2_with fail
        go_roundw
        case rel => exact ⟨f, a4, _, acc ++ q, HI5, HF2, HS⟩
        case measure =>
         have e1 := (uh HI5).pa.cells.2.1
         rw [hcl, e1]
         simp only
         omega
       ·rw [hM4] at HS
        exact ⟨rfl, Po.nay (uh HS) h2 ((uh HMw).trans ((uh HI3).mv.trans h3))⟩
 ·exact ⟨rfl, Po.nay (by rw [uh HRES, hM]) h2 h3⟩
end Go.Proofs.YtmpjeahibfdehaaGreatDoor
end
