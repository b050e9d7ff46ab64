/-
  jsonx: object$1: a member more.; jsonx: object.; jsonx: value.; jsonx's parser as mathematics: what is left is an end of the text; a text with blanks behind it.; jsonx's parser as mathematics: values with blanks behind them; what a text with blanks around it tells.; jsonx: small things about rows of our own and values in memory.
-/
import Derived.Test.YtmpjeahibfdehaaGreatDoorPkMtesah
import Derived.Test.YtmpjeahibfdehaaGreatDoorPkMtesap
import Derived.Test.YtmpjeahibfdehaaGreatDoorPkMtesag
section
set_option linter.unusedVariables false
set_option maxRecDepth 1000000
namespace Go.Proofs.YtmpjeahibfdehaaGreatDoor
open Go.RowKit Go.Maps

theorem uql_len : ∀ (f : Nat) (acc l t r : List UInt8), uqL f acc l = .ok t r → t.length + 4 * r.length ≤ acc.length + 4 * l.length ∧ r.length ≤ l.length
 | 0, acc, l, t, r, h => by simp [uqL] at h
 | f + 1, acc, [], t, r, h => by simp [uqL] at h
 | f + 1, acc, c :: l, t, r, h => by
  have hst : uqL (f + 1) acc (c :: l) = if c = 34 then .ok acc (c :: l)
    else if c = 92 then (match esM (c :: l) with | .no r2 y => .no r2 y | .ok n r2 => uqL f (acc ++ enB n) r2)
    else if c.toNat < 32 then .no (c :: l) 40
    else match chM (c :: l) with | .no r2 y => .no r2 y | .ok p r2 => uqL f (acc ++ p) r2 := rfl
  rw [hst] at h
  split at h
  ·simp only [Rs.ok.injEq] at h; rw [← h.1, ← h.2]; exact ⟨Nat.le_refl _, Nat.le_refl _⟩
  ·split at h
   ·cases he : esM (c :: l) with
    | no r2 y => rw [he] at h; cases h
    | ok n r2 =>
     rw [he] at h
     have i1 := uql_len f _ _ _ _ h
     have i2 := es_len _ _ _ he
     have i3 := (en_ne n).2
     rw [List.length_append] at i1
     omega
   ·split at h
    ·cases h
    ·cases he : chM (c :: l) with
     | no r2 y => rw [he] at h; cases h
     | ok p r2 =>
      rw [he] at h
      have i1 := uql_len f _ _ _ _ h
      obtain ⟨q, e1, e2, _⟩ := ch_len _ _ _ _ he
      rw [List.nil_append] at e2
      subst e2
      have i2 := congrArg List.length e1
      rw [List.length_append] at i1 i2
      omega
theorem uq_len (l t r : List UInt8) (h : uqM l = .ok t r) : t.length ≤ 4 * l.length ∧ r.length ≤ l.length := by
 unfold uqM at h
 cases he : tkM 34 l with
 | no r2 y => rw [he] at h; cases h
 | ok u r2 =>
  rw [he] at h
  have e1 := tk_len _ _ _ he
  have := uql_len _ _ _ _ _ h
  rw [e1]
  simp only [List.length_cons, List.length_nil] at this ⊢
  omega
/-- An object in the midst of being read: the box of the parser, the value, the set of names and its box. -/
structure ObS (w : World) (P S : Nat) (ns : List (List UInt8)) (is : List Js) (cn : Nat) : Prop where
 q : w.heap[S]? = some (.cells #[.pointer (some ⟨P, 0, none⟩)] 131 (0, 0))
 n : w.heap[S + 4]? = some (.cells #[.map (some (S + 3))] 162 (0, 0))
 r : w.heap[S + 1]? = some (.cells #[.int .i64 0, .int .i64 0, .string ⟨#[]⟩, .slice none 0 0, .slice none 0 0] 44 (0, 0))
 sn : SN w (S + 3) ns cn
 bv : ∃ a1 c1 a2 c2 xs, Bv w (S + 2) (S + 5) 5 ns is a1 c1 a2 c2 xs
 sz : S + 5 ≤ w.heap.size
 lt : P < S
theorem ObS.keep {w w' : World} {P S : Nat} {ns : List (List UInt8)} {is : List Js} {cn : Nat} (h : ObS w P S ns is cn) (e : ∀ k, S ≤ k → k < w.heap.size → w'.heap[k]? = w.heap[k]?) (hs : w.heap.size ≤ w'.heap.size) : ObS w' P S ns is cn := by
 have z := h.sz
 obtain ⟨a1, c1, a2, c2, xs, hb⟩ := h.bv
 exact ⟨(e S (Nat.le_refl _) (by omega)).trans h.q, (e (S + 4) (by omega) (by omega)).trans h.n, (e (S + 1) (by omega) (by omega)).trans h.r, h.sn.same (e (S + 3) (by omega) (by omega)), ⟨a1, c1, a2, c2, xs, hb.keep (fun k hk hl => e k (by rcases hk with hk | hk <;> omega) hl) hs⟩, by omega, h.lt⟩
theorem ObS.mv {w w' : World} {P S : Nat} {ns : List (List UInt8)} {is : List Js} {cn : Nat} (h : ObS w P S ns is cn) (m : Mv w w' P) : ObS w' P S ns is cn :=
 h.keep (fun k hk hl => m.block k hl (fun e => by have := Option.some.inj e; have := h.lt; omega)) m.size
theorem ObS.c {w : World} {P S : Nat} {ns : List (List UInt8)} {is : List Js} {cn : Nat} (h : ObS w P S ns is cn) : w.cell? ⟨S, 0, none⟩ = some (.pointer (some ⟨P, 0, none⟩)) ∧ w.cell? ⟨S + 4, 0, none⟩ = some (.map (some (S + 3))) := ⟨cR6 h.q, cR6 h.n⟩
def mbO (V : List UInt8 → Rs Js) (s : List (List UInt8) × List Js) (l : List UInt8) : Rs (List (List UInt8) × List Js) := match mbM V s.1 l with | .no r y => .no r y | .ok nv r => .ok (s.1 ++ [nv.1], s.2 ++ [nv.2]) r
/-- What comes of a member more. -/
def ObP (w : World) (P S dd : Nat) (T : List UInt8) (cn : Nat) (M : Rs (List (List UInt8) × List Js)) (e : Ending) (w' : World) : Prop :=
 (∃ s a', M = .ok s (T.drop a') ∧ e = .returned (.tuple #[]) ∧ Pa w' P T a' dd ∧ Lm w w' P (S + 2) S ∧ ObS w' P S s.1 s.2 (cn + 1)) ∨ (∃ y a', M = .no (T.drop a') y ∧ e = flt a' y ∧ a' ≤ T.length ∧ Lm w w' P (S + 2) S)
theorem ObP.nay {w : World} {P S dd : Nat} {T : List UInt8} {cn : Nat} {M : Rs (List (List UInt8) × List Js)} {w' : World} {y a' : Nat} (h1 : M = .no (T.drop a') y) (h2 : a' ≤ T.length) (h3 : Lm w w' P (S + 2) S) : ObP w P S dd T cn M (flt a' y) w' := .inr ⟨y, a', h1, rfl, h2, h3⟩
theorem Lm.mono {w w' : World} {P V lo lo' : Nat} (h : Lm w w' P V lo) (hl : lo' ≤ lo) : Lm w w' P V lo' := ⟨h.os, h.tape, h.output, h.size, fun k h1 h2 h3 => h.block k (by omega) h2 h3⟩
theorem Mv.lm {w w' : World} {P V lo : Nat} (m : Mv w w' P) (h : lo ≤ w.heap.size) : Lm w w' P V lo := Lm.ofMv m h
set_option maxHeartbeats 32000000 in
theorem object1_any (P : Nat) (T : List UInt8) (dd : Nat) (Vf : List UInt8 → Rs Js) (hV : VaC P T dd Vf) (S : Nat) (a : Nat) (ns : List (List UInt8)) (is : List Js) (cn : Nat) (w : World) (hP : Pa w P T a dd) (hO : ObS w P S ns is cn) (hcn : cn ≤ 100000) (hns : ns.length ≤ 100000) (hil : is.length ≤ 100000) :
  Calls Tryz.prog 138 #[.pointer (some ⟨S, 0, none⟩), .pointer (some ⟨S + 4, 0, none⟩), .pointer (some ⟨S + 2, 0, none⟩)] w fun e w' => ObP w P S dd T cn (mbO Vf (ns, is) (T.drop a)) e w' := by
 have hbig := hP.big
 have HV := hide hV
 obtain ⟨RES, hRES⟩ : ∃ RES, RES = mbO Vf (ns, is) (T.drop a) := ⟨_, rfl⟩
 rw [← hRES]
 have HRES : Hid (RES = match mbM Vf ns (T.drop a) with | .no r y => .no r y | .ok nv r => .ok (ns ++ [nv.1], is ++ [nv.2]) r) := hRES
 unfold mbM at HRES
 have HU := hide (untilQuote_any P T a dd w hP)
 have HO := hide hO
 obtain ⟨cS, cN⟩ := hO.c
 clear hRES hV
 clear hP hO
 go_enter Tryz.func138, Tryz.ntmps138
 go_wp2_with fail
 refine (uh HU).mono ?_
 rintro e w1 (⟨nm, val, a1', hM1, rfl, hP1, hMv1, rfl⟩ | ⟨y, a1', hM1, rfl, h2, h3⟩)
 rotate_left 1
 ·rw [hM1] at HRES
  exact ⟨rfl, ObP.nay (uh HRES) h2 (h3.lm (by have := (uh HO).sz; omega))⟩
 have hnl := uq_len _ _ _ hM1
 have hnm : nm.length ≤ maxLen := by have := hnl.1; simp at this; unfold maxLen; omega
 rw [hM1] at HRES
 simp only at HRES
 have HO1 := hide ((uh HO).mv hMv1)
 have HM1 := hide hMv1
 have HP1 := hide hP1
 obtain ⟨dS, dN⟩ := (uh HO1).c
 have hlk := (uh HO1).sn.at nm hnm
 rw [any_mem] at hlk
 have hle1 := hP1.le
 clear HU hMv1 hP1 hM1 cS cN hnl
 obtain ⟨W2, hW2⟩ : ∃ W2, W2 = w1.alloc (.cells #[] 164) := ⟨_, rfl⟩
 have hb2 : Below w1.heap.size w1 W2 := by rw [hW2]; exact bA _
 have HP2 := hide ((uh HP1).below hb2)
 have HO2 := hide ((uh HO1).mv (Mv.ofB hb2))
 have HM2 : Hid (Mv w W2 P) := (uh HM1).trans (Mv.ofB hb2)
 obtain ⟨eS, eN⟩ := (uh HO2).c
 have HSZ : Hid (S ≤ w.heap.size) := by show _ ≤ _; have := (uh HO).sz; omega
 have HTK := hide (take_any P T a1' dd 34 W2 (uh HP2))
 have HG := hide (giveUp_any P T a1' dd 43 W2 (uh HP2))
 rw [show ((34 : UInt8).toNat : Int) = 34 from rfl] at HTK
 clear hb2
 by_cases hin : nm ∈ ns
 ·rw [if_pos hin] at HRES
  rw [decide_eq_true hin] at hlk
  go_upto_region 2 with fail
  rw [← hW2]
  clear hW2
  go_wp2_with fail
  refine (uh HG).mono ?_
  rintro e w5 ⟨rfl, hw5⟩
  subst hw5
  exact ⟨rfl, ObP.nay (uh HRES) hle1 ((uh HM2).lm (uh HSZ))⟩
 rw [if_neg hin] at HRES
 rw [decide_eq_false hin] at hlk
 clear HG
 go_upto_region 2 with fail
 rw [← hW2]
 clear hW2 hlk dS dN
 go_wp2_with fail
 refine (uh HTK).mono ?_
 rintro e w3 (⟨u3, val, a3, hM3, rfl, hP3, hMv3, hval⟩ | ⟨y, a3, hM3, rfl, h2, h3⟩)
 rotate_left 1
 ·rw [hM3] at HRES
  exact ⟨rfl, ObP.nay (uh HRES) h2 (((uh HM2).trans h3).lm (uh HSZ))⟩
 obtain rfl : val = .tuple #[] := hval
 rw [hM3] at HRES
 simp only at HRES
 have HO3 := hide ((uh HO2).mv hMv3)
 have HM3 : Hid (Mv w w3 P) := (uh HM2).trans hMv3
 obtain ⟨gS, gN⟩ := (uh HO3).c
 obtain ⟨w4, hput, hsn4, hgr4⟩ := (uh HO3).sn.put nm hnm (by unfold maxLen; omega)
 have z3 := (uh HO3).sz
 have hPS := (uh HO3).lt
 have hgp := hP3.gp
 have HP4 : Hid (Pa w4 P T a3 dd) := hP3.grown hgr4 (fun e => by have := Option.some.inj e; omega) (fun e => by have := Option.some.inj e; omega) (fun e => by have := Option.some.inj e; omega)
 have HL4 : Hid (Lm w w4 P (S + 2) S) := ((uh HM3).lm (uh HSZ)).trans (Lm.ofG hgr4 (by omega) (fun k hk => by have := Option.some.inj hk; omega))
 have HO4 : Hid (ObS w4 P S (ns ++ [nm]) is (cn + 1) ∨ True) := .inr trivial
 obtain ⟨a1, c1, a2, c2, xs, hBv3⟩ := (uh HO3).bv
 have HB4 := hide (hBv3.keep (w' := w4) (fun k hk hl => hgr4.block k hl (fun e => by have := Option.some.inj e; rcases hk with hk | hk <;> omega)) hgr4.size)
 have HQ4 := hide ((hgr4.block S (by omega) (fun e => by have := Option.some.inj e; omega)).trans (uh HO3).q)
 have HN4 := hide ((hgr4.block (S + 4) (by omega) (fun e => by have := Option.some.inj e; omega)).trans (uh HO3).n)
 have HR4 := hide ((hgr4.block (S + 1) (by omega) (fun e => by have := Option.some.inj e; omega)).trans (uh HO3).r)
 have HSN4 := hide hsn4
 have HZ4 : Hid (S + 5 ≤ w4.heap.size) := Nat.le_trans z3 hgr4.size
 have q4 : w4.cell? ⟨S, 0, none⟩ = some (.pointer (some ⟨P, 0, none⟩)) := cR6 (uh HQ4)
 have HBL := hide (blanks_any P T a3 dd w4 (uh HP4))
 clear HO4 HO3 hsn4 hgr4 hBv3 HTK hP3 hMv3 hM3 eS eN z3
 go_wp2_with fail
 clear hput gS gN
 refine (uh HBL).mono ?_
 rintro e w5 ⟨a5, rfl, HP5, HM5, HS5⟩
 have key5 : ∀ (x : World), Mv w4 x P → (∀ k, S ≤ k → k < w4.heap.size → x.heap[k]? = w4.heap[k]?) := fun x m k hk hl => m.block k hl (fun e => by have := Option.some.inj e; omega)
 have q5 : w5.cell? ⟨S, 0, none⟩ = some (.pointer (some ⟨P, 0, none⟩)) := cR6 ((key5 w5 (uh HM5) S (Nat.le_refl _) (by have := uh HZ4; omega)).trans (uh HQ4))
 rw [uh HS5] at HRES
 have HT5 := hide (take_any P T a5 dd 58 w5 (uh HP5))
 rw [show ((58 : UInt8).toNat : Int) = 58 from rfl] at HT5
 have HKEY := hide key5
 have hle5 := (uh HP5).le
 clear HBL HS5 q4 key5
 go_wp2_with fail
 refine (uh HT5).mono ?_
 rintro e w6 (⟨u6, val, a6, hM6, rfl, hP6, hMv6, hval⟩ | ⟨y, a6, hM6, rfl, h2, h3⟩)
 rotate_left 1
 ·rw [hM6] at HRES
  exact ⟨rfl, ObP.nay (uh HRES) h2 ((uh HL4).trans (((uh HM5).trans h3).lm (by have := uh HZ4; omega)))⟩
 obtain rfl : val = .tuple #[] := hval
 rw [hM6] at HRES
 simp only at HRES
 have HM6 : Hid (Mv w4 w6 P) := (uh HM5).trans hMv6
 have q6 : w6.cell? ⟨S, 0, none⟩ = some (.pointer (some ⟨P, 0, none⟩)) := cR6 ((uh HKEY w6 (uh HM6) S (Nat.le_refl _) (by have := uh HZ4; omega)).trans (uh HQ4))
 have HB6 := hide (blanks_any P T a6 dd w6 hP6)
 clear HT5 hP6 hMv6 hM6 q5
 go_wp2_with fail
 refine (uh HB6).mono ?_
 rintro e w7 ⟨a7, rfl, HP7, HM7, HS7⟩
 rw [uh HS7] at HRES
 have HM7' : Hid (Mv w4 w7 P) := (uh HM6).trans (uh HM7)
 have K7 := uh HKEY w7 (uh HM7')
 have z7 : S + 5 ≤ w7.heap.size := Nat.le_trans (uh HZ4) (uh HM7').size
 have zz4 := uh HZ4
 have b7 : Bv w7 (S + 2) (S + 5) 5 ns is a1 c1 a2 c2 xs := (uh HB4).keep (fun k hk hl => K7 k (by rcases hk with hk | hk <;> omega) hl) (uh HM7').size
 obtain ⟨v3, v4, vf⟩ := b7.cells
 obtain ⟨W8, hW8⟩ : ∃ W8, W8 = w7.alloc (.cells #[.string (str nm)] 9) := ⟨_, rfl⟩
 have hb8 : Below w7.heap.size w7 W8 := by rw [hW8]; exact bA _
 obtain ⟨Z8, hZ8⟩ : ∃ Z8, Z8 = w7.heap.size := ⟨_, rfl⟩
 have hr8 : W8.heap[Z8]? = some (.cells #[.string (str nm)] 9 (0, 0)) := by rw [hW8, hZ8]; exact heap_alloc_new _ _
 have b8 := b7.below hb8
 have z8 : S + 5 ≤ W8.heap.size := Nat.le_trans z7 hb8.size
 have HR8 := hide hr8
 have HB8 := hide b8
 have HbB8 := hide hb8
 have HZZ8 := hide z8
 clear b7 K7 hr8 b8 hb8 z7 z8 zz4
 go_wp2_with (at_builtin; rw [← hW8, ← hZ8]; clear hW8 hZ8; refine wp_appT W8 rfl _ _ rfl (S + 5) a1 c1 ns rfl (uh HB8).nm Z8 _ nm rfl (uh HR8) (by omega) (uh HZZ8) ?_)
 intro gn cpn w9 HO9 HG9 HAT9 HGL9
 have hV9 : w9.heap[S + 2]? = some (.cells #[.int .i64 5, .int .i64 0, .string ⟨#[]⟩, .slice a1 ns.length c1, .slice a2 is.length c2] 44 (0, 0)) := ((uh HG9).block (S + 2) (uh HB8).lt (fun e => (uh HB8).v1 e.symm)).trans (uh HB8).row
 have cv9 : w9.cell? ⟨S + 2, 3, none⟩ = some (.slice a1 ns.length c1) := cR6 hV9
 have cf9 : w9.frozen? ⟨S + 2, 3, none⟩ = false := frozen_of_row _ _ _ _ _ hV9
 obtain ⟨w10, h10⟩ : ∃ w10, w10 = w9.setCell ⟨S + 2, 3, none⟩ (.slice (some ⟨gn, 0, none⟩) (ns.length + 1) cpn) := ⟨_, rfl⟩
 have k10 : ∀ k, k ≠ S + 2 → w10.heap[k]? = w9.heap[k]? := fun k hk => by rw [h10]; exact Below.heap_setCell _ ⟨S + 2, 3, none⟩ _ k hk
 have r10 : w10.heap[S + 2]? = some (.cells #[.int .i64 5, .int .i64 0, .string ⟨#[]⟩, .slice (some ⟨gn, 0, none⟩) (ns.length + 1) cpn, .slice a2 is.length c2] 44 (0, 0)) := by rw [h10]; exact hS6 hV9
 have hBv10 : Bv w10 (S + 2) (S + 5) 5 (ns ++ [nm]) is (some ⟨gn, 0, none⟩) cpn a2 c2 xs := (uh HB8).name nm (uh HG9) (uh HAT9) (uh HGL9) r10 (uh HO9) k10 (by rw [h10, siz1])
 have hlo9 : ∀ k, blk a1 = some k → S + 5 ≤ k := fun k hk => (owns_lt (uh HB8).nm k hk).1
 have zz4 := uh HZ4
 have key10 : ∀ k, k < S + 5 → k ≠ S + 2 → k < w7.heap.size → w10.heap[k]? = w7.heap[k]? := fun k h1 h2 h3 => (k10 k h2).trans (((uh HG9).block k (Nat.lt_of_lt_of_le h3 (uh HbB8).size) (fun e => by have := hlo9 k e.symm; omega)).trans ((uh HbB8).block k h3))
 have HL10 : Hid (Lm w w10 P (S + 2) S) := by
  refine ((uh HL4).trans ((uh HM7').lm (by omega))).trans ?_
  refine (((Mv.ofB (uh HbB8)).lm (P := P) (by have := (uh HM7').size; omega)).trans (Lm.ofG (uh HG9) (by have := uh HZZ8; omega) (fun k hk => by have := hlo9 k hk; omega))).trans ?_
  rw [h10]; exact Lm.set (.inl rfl)
 have hgp7 := (uh HP7).gp
 have hP10 : Pa w10 P T a7 dd := { (uh HP7) with row := (key10 P (by omega) (by omega) (uh HP7).lt).trans (uh HP7).row, tb := (uh HP7).tb.keep (fun k hk => key10 k (by rcases hk with rfl | rfl <;> omega) (by rcases hk with rfl | rfl <;> omega) (by rcases hk with rfl | rfl; exact (uh HP7).tb.lt.1; exact (uh HP7).tb.lt.2)) }
 have z7 : w4.heap.size ≤ w7.heap.size := (uh HM7').size
 have hQ10 := (key10 S (by omega) (by omega) (by omega)).trans ((uh HKEY w7 (uh HM7') S (Nat.le_refl _) (by omega)).trans (uh HQ4))
 have hN10 := (key10 (S + 4) (by omega) (by omega) (by omega)).trans ((uh HKEY w7 (uh HM7') (S + 4) (by omega) (by omega)).trans (uh HN4))
 have hR10 := (key10 (S + 1) (by omega) (by omega) (by omega)).trans ((uh HKEY w7 (uh HM7') (S + 1) (by omega) (by omega)).trans (uh HR4))
 have HR10 := hide hR10
 clear hR10
 have hSN10 : SN w10 (S + 3) (ns ++ [nm]) (cn + 1) := ((uh HSN4).same (uh HKEY w7 (uh HM7') (S + 3) (by omega) (by omega))).same (key10 (S + 3) (by omega) (by omega) (by omega))
 have hsz10 : S + 5 ≤ w10.heap.size := by rw [h10, siz1]; exact Nat.le_trans (uh HZZ8) (uh HG9).size
 have HN10 := hide hN10
 have HSN10 := hide hSN10
 have HP10 := hide hP10
 have HBv10 := hide hBv10
 have HQ10 := hide hQ10
 have HSZ10 := hide hsz10
 clear hV9 k10 r10 hBv10 hlo9 key10 hP10 hQ10 hN10 hSN10 hsz10 HB6 HS7 q6 HB4 HB8 HR8 HO9 HG9 HAT9 HGL9 HP7 HP5 HP4 zz4 z7
 go_upto_region 10 with fail
 rw [← h10]
 clear h10 cv9 cf9 v3 v4 vf
 obtain ⟨lo, hlo⟩ : ∃ lo, lo = S + 5 := ⟨_, rfl⟩
 obtain ⟨V, hVe⟩ : ∃ V, V = S + 2 := ⟨_, rfl⟩
 obtain ⟨D, hD⟩ : ∃ D, D = w10.drew := ⟨_, rfl⟩
 have hbD : Below w10.heap.size w10 D := by rw [hD]; exact Below.drew (Below.refl _ _)
 have hPlo : P < lo := by omega
 have hPV : P ≠ V := by omega
 have hQP : S ≠ P := by omega
 have hQV : S ≠ V := by omega
 have hQlo : S < lo := by omega
 have hg4 : 2 < lo ∧ 3 < lo := by omega
 have hgV4 : 2 ≠ V ∧ 3 ≠ V := by omega
 have his : is.length ≤ 1000000 := by omega
 rw [← hlo, ← hVe] at HBv10
 rw [← hlo] at HSZ10
 rw [← hVe]
 have HPD := hide ((uh HP10).below hbD)
 have HBD := hide ((uh HBv10).below hbD)
 have HQD := hide ((hbD.block S (aI (uh HQ10)).1).trans (uh HQ10))
 have SZD : Hid (lo ≤ D.heap.size) := Nat.le_trans (uh HSZ10) hbD.size
 have LMD : Hid (Lm w10 D P V lo) := Lm.ofMv (Mv.ofB hbD) (uh HSZ10)
 have HNAY : Hid (∀ (y a' : Nat) (wx : World), Vf (T.drop a7) = .no (T.drop a') y → a' ≤ T.length → Lm w10 wx P V lo → ObP w P S dd T cn RES (flt a' y) wx) := by
  intro y a' wx h1 h2 h3
  refine ObP.nay (by rw [uh HRES, h1]) h2 ((uh HL10).trans ?_)
  rw [hVe] at h3
  exact h3.mono (by omega)
 have HYES : Hid (∀ (j : Js) (a' : Nat) (wx : World) (b1 : Option Addr) (d1 : Nat) (b2 : Option Addr) (d2 : Nat) (ys : List Value), Vf (T.drop a7) = .ok j (T.drop a') → Pa wx P T a' dd → Lm w10 wx P V lo → wx.heap[S]? = some (.cells #[.pointer (some ⟨P, 0, none⟩)] 131 (0, 0)) → Bv wx V lo 5 (ns ++ [nm]) (is ++ [j]) b1 d1 b2 d2 ys → ObP w P S dd T cn RES (.returned (.tuple #[])) wx) := by
  intro j a' wx b1 d1 b2 d2 ys h1 h2 h3 h4 h5
  subst hVe hlo
  refine .inl ⟨(ns ++ [nm], is ++ [j]), a', by rw [uh HRES, h1], rfl, h2, (uh HL10).trans (h3.mono (by omega)), h4, (h3.block (S + 4) (by omega) (by omega) (by omega)).trans (uh HN10), (h3.block (S + 1) (by omega) (by omega) (by omega)).trans (uh HR10), (uh HSN10).same (h3.block (S + 3) (by omega) (by omega) (by omega)), ⟨b1, d1, b2, d2, ys, h5⟩, Nat.le_trans (uh HSZ10) h3.size, by omega⟩
 obtain ⟨NS, hNS⟩ : ∃ NS, NS = ns ++ [nm] := ⟨_, rfl⟩
 rw [← hNS] at HBD HYES
 obtain ⟨A1, hA1⟩ : ∃ A1 : Option Addr, A1 = some ⟨gn, 0, none⟩ := ⟨_, rfl⟩
 rw [← hA1] at HBD
 clear hbD hNS hA1 HBv10 HP10 HQ10 HSZ10 HN10 HR10 HSN10 HL10 HRES hlo hVe
 refine wp_region_held_drew (S := fun w' => w'.cell? ⟨S, 0, none⟩ = some (.pointer (some ⟨P, 0, none⟩))) (by kernel_rfl) (by rw [← hD]; exact cq_of (uh HQD)) (fun hHeld => ?_)
 rw [← hD] at hHeld ⊢
 clear hD
 refine wpAnyH_take (i := 0) (oi := ?_) (v := ?_) ?_ (by kernel_rfl) ?_ ?_ ?_ ?_ hHeld ?_
 rotate_left 2
 ·(simp only [xq1, xq3]) <;> with_reducible rfl
 ·kernel_rfl
 ·kernel_rfl
 ·exact fun _ _ _ h => h
 ·exact Or.inl ⟨by rfl, by (intro w hSw; (try dsimp only at hSw); go_simp <;> with_reducible rfl)⟩
 simp only [Act.put, xq4, xq5, xq6]
 refine wpAnyH_take (i := 2) (oi := ?_) (v := ?_) ?_ (by kernel_rfl) ?_ ?_ ?_ ?_ hHeld ?_
 rotate_left 2
 ·(simp only [xq1, xq2, xq3]) <;> with_reducible rfl
 ·kernel_rfl
 ·kernel_rfl
 ·exact fun _ _ _ h => h
 ·exact Or.inl ⟨by rfl, by (intro w hSw; (try dsimp only at hSw); go_simp <;> with_reducible rfl)⟩
 simp only [Act.put, xq4, xq5, xq6]
 refine wpAnyH_ready (rs := [1, 3, 5]) (by kernel_rfl) (by simp) ?rda
 refine AllReadyH.cons (o := ?oa1) ?ha1 (fun K hK => ?ba1) (AllReadyH.cons (o := ?oa3) ?ha3 (fun K hK => ?ba3) (AllReadyH.cons (o := ?oa5) ?ha5 (fun K hK => ?ba5) AllReadyH.nil))
 case ha1 => (simp only [xq1, xq2, xq3]) <;> with_reducible rfl
 case ha3 => (simp only [xq1, xq2, xq3]) <;> with_reducible rfl
 case ha5 => (simp only [xq1, xq2, xq3]) <;> with_reducible rfl
 case' ba1 =>
  have c4 := (uh HBD).cells.2.1
  go_simp
  clear c4
  refine hK.out _ _ (cq_of (uh HQD)) (fun hHeld => ?_)
  clear hK K
  try simp only [Act.put, xq4, xq5, xq6]
  refine wpAnyH_take (i := 4) (oi := ?_) (v := ?_) ?_ (by kernel_rfl) ?_ ?_ ?_ ?_ hHeld ?_
  rotate_left 2
  ·(simp only [xq1, xq2, xq3]) <;> with_reducible rfl
  ·kernel_rfl
  ·kernel_rfl
  ·exact fun _ _ _ h => h
  ·exact Or.inl ⟨by rfl, by (intro w hSw; (try dsimp only at hSw); go_simp <;> with_reducible rfl)⟩
  simp only [Act.put, xq4, xq5, xq6]
  refine wpAnyH_ready (rs := [3, 5]) (by kernel_rfl) (by simp) ?rda1
  refine AllReadyH.cons (o := ?oa13) ?ha13 (fun K hK => ?ba13) (AllReadyH.cons (o := ?oa15) ?ha15 (fun K hK => ?ba15) AllReadyH.nil)
  case ha13 => (simp only [xq1, xq2, xq3]) <;> with_reducible rfl
  case ha15 => (simp only [xq1, xq2, xq3]) <;> with_reducible rfl
  case' ba13 =>
   have OLDe : ∃ OLD, OLD = D.heap.size := ⟨_, rfl⟩
   obtain ⟨OLD, hOLD⟩ := OLDe
   go_simp
   refine (uh HV _ D (uh HPD)).mono ?_
   rintro e Dv (⟨j, val, a', hM, rfl, hP3, hMv3, hJ⟩ | ⟨y, a', hM, rfl, h2, h3⟩)
   rotate_left 1
   ·exact ⟨rfl, uh HNAY _ _ _ hM h2 ((uh LMD).trans (Lm.ofMv h3 (uh SZD)))⟩
   obtain ⟨jk, jn, jt, ja1, jn1, jc1, ja2, jn2, jc2, rfl⟩ := hJ.form
   have HPDv := hide hP3
   have HBDv := hide ((uh HBD).mv hMv3 hPlo hPV)
   have HQDv := hide ((hMv3.block S (aI (uh HQD)).1 (fun e => hQP (Option.some.inj e))).trans (uh HQD))
   have SZDv : Hid (lo ≤ Dv.heap.size) := Nat.le_trans (uh SZD) hMv3.size
   have LMDv : Hid (Lm w10 Dv P V lo) := (uh LMD).trans (Lm.ofMv hMv3 (uh SZD))
   have HJDv : Hid (JV Dv (fun k => OLD ≤ k ∧ k < Dv.heap.size) (.agg #[.int .i64 jk, .int .i64 jn, .string (str jt), .slice ja1 jn1 jc1, .slice ja2 jn2 jc2]) j) := JV.keep (fun k hk => ⟨⟨by rw [hOLD]; exact hk.1, hk.2⟩, rfl⟩) j _ hJ
   have HO1 : Hid (lo ≤ OLD ∧ V < OLD ∧ (∀ k, blk A1 = some k → k < OLD) ∧ (∀ k, blk a2 = some k → k < OLD)) := by rw [hOLD]; exact ⟨uh SZD, (uh HBD).lt, fun k hk => (owns_lt (uh HBD).nm k hk).2, fun k hk => (owns_lt (uh HBD).it k hk).2⟩
   have HMo := hide hM
   clear hM hP3 hMv3 hJ hOLD
   refine hK.out _ _ (cq_of (uh HQDv)) (fun hHeld => ?_)
   clear hK K
   try simp only [Act.put, xq4, xq5, xq6]
   refine wpAnyH_ready (rs := [5]) (by kernel_rfl) (by simp) ?rda13
   refine AllReadyH.cons (o := ?oa135) ?ha135 (fun K hK => ?ba135) AllReadyH.nil
   case ha135 => (simp only [xq1, xq2, xq3]) <;> with_reducible rfl
   case' ba135 =>
    obtain ⟨Dvz, hDvz⟩ : ∃ Dvz, Dvz = Dv.alloc (.cells #[.int .i64 0, .int .i64 0, .string ⟨#[]⟩, .slice none 0 0, .slice none 0 0] 44) := ⟨_, rfl⟩
    obtain ⟨Z, hZ⟩ : ∃ Z, Z = Dv.heap.size := ⟨_, rfl⟩
    have hbDvz : Below Dv.heap.size Dv Dvz := by rw [hDvz]; exact bA _
    have hz : Dvz.heap[Z]? = some (.cells zJ.toArray 44 (0, 0)) := by rw [hDvz, hZ]; exact heap_alloc_new _ _
    have HPDvz := hide ((uh HPDv).below hbDvz)
    have HBDvz := hide ((uh HBDv).below hbDvz)
    have HQDvz := hide ((hbDvz.block S (aI (uh HQDv)).1).trans (uh HQDv))
    have SZDvz : Hid (lo ≤ Dvz.heap.size) := Nat.le_trans (uh SZDv) hbDvz.size
    have LMDvz : Hid (Lm w10 Dvz P V lo) := (uh LMDv).trans (Lm.ofMv (Mv.ofB hbDvz) (uh SZDv))
    have HZDvz := hide hz
    have HJDvz : Hid (JV Dvz (fun k => OLD ≤ k ∧ k < Dvz.heap.size) (.agg #[.int .i64 jk, .int .i64 jn, .string (str jt), .slice ja1 jn1 jc1, .slice ja2 jn2 jc2]) j) := JV.keep (fun k hk => ⟨⟨hk.1, Nat.lt_of_lt_of_le hk.2 hbDvz.size⟩, hbDvz.block k hk.2⟩) j _ (uh HJDv)
    clear hz hbDvz
    go_simp
    rw [← hDvz, ← hZ]
    clear hDvz hZ
    refine hK.out _ _ (cq_of (uh HQDvz)) (fun hHeld => ?_)
    clear hK K
    try simp only [Act.put, xq4, xq5, xq6]
    have HPt := HPDvz
    have HBt := HBDvz
    have HQt := HQDvz
    have SZt := SZDvz
    have LMt := LMDvz
    have HJt := HJDvz
    have HZt := HZDvz
  case' ba15 =>
   obtain ⟨Dz, hDz⟩ : ∃ Dz, Dz = D.alloc (.cells #[.int .i64 0, .int .i64 0, .string ⟨#[]⟩, .slice none 0 0, .slice none 0 0] 44) := ⟨_, rfl⟩
   obtain ⟨Z, hZ⟩ : ∃ Z, Z = D.heap.size := ⟨_, rfl⟩
   have hbDz : Below D.heap.size D Dz := by rw [hDz]; exact bA _
   have hz : Dz.heap[Z]? = some (.cells zJ.toArray 44 (0, 0)) := by rw [hDz, hZ]; exact heap_alloc_new _ _
   have HPDz := hide ((uh HPD).below hbDz)
   have HBDz := hide ((uh HBD).below hbDz)
   have HQDz := hide ((hbDz.block S (aI (uh HQD)).1).trans (uh HQD))
   have SZDz : Hid (lo ≤ Dz.heap.size) := Nat.le_trans (uh SZD) hbDz.size
   have LMDz : Hid (Lm w10 Dz P V lo) := (uh LMD).trans (Lm.ofMv (Mv.ofB hbDz) (uh SZD))
   have HZDz := hide hz
   clear hz hbDz
   go_simp
   rw [← hDz, ← hZ]
   clear hDz hZ
   refine hK.out _ _ (cq_of (uh HQDz)) (fun hHeld => ?_)
   clear hK K
   try simp only [Act.put, xq4, xq5, xq6]
   refine wpAnyH_ready (rs := [3]) (by kernel_rfl) (by simp) ?rda15
   refine AllReadyH.cons (o := ?oa153) ?ha153 (fun K hK => ?ba153) AllReadyH.nil
   case ha153 => (simp only [xq1, xq2, xq3]) <;> with_reducible rfl
   case' ba153 =>
    have OLDe : ∃ OLD, OLD = Dz.heap.size := ⟨_, rfl⟩
    obtain ⟨OLD, hOLD⟩ := OLDe
    go_simp
    refine (uh HV _ Dz (uh HPDz)).mono ?_
    rintro e Dzv (⟨j, val, a', hM, rfl, hP3, hMv3, hJ⟩ | ⟨y, a', hM, rfl, h2, h3⟩)
    rotate_left 1
    ·exact ⟨rfl, uh HNAY _ _ _ hM h2 ((uh LMDz).trans (Lm.ofMv h3 (uh SZDz)))⟩
    obtain ⟨jk, jn, jt, ja1, jn1, jc1, ja2, jn2, jc2, rfl⟩ := hJ.form
    have HPDzv := hide hP3
    have HBDzv := hide ((uh HBDz).mv hMv3 hPlo hPV)
    have HQDzv := hide ((hMv3.block S (aI (uh HQDz)).1 (fun e => hQP (Option.some.inj e))).trans (uh HQDz))
    have SZDzv : Hid (lo ≤ Dzv.heap.size) := Nat.le_trans (uh SZDz) hMv3.size
    have LMDzv : Hid (Lm w10 Dzv P V lo) := (uh LMDz).trans (Lm.ofMv hMv3 (uh SZDz))
    have HJDzv : Hid (JV Dzv (fun k => OLD ≤ k ∧ k < Dzv.heap.size) (.agg #[.int .i64 jk, .int .i64 jn, .string (str jt), .slice ja1 jn1 jc1, .slice ja2 jn2 jc2]) j) := JV.keep (fun k hk => ⟨⟨by rw [hOLD]; exact hk.1, hk.2⟩, rfl⟩) j _ hJ
    have HO1 : Hid (lo ≤ OLD ∧ V < OLD ∧ (∀ k, blk A1 = some k → k < OLD) ∧ (∀ k, blk a2 = some k → k < OLD)) := by rw [hOLD]; exact ⟨uh SZDz, (uh HBDz).lt, fun k hk => (owns_lt (uh HBDz).nm k hk).2, fun k hk => (owns_lt (uh HBDz).it k hk).2⟩
    have HMo := hide hM
    have HZDzv := hide ((hMv3.block Z (aI (uh HZDz)).1 (fun e => by have h5 := Option.some.inj e; have h6 := (uh HZDz); have h7 := (uh HPDz).row; rw [← h5] at h7; rw [h6] at h7; cases h7)).trans (uh HZDz))
    clear hM hP3 hMv3 hJ hOLD
    refine hK.out _ _ (cq_of (uh HQDzv)) (fun hHeld => ?_)
    clear hK K
    try simp only [Act.put, xq4, xq5, xq6]
    have HPt := HPDzv
    have HBt := HBDzv
    have HQt := HQDzv
    have SZt := SZDzv
    have LMt := LMDzv
    have HJt := HJDzv
    have HZt := HZDzv
 case' ba3 =>
  have OLDe : ∃ OLD, OLD = D.heap.size := ⟨_, rfl⟩
  obtain ⟨OLD, hOLD⟩ := OLDe
  go_simp
  refine (uh HV _ D (uh HPD)).mono ?_
  rintro e Dv (⟨j, val, a', hM, rfl, hP3, hMv3, hJ⟩ | ⟨y, a', hM, rfl, h2, h3⟩)
  rotate_left 1
  ·exact ⟨rfl, uh HNAY _ _ _ hM h2 ((uh LMD).trans (Lm.ofMv h3 (uh SZD)))⟩
  obtain ⟨jk, jn, jt, ja1, jn1, jc1, ja2, jn2, jc2, rfl⟩ := hJ.form
  have HPDv := hide hP3
  have HBDv := hide ((uh HBD).mv hMv3 hPlo hPV)
  have HQDv := hide ((hMv3.block S (aI (uh HQD)).1 (fun e => hQP (Option.some.inj e))).trans (uh HQD))
  have SZDv : Hid (lo ≤ Dv.heap.size) := Nat.le_trans (uh SZD) hMv3.size
  have LMDv : Hid (Lm w10 Dv P V lo) := (uh LMD).trans (Lm.ofMv hMv3 (uh SZD))
  have HJDv : Hid (JV Dv (fun k => OLD ≤ k ∧ k < Dv.heap.size) (.agg #[.int .i64 jk, .int .i64 jn, .string (str jt), .slice ja1 jn1 jc1, .slice ja2 jn2 jc2]) j) := JV.keep (fun k hk => ⟨⟨by rw [hOLD]; exact hk.1, hk.2⟩, rfl⟩) j _ hJ
  have HO1 : Hid (lo ≤ OLD ∧ V < OLD ∧ (∀ k, blk A1 = some k → k < OLD) ∧ (∀ k, blk a2 = some k → k < OLD)) := by rw [hOLD]; exact ⟨uh SZD, (uh HBD).lt, fun k hk => (owns_lt (uh HBD).nm k hk).2, fun k hk => (owns_lt (uh HBD).it k hk).2⟩
  have HMo := hide hM
  clear hM hP3 hMv3 hJ hOLD
  refine hK.out _ _ (cq_of (uh HQDv)) (fun hHeld => ?_)
  clear hK K
  try simp only [Act.put, xq4, xq5, xq6]
  refine wpAnyH_ready (rs := [1, 5]) (by kernel_rfl) (by simp) ?rda3
  refine AllReadyH.cons (o := ?oa31) ?ha31 (fun K hK => ?ba31) (AllReadyH.cons (o := ?oa35) ?ha35 (fun K hK => ?ba35) AllReadyH.nil)
  case ha31 => (simp only [xq1, xq2, xq3]) <;> with_reducible rfl
  case ha35 => (simp only [xq1, xq2, xq3]) <;> with_reducible rfl
  case' ba31 =>
   have c4 := (uh HBDv).cells.2.1
   go_simp
   clear c4
   refine hK.out _ _ (cq_of (uh HQDv)) (fun hHeld => ?_)
   clear hK K
   try simp only [Act.put, xq4, xq5, xq6]
   refine wpAnyH_take (i := 4) (oi := ?_) (v := ?_) ?_ (by kernel_rfl) ?_ ?_ ?_ ?_ hHeld ?_
   rotate_left 2
   ·(simp only [xq1, xq2, xq3]) <;> with_reducible rfl
   ·kernel_rfl
   ·kernel_rfl
   ·exact fun _ _ _ h => h
   ·exact Or.inl ⟨by rfl, by (intro w hSw; (try dsimp only at hSw); go_simp <;> with_reducible rfl)⟩
   simp only [Act.put, xq4, xq5, xq6]
   refine wpAnyH_ready (rs := [5]) (by kernel_rfl) (by simp) ?rda31
   refine AllReadyH.cons (o := ?oa315) ?ha315 (fun K hK => ?ba315) AllReadyH.nil
   case ha315 => (simp only [xq1, xq2, xq3]) <;> with_reducible rfl
   case' ba315 =>
    obtain ⟨Dvz, hDvz⟩ : ∃ Dvz, Dvz = Dv.alloc (.cells #[.int .i64 0, .int .i64 0, .string ⟨#[]⟩, .slice none 0 0, .slice none 0 0] 44) := ⟨_, rfl⟩
    obtain ⟨Z, hZ⟩ : ∃ Z, Z = Dv.heap.size := ⟨_, rfl⟩
    have hbDvz : Below Dv.heap.size Dv Dvz := by rw [hDvz]; exact bA _
    have hz : Dvz.heap[Z]? = some (.cells zJ.toArray 44 (0, 0)) := by rw [hDvz, hZ]; exact heap_alloc_new _ _
    have HPDvz := hide ((uh HPDv).below hbDvz)
    have HBDvz := hide ((uh HBDv).below hbDvz)
    have HQDvz := hide ((hbDvz.block S (aI (uh HQDv)).1).trans (uh HQDv))
    have SZDvz : Hid (lo ≤ Dvz.heap.size) := Nat.le_trans (uh SZDv) hbDvz.size
    have LMDvz : Hid (Lm w10 Dvz P V lo) := (uh LMDv).trans (Lm.ofMv (Mv.ofB hbDvz) (uh SZDv))
    have HZDvz := hide hz
    have HJDvz : Hid (JV Dvz (fun k => OLD ≤ k ∧ k < Dvz.heap.size) (.agg #[.int .i64 jk, .int .i64 jn, .string (str jt), .slice ja1 jn1 jc1, .slice ja2 jn2 jc2]) j) := JV.keep (fun k hk => ⟨⟨hk.1, Nat.lt_of_lt_of_le hk.2 hbDvz.size⟩, hbDvz.block k hk.2⟩) j _ (uh HJDv)
    clear hz hbDvz
    go_simp
    rw [← hDvz, ← hZ]
    clear hDvz hZ
    refine hK.out _ _ (cq_of (uh HQDvz)) (fun hHeld => ?_)
    clear hK K
    try simp only [Act.put, xq4, xq5, xq6]
    have HPt := HPDvz
    have HBt := HBDvz
    have HQt := HQDvz
    have SZt := SZDvz
    have LMt := LMDvz
    have HJt := HJDvz
    have HZt := HZDvz
  case' ba35 =>
   obtain ⟨Dvz, hDvz⟩ : ∃ Dvz, Dvz = Dv.alloc (.cells #[.int .i64 0, .int .i64 0, .string ⟨#[]⟩, .slice none 0 0, .slice none 0 0] 44) := ⟨_, rfl⟩
   obtain ⟨Z, hZ⟩ : ∃ Z, Z = Dv.heap.size := ⟨_, rfl⟩
   have hbDvz : Below Dv.heap.size Dv Dvz := by rw [hDvz]; exact bA _
   have hz : Dvz.heap[Z]? = some (.cells zJ.toArray 44 (0, 0)) := by rw [hDvz, hZ]; exact heap_alloc_new _ _
   have HPDvz := hide ((uh HPDv).below hbDvz)
   have HBDvz := hide ((uh HBDv).below hbDvz)
   have HQDvz := hide ((hbDvz.block S (aI (uh HQDv)).1).trans (uh HQDv))
   have SZDvz : Hid (lo ≤ Dvz.heap.size) := Nat.le_trans (uh SZDv) hbDvz.size
   have LMDvz : Hid (Lm w10 Dvz P V lo) := (uh LMDv).trans (Lm.ofMv (Mv.ofB hbDvz) (uh SZDv))
   have HZDvz := hide hz
   have HJDvz : Hid (JV Dvz (fun k => OLD ≤ k ∧ k < Dvz.heap.size) (.agg #[.int .i64 jk, .int .i64 jn, .string (str jt), .slice ja1 jn1 jc1, .slice ja2 jn2 jc2]) j) := JV.keep (fun k hk => ⟨⟨hk.1, Nat.lt_of_lt_of_le hk.2 hbDvz.size⟩, hbDvz.block k hk.2⟩) j _ (uh HJDv)
   clear hz hbDvz
   go_simp
   rw [← hDvz, ← hZ]
   clear hDvz hZ
   refine hK.out _ _ (cq_of (uh HQDvz)) (fun hHeld => ?_)
   clear hK K
   try simp only [Act.put, xq4, xq5, xq6]
   refine wpAnyH_ready (rs := [1]) (by kernel_rfl) (by simp) ?rda35
   refine AllReadyH.cons (o := ?oa351) ?ha351 (fun K hK => ?ba351) AllReadyH.nil
   case ha351 => (simp only [xq1, xq2, xq3]) <;> with_reducible rfl
   case' ba351 =>
    have c4 := (uh HBDvz).cells.2.1
    go_simp
    clear c4
    refine hK.out _ _ (cq_of (uh HQDvz)) (fun hHeld => ?_)
    clear hK K
    try simp only [Act.put, xq4, xq5, xq6]
    refine wpAnyH_take (i := 4) (oi := ?_) (v := ?_) ?_ (by kernel_rfl) ?_ ?_ ?_ ?_ hHeld ?_
    rotate_left 2
    ·(simp only [xq1, xq2, xq3]) <;> with_reducible rfl
    ·kernel_rfl
    ·kernel_rfl
    ·exact fun _ _ _ h => h
    ·exact Or.inl ⟨by rfl, by (intro w hSw; (try dsimp only at hSw); go_simp <;> with_reducible rfl)⟩
    simp only [Act.put, xq4, xq5, xq6]
    have HPt := HPDvz
    have HBt := HBDvz
    have HQt := HQDvz
    have SZt := SZDvz
    have LMt := LMDvz
    have HJt := HJDvz
    have HZt := HZDvz
 case' ba5 =>
  obtain ⟨Dz, hDz⟩ : ∃ Dz, Dz = D.alloc (.cells #[.int .i64 0, .int .i64 0, .string ⟨#[]⟩, .slice none 0 0, .slice none 0 0] 44) := ⟨_, rfl⟩
  obtain ⟨Z, hZ⟩ : ∃ Z, Z = D.heap.size := ⟨_, rfl⟩
  have hbDz : Below D.heap.size D Dz := by rw [hDz]; exact bA _
  have hz : Dz.heap[Z]? = some (.cells zJ.toArray 44 (0, 0)) := by rw [hDz, hZ]; exact heap_alloc_new _ _
  have HPDz := hide ((uh HPD).below hbDz)
  have HBDz := hide ((uh HBD).below hbDz)
  have HQDz := hide ((hbDz.block S (aI (uh HQD)).1).trans (uh HQD))
  have SZDz : Hid (lo ≤ Dz.heap.size) := Nat.le_trans (uh SZD) hbDz.size
  have LMDz : Hid (Lm w10 Dz P V lo) := (uh LMD).trans (Lm.ofMv (Mv.ofB hbDz) (uh SZD))
  have HZDz := hide hz
  clear hz hbDz
  go_simp
  rw [← hDz, ← hZ]
  clear hDz hZ
  refine hK.out _ _ (cq_of (uh HQDz)) (fun hHeld => ?_)
  clear hK K
  try simp only [Act.put, xq4, xq5, xq6]
  refine wpAnyH_ready (rs := [1, 3]) (by kernel_rfl) (by simp) ?rda5
  refine AllReadyH.cons (o := ?oa51) ?ha51 (fun K hK => ?ba51) (AllReadyH.cons (o := ?oa53) ?ha53 (fun K hK => ?ba53) AllReadyH.nil)
  case ha51 => (simp only [xq1, xq2, xq3]) <;> with_reducible rfl
  case ha53 => (simp only [xq1, xq2, xq3]) <;> with_reducible rfl
  case' ba51 =>
   have c4 := (uh HBDz).cells.2.1
   go_simp
   clear c4
   refine hK.out _ _ (cq_of (uh HQDz)) (fun hHeld => ?_)
   clear hK K
   try simp only [Act.put, xq4, xq5, xq6]
   refine wpAnyH_take (i := 4) (oi := ?_) (v := ?_) ?_ (by kernel_rfl) ?_ ?_ ?_ ?_ hHeld ?_
   rotate_left 2
   ·(simp only [xq1, xq2, xq3]) <;> with_reducible rfl
   ·kernel_rfl
   ·kernel_rfl
   ·exact fun _ _ _ h => h
   ·exact Or.inl ⟨by rfl, by (intro w hSw; (try dsimp only at hSw); go_simp <;> with_reducible rfl)⟩
   simp only [Act.put, xq4, xq5, xq6]
   refine wpAnyH_ready (rs := [3]) (by kernel_rfl) (by simp) ?rda51
   refine AllReadyH.cons (o := ?oa513) ?ha513 (fun K hK => ?ba513) AllReadyH.nil
   case ha513 => (simp only [xq1, xq2, xq3]) <;> with_reducible rfl
   case' ba513 =>
    have OLDe : ∃ OLD, OLD = Dz.heap.size := ⟨_, rfl⟩
    obtain ⟨OLD, hOLD⟩ := OLDe
    go_simp
    refine (uh HV _ Dz (uh HPDz)).mono ?_
    rintro e Dzv (⟨j, val, a', hM, rfl, hP3, hMv3, hJ⟩ | ⟨y, a', hM, rfl, h2, h3⟩)
    rotate_left 1
    ·exact ⟨rfl, uh HNAY _ _ _ hM h2 ((uh LMDz).trans (Lm.ofMv h3 (uh SZDz)))⟩
    obtain ⟨jk, jn, jt, ja1, jn1, jc1, ja2, jn2, jc2, rfl⟩ := hJ.form
    have HPDzv := hide hP3
    have HBDzv := hide ((uh HBDz).mv hMv3 hPlo hPV)
    have HQDzv := hide ((hMv3.block S (aI (uh HQDz)).1 (fun e => hQP (Option.some.inj e))).trans (uh HQDz))
    have SZDzv : Hid (lo ≤ Dzv.heap.size) := Nat.le_trans (uh SZDz) hMv3.size
    have LMDzv : Hid (Lm w10 Dzv P V lo) := (uh LMDz).trans (Lm.ofMv hMv3 (uh SZDz))
    have HJDzv : Hid (JV Dzv (fun k => OLD ≤ k ∧ k < Dzv.heap.size) (.agg #[.int .i64 jk, .int .i64 jn, .string (str jt), .slice ja1 jn1 jc1, .slice ja2 jn2 jc2]) j) := JV.keep (fun k hk => ⟨⟨by rw [hOLD]; exact hk.1, hk.2⟩, rfl⟩) j _ hJ
    have HO1 : Hid (lo ≤ OLD ∧ V < OLD ∧ (∀ k, blk A1 = some k → k < OLD) ∧ (∀ k, blk a2 = some k → k < OLD)) := by rw [hOLD]; exact ⟨uh SZDz, (uh HBDz).lt, fun k hk => (owns_lt (uh HBDz).nm k hk).2, fun k hk => (owns_lt (uh HBDz).it k hk).2⟩
    have HMo := hide hM
    have HZDzv := hide ((hMv3.block Z (aI (uh HZDz)).1 (fun e => by have h5 := Option.some.inj e; have h6 := (uh HZDz); have h7 := (uh HPDz).row; rw [← h5] at h7; rw [h6] at h7; cases h7)).trans (uh HZDz))
    clear hM hP3 hMv3 hJ hOLD
    refine hK.out _ _ (cq_of (uh HQDzv)) (fun hHeld => ?_)
    clear hK K
    try simp only [Act.put, xq4, xq5, xq6]
    have HPt := HPDzv
    have HBt := HBDzv
    have HQt := HQDzv
    have SZt := SZDzv
    have LMt := LMDzv
    have HJt := HJDzv
    have HZt := HZDzv
  case' ba53 =>
   have OLDe : ∃ OLD, OLD = Dz.heap.size := ⟨_, rfl⟩
   obtain ⟨OLD, hOLD⟩ := OLDe
   go_simp
   refine (uh HV _ Dz (uh HPDz)).mono ?_
   rintro e Dzv (⟨j, val, a', hM, rfl, hP3, hMv3, hJ⟩ | ⟨y, a', hM, rfl, h2, h3⟩)
   rotate_left 1
   ·exact ⟨rfl, uh HNAY _ _ _ hM h2 ((uh LMDz).trans (Lm.ofMv h3 (uh SZDz)))⟩
   obtain ⟨jk, jn, jt, ja1, jn1, jc1, ja2, jn2, jc2, rfl⟩ := hJ.form
   have HPDzv := hide hP3
   have HBDzv := hide ((uh HBDz).mv hMv3 hPlo hPV)
   have HQDzv := hide ((hMv3.block S (aI (uh HQDz)).1 (fun e => hQP (Option.some.inj e))).trans (uh HQDz))
   have SZDzv : Hid (lo ≤ Dzv.heap.size) := Nat.le_trans (uh SZDz) hMv3.size
   have LMDzv : Hid (Lm w10 Dzv P V lo) := (uh LMDz).trans (Lm.ofMv hMv3 (uh SZDz))
   have HJDzv : Hid (JV Dzv (fun k => OLD ≤ k ∧ k < Dzv.heap.size) (.agg #[.int .i64 jk, .int .i64 jn, .string (str jt), .slice ja1 jn1 jc1, .slice ja2 jn2 jc2]) j) := JV.keep (fun k hk => ⟨⟨by rw [hOLD]; exact hk.1, hk.2⟩, rfl⟩) j _ hJ
   have HO1 : Hid (lo ≤ OLD ∧ V < OLD ∧ (∀ k, blk A1 = some k → k < OLD) ∧ (∀ k, blk a2 = some k → k < OLD)) := by rw [hOLD]; exact ⟨uh SZDz, (uh HBDz).lt, fun k hk => (owns_lt (uh HBDz).nm k hk).2, fun k hk => (owns_lt (uh HBDz).it k hk).2⟩
   have HMo := hide hM
   have HZDzv := hide ((hMv3.block Z (aI (uh HZDz)).1 (fun e => by have h5 := Option.some.inj e; have h6 := (uh HZDz); have h7 := (uh HPDz).row; rw [← h5] at h7; rw [h6] at h7; cases h7)).trans (uh HZDz))
   clear hM hP3 hMv3 hJ hOLD
   refine hK.out _ _ (cq_of (uh HQDzv)) (fun hHeld => ?_)
   clear hK K
   try simp only [Act.put, xq4, xq5, xq6]
   refine wpAnyH_ready (rs := [1]) (by kernel_rfl) (by simp) ?rda53
   refine AllReadyH.cons (o := ?oa531) ?ha531 (fun K hK => ?ba531) AllReadyH.nil
   case ha531 => (simp only [xq1, xq2, xq3]) <;> with_reducible rfl
   case' ba531 =>
    have c4 := (uh HBDzv).cells.2.1
    go_simp
    clear c4
    refine hK.out _ _ (cq_of (uh HQDzv)) (fun hHeld => ?_)
    clear hK K
    try simp only [Act.put, xq4, xq5, xq6]
    refine wpAnyH_take (i := 4) (oi := ?_) (v := ?_) ?_ (by kernel_rfl) ?_ ?_ ?_ ?_ hHeld ?_
    rotate_left 2
    ·(simp only [xq1, xq2, xq3]) <;> with_reducible rfl
    ·kernel_rfl
    ·kernel_rfl
    ·exact fun _ _ _ h => h
    ·exact Or.inl ⟨by rfl, by (intro w hSw; (try dsimp only at hSw); go_simp <;> with_reducible rfl)⟩
    simp only [Act.put, xq4, xq5, xq6]
    have HPt := HPDzv
    have HBt := HBDzv
    have HQt := HQDzv
    have SZt := SZDzv
    have LMt := LMDzv
    have HJt := HJDzv
    have HZt := HZDzv
 all_goals
  refine wpAnyH_ready (rs := [6]) (by kernel_rfl) (by simp) ?_
  refine AllReadyH.cons (o := ?_) ?_ (fun K hK => ?_) AllReadyH.nil
  rotate_left 1
  ·(simp only [xq1, xq2, xq3]) <;> with_reducible rfl
  ·refine stp_appz _ rfl (.tmp 35) (.tmp 39) rfl lo a2 c2 is.length xs rfl (uh HBt).it Z _ rfl (uh HZt) his (uh SZt) ?_
   intro g cap w2 HO HG HAT HGL
   have hglo : lo ≤ g := (owns_lt (uh HO) g rfl).1
   have hQ2 : w2.heap[S]? = some (.cells #[.pointer (some ⟨P, 0, none⟩)] 131 (0, 0)) := ((uh HG).block S (aI (uh HQt)).1 (fun e => by have := (owns_lt (uh HBt).it S e.symm).1; omega)).trans (uh HQt)
   have hV2 : w2.heap[V]? = some (.cells #[.int .i64 5, .int .i64 0, .string ⟨#[]⟩, .slice A1 NS.length cpn, .slice a2 is.length c2] 44 (0, 0)) := ((uh HG).block V (uh HBt).lt (fun e => (uh HBt).v2 e.symm)).trans (uh HBt).row
   have HQ2 := hide hQ2
   have HV2 := hide hV2
   have hxl : xs.length = is.length * 5 := (uh HBt).it.1
   have hgV : g ≠ V := by
    rintro rfl
    rcases uh HAT with e | e
    ·exact (uh HBt).v2 e
    ·have := (uh HBt).lt; omega
   have LM2 : Hid (Lm w10 w2 P V lo) := (uh LMt).trans (Lm.ofG (uh HG) (uh SZt) (fun k hk => (owns_lt (uh HBt).it k hk).1))
   have hz5 : ∀ m v, zJ[m]? = some v → (xs ++ zJ)[is.length * 5 + m]? = some v := fun m v hm => by rw [List.getElem?_append_right (by omega), show is.length * 5 + m - xs.length = m by omega]; exact hm
   obtain ⟨e0, f0⟩ := owns_cell (uh HO) _ _ (hz5 0 _ rfl)
   obtain ⟨e1, f1⟩ := owns_cell (uh HO) _ _ (hz5 1 _ rfl)
   obtain ⟨e2, f2⟩ := owns_cell (uh HO) _ _ (hz5 2 _ rfl)
   obtain ⟨e3, f3⟩ := owns_cell (uh HO) _ _ (hz5 3 _ rfl)
   obtain ⟨e4, f4⟩ := owns_cell (uh HO) _ _ (hz5 4 _ rfl)
   rw [Nat.add_zero] at e0 f0
   have c4 : w2.cell? ⟨V, 4, none⟩ = some (.slice a2 is.length c2) := cR6 hV2
   have cfV : w2.frozen? ⟨V, 4, none⟩ = false := frozen_of_row _ _ _ _ _ hV2
   have HXL := hide hxl
   have HZ5 := hide hz5
   clear hQ2 hV2 hxl hz5
   refine hK.out _ _ (cq_of (uh HQ2)) (fun hHeld => ?_)
   clear hK K
   try simp only [Act.put, xq4, xq5, xq6]
   have hil : (is.length : Int) < (is.length : Int) + 1 := by omega
   refine wpAnyH_take (i := 7) (oi := ?_) (v := ?_) ?_ (by kernel_rfl) ?_ ?_ ?_ ?_ hHeld ?_
   rotate_left 2
   ·(simp only [xq1, xq2, xq3]) <;> with_reducible rfl
   ·kernel_rfl
   ·kernel_rfl
   ·exact fun _ _ _ h => h
   ·exact Or.inl ⟨by rfl, by (intro w hSw; (try dsimp only at hSw); go_simp <;> with_reducible rfl)⟩
   simp only [Act.put, xq4, xq5, xq6]
   refine wpAnyH_take (i := 9) (oi := ?_) (v := ?_) ?_ (by kernel_rfl) ?_ ?_ ?_ ?_ hHeld ?_
   rotate_left 2
   ·(simp only [xq1, xq2, xq3]) <;> with_reducible rfl
   ·kernel_rfl
   ·kernel_rfl
   ·exact fun _ _ _ h => h
   ·exact Or.inl ⟨by rfl, by (intro w hSw; (try dsimp only at hSw); go_simp <;> with_reducible rfl)⟩
   simp only [Act.put, xq4, xq5, xq6]
   refine wpAnyH_ready (rs := [8, 10]) (by kernel_rfl) (by simp) ?_
   refine AllReadyH.cons (o := ?_) ?_ (fun K hK => ?_) (AllReadyH.cons (o := ?_) ?_ (fun K hK => ?_) AllReadyH.nil)
   rotate_left 1
   ·(simp only [xq1, xq2, xq3]) <;> with_reducible rfl
   ·obtain ⟨w5, h5⟩ : ∃ w5, w5 = ((((w2.setCell ⟨g, is.length * 5, none⟩ (.int .i64 jk)).setCell ⟨g, is.length * 5 + 1, none⟩ (.int .i64 jn)).setCell ⟨g, is.length * 5 + 2, none⟩ (.string (str jt))).setCell ⟨g, is.length * 5 + 3, none⟩ (.slice ja1 jn1 jc1)).setCell ⟨g, is.length * 5 + 4, none⟩ (.slice ja2 jn2 jc2) := ⟨_, rfl⟩
    have o5 : OwnJ w5 lo (some ⟨g, 0, none⟩) cap (is.length + 1) (xs ++ [.int .i64 jk, .int .i64 jn, .string (str jt), .slice ja1 jn1 jc1, .slice ja2 jn2 jc2]) := by rw [h5]; exact own5 (uh HO) (uh HXL) _ _ _ _ _
    have k5 : ∀ k, k ≠ g → w5.heap[k]? = w2.heap[k]? := fun k hk => by rw [h5]; exact far5 w2 g k _ _ _ _ _ _ _ _ _ _ hk
    have z5 : w5.heap.size = w2.heap.size := by rw [h5]; exact siz5 w2 g _ _ _ _ _ _ _ _ _ _
    have l5 : Lm w10 w5 P V lo := by rw [h5]; exact (((((uh LM2).trans (Lm.set (.inr hglo))).trans (Lm.set (.inr hglo))).trans (Lm.set (.inr hglo))).trans (Lm.set (.inr hglo))).trans (Lm.set (.inr hglo))
    have q5 : w5.heap[S]? = some (.cells #[.pointer (some ⟨P, 0, none⟩)] 131 (0, 0)) := (k5 S (by omega)).trans (uh HQ2)
    have r5 : w5.heap[V]? = some (.cells #[.int .i64 5, .int .i64 0, .string ⟨#[]⟩, .slice A1 NS.length cpn, .slice a2 is.length c2] 44 (0, 0)) := (k5 V (Ne.symm hgV)).trans (uh HV2)
    have c5 : w5.cell? ⟨V, 4, none⟩ = some (.slice a2 is.length c2) := cR6 r5
    have cf5 : w5.frozen? ⟨V, 4, none⟩ = false := frozen_of_row _ _ _ _ _ r5
    have HO5 := hide o5
    have HK5 := hide k5
    have HZz := hide z5
    have HL5 := hide l5
    have HQ5 := hide q5
    have HR5 := hide r5
    clear o5 k5 z5 l5 q5 r5 c4 cfV
    go_simp
    rw [← h5]
    clear h5 e0 e1 e2 e3 e4 f0 f1 f2 f3 f4
    refine hK.out _ _ (cq_of (uh HQ5)) (fun hHeld => ?_)
    clear hK K
    try simp only [Act.put, xq4, xq5, xq6]
    refine wpAnyH_ready (rs := [10]) (by kernel_rfl) (by simp) ?_
    refine AllReadyH.cons (o := ?_) ?_ (fun K hK => ?_) AllReadyH.nil
    rotate_left 1
    ·(simp only [xq1, xq2, xq3]) <;> with_reducible rfl
    ·obtain ⟨w6, h6⟩ : ∃ w6, w6 = w5.setCell ⟨V, 4, none⟩ (.slice (some ⟨g, 0, none⟩) (is.length + 1) cap) := ⟨_, rfl⟩
     have g6 := grownBy_setCell w5 ⟨V, 4, none⟩ (.slice (some ⟨g, 0, none⟩) (is.length + 1) cap)
     rw [← h6] at g6
     have k6 : ∀ k, k ≠ V → k ≠ g → w6.heap[k]? = w2.heap[k]? := fun k n1 n2 => (by rw [h6]; exact Below.heap_setCell _ ⟨V, 4, none⟩ _ k n1 : w6.heap[k]? = w5.heap[k]?).trans (uh HK5 k n2)
     have r6 : w6.heap[V]? = some (.cells #[.int .i64 5, .int .i64 0, .string ⟨#[]⟩, .slice A1 NS.length cpn, .slice (some ⟨g, 0, none⟩) (is.length + 1) cap] 44 (0, 0)) := by rw [h6]; exact hS6 (uh HR5)
     have o6 : OwnJ w6 lo (some ⟨g, 0, none⟩) cap (is.length + 1) (xs ++ [.int .i64 jk, .int .i64 jn, .string (str jt), .slice ja1 jn1 jc1, .slice ja2 jn2 jc2]) := owns_same (uh HO5) (fun k hk => by rw [h6]; exact Below.heap_setCell _ ⟨V, 4, none⟩ _ k (fun e => by simp [blk] at hk; simp only at e; omega))
     have z6 : w6.heap.size = w2.heap.size := by rw [h6, siz1]; exact uh HZz
     have q6 : w6.heap[S]? = some (.cells #[.pointer (some ⟨P, 0, none⟩)] 131 (0, 0)) := (k6 S hQV (by omega)).trans (uh HQ2)
     have l6 : Lm w10 w6 P V lo := by rw [h6]; exact (uh HL5).trans (Lm.set (.inl rfl))
     have HE : Hid (Bv w6 V lo 5 NS (is ++ [j]) A1 cpn (some ⟨g, 0, none⟩) cap (xs ++ [.int .i64 jk, .int .i64 jn, .string (str jt), .slice ja1 jn1 jc1, .slice ja2 jn2 jc2])) := (uh HBt).push (uh HJt) (uh HO1).1 (uh HO1).2.1 (uh HO1).2.2.1 (uh HO1).2.2.2 (uh HG) (uh HAT) (uh HGL) r6 o6 k6 z6
     have HP6 : Hid (Pa w6 P T a' dd) := pa_keep (uh HPt) (uh HG) (fun k hk => (owns_lt (uh HBt).it k hk).1) k6 hPlo hPV hglo hg4 hgV4
     have HQ6 := hide q6
     have HL6 := hide l6
     clear g6 k6 r6 o6 z6 q6 l6
     go_simp
     rw [← h6]
     clear h6 c5 cf5
     refine hK.out _ _ (cq_of (uh HQ6)) (fun hHeld => ?_)
     clear hK K
     try simp only [Act.put, xq4, xq5, xq6]
     refine wpAnyH_done (by kernel_rfl) ?_ _
     go_end0
     exact uh HYES j a' _ _ _ _ _ _ (uh HMo) (uh HP6) (uh HL6) (uh HQ6) (uh HE)
   rotate_left 1
   ·(simp only [xq1, xq2, xq3]) <;> with_reducible rfl
   ·obtain ⟨w5, h5⟩ : ∃ w5, w5 = w2.setCell ⟨V, 4, none⟩ (.slice (some ⟨g, 0, none⟩) (is.length + 1) cap) := ⟨_, rfl⟩
    have k5 : ∀ k, k ≠ V → w5.heap[k]? = w2.heap[k]? := fun k n1 => by rw [h5]; exact Below.heap_setCell _ ⟨V, 4, none⟩ _ k n1
    have o5 : OwnJ w5 lo (some ⟨g, 0, none⟩) cap (is.length + 1) (xs ++ zJ) := owns_same (uh HO) (fun k hk => k5 k (fun e => by simp [blk] at hk; omega))
    have r5 : w5.heap[V]? = some (.cells #[.int .i64 5, .int .i64 0, .string ⟨#[]⟩, .slice A1 NS.length cpn, .slice (some ⟨g, 0, none⟩) (is.length + 1) cap] 44 (0, 0)) := by rw [h5]; exact hS6 (uh HV2)
    have z5 : w5.heap.size = w2.heap.size := by rw [h5, siz1]
    have q5 : w5.heap[S]? = some (.cells #[.pointer (some ⟨P, 0, none⟩)] 131 (0, 0)) := (k5 S hQV).trans (uh HQ2)
    have l5 : Lm w10 w5 P V lo := by rw [h5]; exact (uh LM2).trans (Lm.set (.inl rfl))
    clear e0 e1 e2 e3 e4 f0 f1 f2 f3 f4
    obtain ⟨e0, f0⟩ := owns_cell o5 _ _ (uh HZ5 0 _ rfl)
    obtain ⟨e1, f1⟩ := owns_cell o5 _ _ (uh HZ5 1 _ rfl)
    obtain ⟨e2, f2⟩ := owns_cell o5 _ _ (uh HZ5 2 _ rfl)
    obtain ⟨e3, f3⟩ := owns_cell o5 _ _ (uh HZ5 3 _ rfl)
    obtain ⟨e4, f4⟩ := owns_cell o5 _ _ (uh HZ5 4 _ rfl)
    rw [Nat.add_zero] at e0 f0
    have HO5 := hide o5
    have HK5 := hide k5
    have HZz := hide z5
    have HL5 := hide l5
    have HQ5 := hide q5
    have HR5 := hide r5
    clear o5 k5 z5 l5 q5 r5
    go_simp
    rw [← h5]
    clear h5 c4 cfV
    refine hK.out _ _ (cq_of (uh HQ5)) (fun hHeld => ?_)
    clear hK K
    try simp only [Act.put, xq4, xq5, xq6]
    refine wpAnyH_ready (rs := [8]) (by kernel_rfl) (by simp) ?_
    refine AllReadyH.cons (o := ?_) ?_ (fun K hK => ?_) AllReadyH.nil
    rotate_left 1
    ·(simp only [xq1, xq2, xq3]) <;> with_reducible rfl
    ·obtain ⟨w6, h6⟩ : ∃ w6, w6 = ((((w5.setCell ⟨g, is.length * 5, none⟩ (.int .i64 jk)).setCell ⟨g, is.length * 5 + 1, none⟩ (.int .i64 jn)).setCell ⟨g, is.length * 5 + 2, none⟩ (.string (str jt))).setCell ⟨g, is.length * 5 + 3, none⟩ (.slice ja1 jn1 jc1)).setCell ⟨g, is.length * 5 + 4, none⟩ (.slice ja2 jn2 jc2) := ⟨_, rfl⟩
     have o6 : OwnJ w6 lo (some ⟨g, 0, none⟩) cap (is.length + 1) (xs ++ [.int .i64 jk, .int .i64 jn, .string (str jt), .slice ja1 jn1 jc1, .slice ja2 jn2 jc2]) := by rw [h6]; exact own5 (uh HO5) (uh HXL) _ _ _ _ _
     have k6' : ∀ k, k ≠ g → w6.heap[k]? = w5.heap[k]? := fun k hk => by rw [h6]; exact far5 w5 g k _ _ _ _ _ _ _ _ _ _ hk
     have k6 : ∀ k, k ≠ V → k ≠ g → w6.heap[k]? = w2.heap[k]? := fun k n1 n2 => (k6' k n2).trans (uh HK5 k n1)
     have z6 : w6.heap.size = w2.heap.size := by rw [h6, siz5]; exact uh HZz
     have l6 : Lm w10 w6 P V lo := by rw [h6]; exact (((((uh HL5).trans (Lm.set (.inr hglo))).trans (Lm.set (.inr hglo))).trans (Lm.set (.inr hglo))).trans (Lm.set (.inr hglo))).trans (Lm.set (.inr hglo))
     have r6 := (k6' V (Ne.symm hgV)).trans (uh HR5)
     have q6 : w6.heap[S]? = some (.cells #[.pointer (some ⟨P, 0, none⟩)] 131 (0, 0)) := (k6 S hQV (by omega)).trans (uh HQ2)
     have HE : Hid (Bv w6 V lo 5 NS (is ++ [j]) A1 cpn (some ⟨g, 0, none⟩) cap (xs ++ [.int .i64 jk, .int .i64 jn, .string (str jt), .slice ja1 jn1 jc1, .slice ja2 jn2 jc2])) := (uh HBt).push (uh HJt) (uh HO1).1 (uh HO1).2.1 (uh HO1).2.2.1 (uh HO1).2.2.2 (uh HG) (uh HAT) (uh HGL) r6 o6 k6 z6
     have HP6 : Hid (Pa w6 P T a' dd) := pa_keep (uh HPt) (uh HG) (fun k hk => (owns_lt (uh HBt).it k hk).1) k6 hPlo hPV hglo hg4 hgV4
     have HQ6 := hide q6
     have HL6 := hide l6
     clear k6 k6' r6 o6 z6 q6 l6
     go_simp
     rw [← h6]
     clear h6 e0 e1 e2 e3 e4 f0 f1 f2 f3 f4
     refine hK.out _ _ (cq_of (uh HQ6)) (fun hHeld => ?_)
     clear hK K
     try simp only [Act.put, xq4, xq5, xq6]
     refine wpAnyH_done (by kernel_rfl) ?_ _
     go_end0
     exact uh HYES j a' _ _ _ _ _ _ (uh HMo) (uh HP6) (uh HL6) (uh HQ6) (uh HE)
end Go.Proofs.YtmpjeahibfdehaaGreatDoor
end
section
set_option linter.unusedVariables false
set_option maxRecDepth 1000000
namespace Go.Proofs.YtmpjeahibfdehaaGreatDoor
open Go.RowKit Go.Maps

theorem ob_me (V : List UInt8 → Rs Js) : ∀ (f : Nat) (ns : List (List UInt8)) (is : List Js) (l : List UInt8), obL V f ns is l = meL (mbO V) f (ns, is) l
 | 0, ns, is, l => rfl
 | f + 1, ns, is, l => by
  rw [obL, meL, mbO]
  cases hV : mbM V ns l with
  | no r y => rfl
  | ok v r =>
   simp only
   cases hs : skB r with
   | nil => rfl
   | cons c r2 =>
    simp only
    split
    ·exact ob_me V f _ _ _
    ·rfl
theorem mb_len (V : List UInt8 → Rs Js) (hL : VaL V) (ns : List (List UInt8)) (l r : List UInt8) (x : List UInt8 × Js) (h : mbM V ns l = .ok x r) : r.length ≤ l.length := by
 unfold mbM at h
 cases h1 : uqM l with
 | no r y => rw [h1] at h; cases h
 | ok nm r1 =>
  rw [h1] at h
  have e1 := (uq_len _ _ _ h1).2
  simp only at h
  split at h
  ·cases h
  ·cases h2 : tkM 34 r1 with
   | no r y => rw [h2] at h; cases h
   | ok u r2 =>
    rw [h2] at h
    have e2 := congrArg List.length (tk_len _ _ _ h2)
    simp only [List.length_cons] at e2 h
    have e3 := skB_le r2
    cases h3 : tkM 58 (skB r2) with
    | no r y => rw [h3] at h; cases h
    | ok u r3 =>
     rw [h3] at h
     have e4 := congrArg List.length (tk_len _ _ _ h3)
     simp only [List.length_cons] at e4 h
     have e5 := skB_le r3
     cases h4 : V (skB r3) with
     | no r y => rw [h4] at h; cases h
     | ok v r4 =>
      rw [h4] at h
      simp only [Rs.ok.injEq] at h
      have e6 := hL _ _ _ h4
      rw [← h.2]
      omega
/-- An object, from behind its bracket on. -/
def obF (V : List UInt8 → Rs Js) (r : List UInt8) : Rs Js := match mmM 125 ([], []) (fun l => obL V (l.length + 1) [] [] l) r with | .no r2 y => .no r2 y | .ok x r2 => .ok (.mk 5 0 [] x.1 x.2) r2
theorem obF_ok {V : List UInt8 → Rs Js} {r : List UInt8} {x : List (List UInt8) × List Js} {r2 : List UInt8} (h : mmM 125 ([], []) (fun l => obL V (l.length + 1) [] [] l) r = .ok x r2) : obF V r = .ok (.mk 5 0 [] x.1 x.2) r2 := by unfold obF; rw [h]
theorem obF_no {V : List UInt8 → Rs Js} {r : List UInt8} {r2 : List UInt8} {y : Nat} (h : mmM 125 ([], []) (fun l => obL V (l.length + 1) [] [] l) r = .no r2 y) : obF V r = .no r2 y := by unfold obF; rw [h]
/-- The object's own state. -/
def ObI (P S : Nat) (w : World) (s : List (List UInt8) × List Js) (n : Nat) : Prop := s.1.length ≤ n ∧ s.2.length ≤ n ∧ ObS w P S s.1 s.2 n
set_option maxHeartbeats 4000000 in
theorem object_any (P : Nat) (T : List UInt8) (d : Nat) (Vf : List UInt8 → Rs Js) (hV : VaC P T (d + 1) Vf) (hL : VaL Vf) (a : Nat) (r : List UInt8) (w : World) (h : Pa w P T a d) (hd : d < 16) (hl : T.drop a = 123 :: r) :
  Calls Tryz.prog 102 #[.pointer (some ⟨P, 0, none⟩)] w fun e w' => Po (fun j val w' => JV w' (Nw w w') val j) T w P d (obF Vf r) e w' := by
 obtain ⟨S, hS⟩ : ∃ S, S = w.heap.size := ⟨_, rfl⟩
 obtain ⟨W0, hW0⟩ : ∃ W0, W0 = ((w.alloc (.cells #[.pointer (some ⟨P, 0, none⟩)] 131)).alloc (.cells #[.int .i64 0, .int .i64 0, .string ⟨#[]⟩, .slice none 0 0, .slice none 0 0] 44)).alloc (.cells #[.int .i64 5, .int .i64 0, .string ⟨#[]⟩, .slice none 0 0, .slice none 0 0] 44) := ⟨_, rfl⟩
 have hbW0 : Below w.heap.size w W0 := by rw [hW0]; exact below3 _ _ _ _
 have hsW0 : W0.heap.size = S + 3 := by rw [hW0, hS]; simp
 have hQ0 : W0.heap[S]? = some (.cells #[.pointer (some ⟨P, 0, none⟩)] 131 (0, 0)) := by
  rw [hW0, hS, heap_alloc_old _ _ (by simp; omega), heap_alloc_old _ _ (by simp)]; exact heap_alloc_new _ _
 have hR0 : W0.heap[S + 1]? = some (.cells #[.int .i64 0, .int .i64 0, .string ⟨#[]⟩, .slice none 0 0, .slice none 0 0] 44 (0, 0)) := by
  rw [hW0, hS, heap_alloc_old _ _ (by simp)]; exact heap_alloc2_new _ _ _
 have hV0 : W0.heap[S + 2]? = some (.cells #[.int .i64 5, .int .i64 0, .string ⟨#[]⟩, .slice none 0 0, .slice none 0 0] 44 (0, 0)) := by
  rw [hW0, hS]
  have e : w.heap.size + 2 = ((w.alloc (.cells #[.pointer (some ⟨P, 0, none⟩)] 131)).alloc (.cells #[.int .i64 0, .int .i64 0, .string ⟨#[]⟩, .slice none 0 0, .slice none 0 0] 44)).heap.size := by simp
  rw [e]; exact heap_alloc_new _ _
 obtain ⟨W, hW⟩ : ∃ W, W = (W0.alloc (.map #[] 0)).alloc (.cells #[.map (some (S + 3))] 162) := ⟨_, rfl⟩
 have hbW1 : Below W0.heap.size W0 W := by rw [hW]; exact below2 _ _ _
 have hbW : Below w.heap.size w W := hbW0.trans (hbW1.mono hbW0.size)
 have hsW : W.heap.size = S + 5 := by rw [hW]; simp; omega
 have hQ := (hbW1.block S (by omega)).trans hQ0
 have hR := (hbW1.block (S + 1) (by omega)).trans hR0
 have hVr := (hbW1.block (S + 2) (by omega)).trans hV0
 have hNr : W.heap[S + 4]? = some (.cells #[.map (some (S + 3))] 162 (0, 0)) := by
  rw [hW, show S + 4 = W0.heap.size + 1 by omega]; exact heap_alloc2_new _ _ _
 have hSN : SN W (S + 3) [] 0 := by
  have h1 := SN.made W0
  rw [hsW0] at h1
  refine h1.same ?_
  rw [hW, heap_alloc_old _ _ (by simp; omega)]
 have hPS : P < S := by rw [hS]; exact h.lt
 have hBv : Bv W (S + 2) (S + 5) 5 [] [] none 0 none 0 [] := ⟨hVr, World.ownsRow_nil W _ _ _, World.ownsRow_nil W _ _ _, fun m j hj => by simp at hj, by simp [blk], by simp [blk], fun k hk => by simp [blk] at hk⟩
 have hOb : ObS W P S [] [] 0 := ⟨hQ, hNr, hR, hSN, ⟨none, 0, none, 0, [], hBv⟩, by omega, hPS⟩
 have HMem : Hid (∀ (w : World) (a : Nat) (s : List (List UInt8) × List Js) (n : Nat), Pa w P T a (d + 1) → ObI P S w s n → S ≤ w.heap.size → n ≤ 65536 → Calls Tryz.prog 138 #[.pointer (some ⟨S, 0, none⟩), .pointer (some ⟨S + 4, 0, none⟩), .pointer (some ⟨S + 2, 0, none⟩)] w fun e w' => (∃ s' a', mbO Vf s (T.drop a) = .ok s' (T.drop a') ∧ e = .returned (.tuple #[]) ∧ Pa w' P T a' (d + 1) ∧ Lm w w' P (S + 2) S ∧ ObI P S w' s' (n + 1)) ∨ (∃ y a', mbO Vf s (T.drop a) = .no (T.drop a') y ∧ e = flt a' y ∧ a' ≤ T.length ∧ Lm w w' P (S + 2) S)) := by
  rintro w a ⟨ns, is⟩ n hp ⟨hi1, hi2, hi3⟩ hz hn
  simp only at hi1 hi2
  refine (object1_any P T (d + 1) Vf hV S a ns is n w hp hi3 (by omega) (by omega) (by omega)).mono ?_
  rintro e w' (⟨s', a', hM, rfl, hp', hlm, hb⟩ | ⟨y, a', hM, rfl, h2, h3⟩)
  ·refine .inl ⟨s', a', hM, rfl, hp', hlm, ?_, ?_, hb⟩
   ·unfold mbO at hM
    cases hx : mbM Vf (ns, is).1 (T.drop a) with
    | no r y => rw [hx] at hM; cases hM
    | ok nv r => rw [hx] at hM; simp only [Rs.ok.injEq] at hM; rw [← hM.1]; simp; omega
   ·unfold mbO at hM
    cases hx : mbM Vf (ns, is).1 (T.drop a) with
    | no r y => rw [hx] at hM; cases hM
    | ok nv r => rw [hx] at hM; simp only [Rs.ok.injEq] at hM; rw [← hM.1]; simp; omega
  ·exact .inr ⟨y, a', hM, rfl, h2, h3⟩
 have hIk : ∀ w w' s n, ObI P S w s n → S ≤ w.heap.size → Mv w w' P → ObI P S w' s n := fun w w' s n hi _ hm => ⟨hi.1, hi.2.1, hi.2.2.mv hm⟩
 have hlen : ∀ s l s' r, mbO Vf s l = .ok s' r → r.length ≤ l.length := by
  intro s l s' r hm
  unfold mbO at hm
  cases hx : mbM Vf s.1 l with
  | no r y => rw [hx] at hm; cases hm
  | ok nv r2 => rw [hx] at hm; simp only [Rs.ok.injEq] at hm; rw [← hm.2]; exact mb_len Vf hL _ _ _ _ hx
 have HME := hide (members_o P T d (S + 2) S S (S + 4) 125 (mbO Vf) (ObI P S) hIk (uh HMem) hlen a ([], []) 123 r W (h.below hbW) hd hl ⟨Nat.zero_le _, Nat.zero_le _, hOb⟩ (by omega))
 have hfun : (fun l => meL (mbO Vf) (l.length + 1) (([] : List (List UInt8)), ([] : List Js)) l) = (fun l => obL Vf (l.length + 1) [] [] l) := funext fun l => (ob_me Vf _ _ _ _).symm
 rw [hfun] at HME
 obtain ⟨R2, hR2⟩ : ∃ R2, R2 = obF Vf r := ⟨_, rfl⟩
 have HOK : Hid (∀ x r2, mmM 125 ([], []) (fun l => obL Vf (l.length + 1) [] [] l) r = .ok x r2 → R2 = .ok (.mk 5 0 [] x.1 x.2) r2) := fun x r2 hx => by rw [hR2]; exact obF_ok hx
 have HNO : Hid (∀ r2 y, mmM 125 ([], []) (fun l => obL Vf (l.length + 1) [] [] l) r = .no r2 y → R2 = .no r2 y) := fun r2 y hx => by rw [hR2]; exact obF_no hx
 rw [← hR2]
 have HR := hide hR
 have cQ : W.cell? ⟨S, 0, none⟩ = some (.pointer (some ⟨P, 0, none⟩)) := cq_of hQ
 have HbW := hide hbW
 have HS := hide hS
 have HsW := hide hsW
 have HPS := hide hPS
 have HsW0 := hide hsW0
 rw [show ((125 : UInt8).toNat : Int) = 125 from rfl] at HME
 have hmk : ∀ w : World, (Instr.makeMap 162 none).run Tryz.prog w = .ok (.map (some w.heap.size)) (w.alloc (.map #[] 0)) := fun w => by simp [Instr.makeMap, go_sem]
 clear hBv hOb HMem hIk hlen hfun hQ hR hVr hNr hSN hbW h hR2 hV hL hsW hPS hl hbW0 hbW1 hQ0 hR0 hV0 hsW0
 have hmf : ∀ (fn : Fn) (first cap : Array Value) (w : World), (Instr.makeFunc fn first cap).run Tryz.prog w = .ok (.func fn first cap) w := fun _ _ _ _ => rfl
 go_enter Tryz.func102, Tryz.ntmps102
 go_upto_region 2 with fail
 rw [← hW0, ← hS]
 clear hW0 hS
 go_upto_region 3 with fail
 rw [uh HsW0, ← hW]
 clear hW
 go_wp2_with fail
 refine (uh HME).mono ?_
 rintro e w5 (⟨s, a5, n, hM5, rfl, hP5, hL5, hI5⟩ | ⟨y, a5, hM5, rfl, h2, h3⟩)
 rotate_left 1
 ·refine ⟨rfl, Po.nay (uh HNO _ _ hM5) h2 ?_⟩
  exact ⟨h3.os.trans (uh HbW).os, h3.tape.trans (uh HbW).tape, h3.output.trans (uh HbW).output, Nat.le_trans (uh HbW).size h3.size, fun k hk hn => (h3.block k (by have := uh HS; omega) (fun e => hn (by rw [e])) (by have := uh HS; omega)).trans ((uh HbW).block k hk)⟩
 ·obtain ⟨_, _, hObs⟩ := hI5
  obtain ⟨a1, c1, a2, c2, xs, hB⟩ := hObs.bv
  have HM := hide hM5
  obtain ⟨ns, is⟩ := s
  simp only at hB
  have r5 := hB.row
  have g0 : w5.cell? ⟨S + 2, 0, none⟩ = some (.int .i64 5) := cR6 r5
  have g1 : w5.cell? ⟨S + 2, 1, none⟩ = some (.int .i64 0) := cR6 r5
  have g2 : w5.cell? ⟨S + 2, 2, none⟩ = some (.string ⟨#[]⟩) := cR6 r5
  have g3 : w5.cell? ⟨S + 2, 3, none⟩ = some (.slice a1 ns.length c1) := cR6 r5
  have g4 : w5.cell? ⟨S + 2, 4, none⟩ = some (.slice a2 is.length c2) := cR6 r5
  have R5 := hObs.r
  have q0 : w5.cell? ⟨S + 1, 0, none⟩ = some (.int .i64 0) := cR6 R5
  have q1 : w5.cell? ⟨S + 1, 1, none⟩ = some (.int .i64 0) := cR6 R5
  have q2 : w5.cell? ⟨S + 1, 2, none⟩ = some (.string ⟨#[]⟩) := cR6 R5
  have q3 : w5.cell? ⟨S + 1, 3, none⟩ = some (.slice none 0 0) := cR6 R5
  have q4 : w5.cell? ⟨S + 1, 4, none⟩ = some (.slice none 0 0) := cR6 R5
  have fz : ∀ j, w5.frozen? ⟨S + 1, j, none⟩ = false := fun j => frozen_of_row _ _ _ _ _ R5
  have f0 := fz 0
  have f1 := fz 1
  have f2 := fz 2
  have f3 := fz 3
  have f4 := fz 4
  obtain ⟨w6, h6⟩ : ∃ w6, w6 = ((((w5.setCell ⟨S + 1, 0, none⟩ (.int .i64 5)).setCell ⟨S + 1, 1, none⟩ (.int .i64 0)).setCell ⟨S + 1, 2, none⟩ (.string ⟨#[]⟩)).setCell ⟨S + 1, 3, none⟩ (.slice a1 ns.length c1)).setCell ⟨S + 1, 4, none⟩ (.slice a2 is.length c2) := ⟨_, rfl⟩
  have k6 : ∀ k, k ≠ S + 1 → w6.heap[k]? = w5.heap[k]? := fun k hk => by rw [h6]; exact far5 w5 (S + 1) k _ _ _ _ _ _ _ _ _ _ hk
  have z6 : w6.heap.size = w5.heap.size := by rw [h6]; exact siz5 w5 _ _ _ _ _ _ _ _ _ _ _
  have R6 : w6.heap[S + 1]? = some (.cells #[.int .i64 5, .int .i64 0, .string ⟨#[]⟩, .slice a1 ns.length c1, .slice a2 is.length c2] 44 (0, 0)) := by
   rw [h6]
   exact hS6 (hS6 (hS6 (hS6 (hS6 R5))))
  have t0 : w6.cell? ⟨S + 1, 0, none⟩ = some (.int .i64 5) := cR6 R6
  have t1 : w6.cell? ⟨S + 1, 1, none⟩ = some (.int .i64 0) := cR6 R6
  have t2 : w6.cell? ⟨S + 1, 2, none⟩ = some (.string ⟨#[]⟩) := cR6 R6
  have t3 : w6.cell? ⟨S + 1, 3, none⟩ = some (.slice a1 ns.length c1) := cR6 R6
  have t4 : w6.cell? ⟨S + 1, 4, none⟩ = some (.slice a2 is.length c2) := cR6 R6
  have HJ : Hid (JV w6 (Nw w w6) (.agg #[.int .i64 5, .int .i64 0, .string ⟨#[]⟩, .slice a1 ns.length c1, .slice a2 is.length c2]) (.mk 5 0 [] ns is)) := JV.keep (fun k hk => ⟨⟨by have := uh HS; omega, by omega⟩, k6 k (by omega)⟩) _ _ hB.done
  have hgp := hP5.gp
  have HP6 : Hid (Pa w6 P T a5 d) := { hP5 with row := (k6 P (by have := uh HPS; omega)).trans hP5.row, tb := hP5.tb.keep (fun k hk => k6 k (by have := uh HPS; rcases hk with rfl | rfl <;> omega)) }
  have HM6 : Hid (Mv w w6 P) := ⟨by rw [h6]; exact hL5.os.trans (uh HbW).os, by rw [h6]; exact hL5.tape.trans (uh HbW).tape, by rw [h6]; exact hL5.output.trans (uh HbW).output, by rw [z6]; exact Nat.le_trans (uh HbW).size hL5.size, fun k hk hn => (k6 k (by have := uh HS; omega)).trans ((hL5.block k (by have := uh HS; omega) (fun e => hn (by rw [e])) (by have := uh HS; omega)).trans ((uh HbW).block k hk))⟩
  have HOK2 : Hid (R2 = .ok (.mk 5 0 [] ns is) (T.drop a5)) := uh HOK _ _ (uh HM)
  clear hB r5 R5 fz k6 z6 R6 hP5 hL5 hM5 HME cQ HR hObs HM HOK HNO
  go_wp2_with fail
  rw [← h6]
  clear h6
  refine ⟨rfl, .agg #[.int .i64 5, .int .i64 0, .string ⟨#[]⟩, .slice a1 ns.length c1, .slice a2 is.length c2], by simp [results, Tryz.results102, go_sem, t0, t1, t2, t3, t4], ?_⟩
  exact Po.yes (uh HOK2) (uh HP6) (uh HM6) (uh HJ)
end Go.Proofs.YtmpjeahibfdehaaGreatDoor
end
section
set_option linter.unusedVariables false
set_option maxRecDepth 1000000
namespace Go.Proofs.YtmpjeahibfdehaaGreatDoor
open Go.RowKit

theorem oth5 (w : World) (g o0 o1 o2 o3 o4 : Nat) (v0 v1 v2 v3 v4 : Value) : (((((w.setCell ⟨g, o0, none⟩ v0).setCell ⟨g, o1, none⟩ v1).setCell ⟨g, o2, none⟩ v2).setCell ⟨g, o3, none⟩ v3).setCell ⟨g, o4, none⟩ v4).os = w.os ∧ (((((w.setCell ⟨g, o0, none⟩ v0).setCell ⟨g, o1, none⟩ v1).setCell ⟨g, o2, none⟩ v2).setCell ⟨g, o3, none⟩ v3).setCell ⟨g, o4, none⟩ v4).tape = w.tape ∧ (((((w.setCell ⟨g, o0, none⟩ v0).setCell ⟨g, o1, none⟩ v1).setCell ⟨g, o2, none⟩ v2).setCell ⟨g, o3, none⟩ v3).setCell ⟨g, o4, none⟩ v4).output = w.output := by
 have k := grownBy_setCell
 exact ⟨(k _ _ _).os.trans ((k _ _ _).os.trans ((k _ _ _).os.trans ((k _ _ _).os.trans (k _ _ _).os))), (k _ _ _).tape.trans ((k _ _ _).tape.trans ((k _ _ _).tape.trans ((k _ _ _).tape.trans (k _ _ _).tape))), (k _ _ _).output.trans ((k _ _ _).output.trans ((k _ _ _).output.trans ((k _ _ _).output.trans (k _ _ _).output)))⟩
/-- What the end of value leaves: its result, in its block. -/
theorem vret {w W w2 : World} {P R : Nat} {T : List UInt8} {a d : Nat} {v0 v1 v2 v3 v4 : Value} {j : Js} (hR : R = w.heap.size) (hW : W = w.alloc (.cells #[.int .i64 0, .int .i64 0, .string ⟨#[]⟩, .slice none 0 0, .slice none 0 0] 44)) (hP : Pa w2 P T a d) (hPR : P < R) (hm : Mv W w2 P) (hj : JV w2 (fun k => R < k ∧ k < w2.heap.size) (.agg #[v0, v1, v2, v3, v4]) j) :
  w2.heap[R]? = some (.cells #[.int .i64 0, .int .i64 0, .string ⟨#[]⟩, .slice none 0 0, .slice none 0 0] 44 (0, 0)) ∧ ∃ w3, w3 = ((((w2.setCell ⟨R, 0, none⟩ v0).setCell ⟨R, 1, none⟩ v1).setCell ⟨R, 2, none⟩ v2).setCell ⟨R, 3, none⟩ v3).setCell ⟨R, 4, none⟩ v4 ∧ w3.heap[R]? = some (.cells #[v0, v1, v2, v3, v4] 44 (0, 0)) ∧ JV w3 (Nw w w3) (.agg #[v0, v1, v2, v3, v4]) j ∧ Pa w3 P T a d ∧ Mv w w3 P := by
 have hbW : Below w.heap.size w W := by rw [hW]; exact bA _
 have hsW : W.heap.size = R + 1 := by rw [hW, hR]; simp
 have rW : W.heap[R]? = some (.cells #[.int .i64 0, .int .i64 0, .string ⟨#[]⟩, .slice none 0 0, .slice none 0 0] 44 (0, 0)) := by rw [hW, hR]; exact heap_alloc_new _ _
 have r2 := (hm.block R (by omega) (fun e => by have := Option.some.inj e; omega)).trans rW
 refine ⟨r2, _, rfl, hS6 (hS6 (hS6 (hS6 (hS6 r2)))), ?_, ?_, ?_⟩
 ·exact JV.keep (fun k hk => ⟨⟨by omega, by rw [siz5]; exact hk.2⟩, far5 w2 R k _ _ _ _ _ _ _ _ _ _ (by omega)⟩) _ _ hj
 ·have hg := hP.gp
  exact { hP with row := (far5 w2 R P _ _ _ _ _ _ _ _ _ _ (by omega)).trans hP.row, tb := hP.tb.keep (fun k hk => far5 w2 R k _ _ _ _ _ _ _ _ _ _ (by rcases hk with rfl | rfl <;> omega)) }
 ·obtain ⟨o1, o2, o3⟩ := oth5 w2 R 0 1 2 3 4 v0 v1 v2 v3 v4
  exact ⟨o1.trans (hm.os.trans hbW.os), o2.trans (hm.tape.trans hbW.tape), o3.trans (hm.output.trans hbW.output), by rw [siz5]; exact Nat.le_trans hbW.size hm.size, fun k hk hn => (far5 w2 R k _ _ _ _ _ _ _ _ _ _ (by omega)).trans ((hm.block k (by have := hbW.size; omega) hn).trans (hbW.block k hk))⟩
set_option maxHeartbeats 4000000 in
theorem list_deep (P : Nat) (T : List UInt8) (a : Nat) (w : World) (h : Pa w P T a 16) :
  Calls Tryz.prog 103 #[.pointer (some ⟨P, 0, none⟩)] w fun e w' => e = flt a 41 ∧ Hid (Below w.heap.size w w') := by
 obtain ⟨S, hS⟩ : ∃ S, S = w.heap.size := ⟨_, rfl⟩
 obtain ⟨W0, hW0⟩ : ∃ W0, W0 = ((w.alloc (.cells #[.pointer (some ⟨P, 0, none⟩)] 131)).alloc (.cells #[.int .i64 0, .int .i64 0, .string ⟨#[]⟩, .slice none 0 0, .slice none 0 0] 44)).alloc (.cells #[.int .i64 4, .int .i64 0, .string ⟨#[]⟩, .slice none 0 0, .slice none 0 0] 44) := ⟨_, rfl⟩
 have hbW0 : Below w.heap.size w W0 := by rw [hW0]; exact below3 _ _ _ _
 have hsW0 : W0.heap.size = S + 3 := by rw [hW0, hS]; simp
 have hQ0 : W0.heap[S]? = some (.cells #[.pointer (some ⟨P, 0, none⟩)] 131 (0, 0)) := by
  rw [hW0, hS, heap_alloc_old _ _ (by simp; omega), heap_alloc_old _ _ (by simp)]; exact heap_alloc_new _ _
 have cQ := cq_of hQ0
 have HD := fun x FV => hide (members_deep P T a x FV W0 (h.below hbW0))
 have HB := hide hbW0
 clear h hbW0 hQ0 hsW0
 have hmf : ∀ (fn : Fn) (first cap : Array Value) (w : World), (Instr.makeFunc fn first cap).run Tryz.prog w = .ok (.func fn first cap) w := fun _ _ _ _ => rfl
 go_enter Tryz.func103, Tryz.ntmps103
 go_upto_region 2 with fail
 rw [← hW0, ← hS]
 clear hW0 hS
 go_wp2_with fail
 refine (uh (HD _ _)).mono ?_
 rintro e w5 ⟨rfl, hw5⟩
 subst hw5
 exact ⟨rfl, rfl, HB⟩
set_option maxHeartbeats 4000000 in
theorem object_deep (P : Nat) (T : List UInt8) (a : Nat) (w : World) (h : Pa w P T a 16) :
  Calls Tryz.prog 102 #[.pointer (some ⟨P, 0, none⟩)] w fun e w' => e = flt a 41 ∧ Hid (Below w.heap.size w w') := by
 obtain ⟨S, hS⟩ : ∃ S, S = w.heap.size := ⟨_, rfl⟩
 obtain ⟨W0, hW0⟩ : ∃ W0, W0 = ((w.alloc (.cells #[.pointer (some ⟨P, 0, none⟩)] 131)).alloc (.cells #[.int .i64 0, .int .i64 0, .string ⟨#[]⟩, .slice none 0 0, .slice none 0 0] 44)).alloc (.cells #[.int .i64 5, .int .i64 0, .string ⟨#[]⟩, .slice none 0 0, .slice none 0 0] 44) := ⟨_, rfl⟩
 have hbW0 : Below w.heap.size w W0 := by rw [hW0]; exact below3 _ _ _ _
 have hsW0 : W0.heap.size = S + 3 := by rw [hW0, hS]; simp
 have hQ0 : W0.heap[S]? = some (.cells #[.pointer (some ⟨P, 0, none⟩)] 131 (0, 0)) := by
  rw [hW0, hS, heap_alloc_old _ _ (by simp; omega), heap_alloc_old _ _ (by simp)]; exact heap_alloc_new _ _
 obtain ⟨W, hW⟩ : ∃ W, W = (W0.alloc (.map #[] 0)).alloc (.cells #[.map (some (S + 3))] 162) := ⟨_, rfl⟩
 have hbW1 : Below W0.heap.size W0 W := by rw [hW]; exact below2 _ _ _
 have hbW : Below w.heap.size w W := hbW0.trans (hbW1.mono hbW0.size)
 have cQ := cq_of ((hbW1.block S (by omega)).trans hQ0)
 have HD := fun x FV => hide (members_deep P T a x FV W (h.below hbW))
 have HB := hide hbW
 have HsW0 := hide hsW0
 have hmk : ∀ w : World, (Instr.makeMap 162 none).run Tryz.prog w = .ok (.map (some w.heap.size)) (w.alloc (.map #[] 0)) := fun w => by simp [Instr.makeMap, go_sem]
 clear h hbW0 hQ0 hsW0 hbW1 hbW
 have hmf : ∀ (fn : Fn) (first cap : Array Value) (w : World), (Instr.makeFunc fn first cap).run Tryz.prog w = .ok (.func fn first cap) w := fun _ _ _ _ => rfl
 go_enter Tryz.func102, Tryz.ntmps102
 go_upto_region 2 with fail
 rw [← hW0, ← hS]
 clear hW0 hS
 go_upto_region 3 with fail
 rw [uh HsW0, ← hW]
 clear hW
 go_wp2_with fail
 refine (uh (HD _ _)).mono ?_
 rintro e w5 ⟨rfl, hw5⟩
 subst hw5
 exact ⟨rfl, rfl, HB⟩
set_option maxHeartbeats 16000000 in
theorem value_step (P : Nat) (T : List UInt8) (d : Nat) (V : Option (List UInt8 → Rs Js)) (hVn : V = none → d = 16) (hVs : ∀ Vf, V = some Vf → d < 16 ∧ VaC P T (d + 1) Vf ∧ VaL Vf) : VaC P T d (vaF V) := by
 intro a w h
 obtain ⟨R, hR⟩ : ∃ R, R = w.heap.size := ⟨_, rfl⟩
 obtain ⟨W, hW⟩ : ∃ W, W = w.alloc (.cells #[.int .i64 0, .int .i64 0, .string ⟨#[]⟩, .slice none 0 0, .slice none 0 0] 44) := ⟨_, rfl⟩
 have hbW : Below w.heap.size w W := by rw [hW]; exact bA _
 have HSW : Hid (W.heap.size = R + 1) := by show _ = _; rw [hW, hR]; simp
 have hPR : P < R := by rw [hR]; exact h.lt
 have hN := next_any P T a d W (h.below hbW)
 have HMW : Hid (Mv w W P) := Mv.ofB hbW
 have hle := h.le
 have hbig := h.big
 obtain ⟨RES, hRES⟩ : ∃ RES, RES = vaF V (T.drop a) := ⟨_, rfl⟩
 rw [← hRES]
 have HRES := hide hRES
 have HR := hide hR
 have HWW := hide hW
 clear h hbW hRES hR hW
 cases hl : T.drop a with
 | nil =>
  rw [hl, show nxI [] = -1 from rfl] at hN
  have HN := hide hN
  have HE : Hid (RES = .no (T.drop a) 40) := by show _ = _; rw [uh HRES, hl]; rfl
  clear hN
  go_enter Tryz.func74, Tryz.ntmps74
  go_upto_region 1 with fail
  rw [← uh HWW, ← uh HR]
  go_wp2_with fail
  refine (uh HN).mono ?_
  rintro e w1 ⟨rfl, HP1, HB1⟩
  have HM1 : Hid (Mv W w1 P) := Mv.ofB (uh HB1)
  have hsz1 : R + 1 ≤ w1.heap.size := by have := (uh HB1).size; have := uh HSW; omega
  clear HN HB1
  have HI := hide (isDigit4 (-1) w1)
  rw [show dgI (-1) = false from rfl] at HI
  go_wp2_with fail
  refine (uh HI).mono ?_
  rintro e w1' ⟨rfl, hw1⟩
  subst hw1
  have HG := hide (giveUp_any P T a d 40 w1' (uh HP1))
  clear HI
  go_wp2_with fail
  refine (uh HG).mono ?_
  rintro e w5 ⟨rfl, hw5⟩
  subst hw5
  exact ⟨rfl, Po.nay (uh HE) hle ((uh HMW).trans (uh HM1))⟩
 | cons c r =>
  rw [hl, show nxI (c :: r) = (c.toNat : Int) from rfl] at hN
  have HN := hide hN
  have hc256 := c.toNat_lt
  clear hN
  by_cases h123 : c = 123
  ·subst h123
   rw [show (((123 : UInt8).toNat : Nat) : Int) = 123 from rfl] at HN
   go_enter Tryz.func74, Tryz.ntmps74
   go_upto_region 1 with fail
   rw [← uh HWW, ← uh HR]
   go_wp2_with fail
   refine (uh HN).mono ?_
   rintro e w1 ⟨rfl, HP1, HB1⟩
   have HM1 : Hid (Mv W w1 P) := Mv.ofB (uh HB1)
   have hsz1 : R + 1 ≤ w1.heap.size := by have := (uh HB1).size; have := uh HSW; omega
   clear HN HB1
   cases V with
   | none =>
    have hd16 := hVn rfl
    subst hd16
    have HE : Hid (RES = .no (T.drop a) 41) := by show _ = _; rw [uh HRES, hl]; rfl
    have HC := hide (object_deep P T a w1 (uh HP1))
    go_wp2_with fail
    refine (uh HC).mono ?_
    rintro e w2 ⟨rfl, HB2⟩
    exact ⟨rfl, Po.nay (uh HE) hle ((uh HMW).trans ((uh HM1).trans (Mv.ofB (uh HB2))))⟩
   | some Vf =>
    obtain ⟨hd, hV, hL⟩ := hVs Vf rfl
    have HE : Hid (RES = obF Vf r) := by show _ = _; rw [uh HRES, hl]; rfl
    have HC := hide (object_any P T d Vf hV hL a r w1 (uh HP1) hd hl)
    clear hV hL
    go_wp2_with fail
    refine (uh HC).mono ?_
    rintro e w2 (⟨j, val, a2, hM2, rfl, hP2, hMv2, hJ2⟩ | ⟨y, a2, hM2, rfl, h2, h3⟩)
    rotate_left 1
    ·exact ⟨rfl, Po.nay (by rw [uh HE, hM2]) h2 ((uh HMW).trans ((uh HM1).trans h3))⟩
    obtain ⟨jk, jn, jt, ja1, jn1, jc1, ja2, jn2, jc2, rfl⟩ := hJ2.form
    have HEF := hide ((uh HE).trans hM2)
    obtain ⟨r2, w9, h9, r9, HJ9, HP9, HM9⟩ := vret (uh HR) (uh HWW) hP2 hPR ((uh HM1).trans hMv2) (JV.keep (fun k hk => ⟨⟨by have := hk.1; omega, hk.2⟩, rfl⟩) _ _ hJ2)
    have q0 := cell_of_row w2 R 0 _ _ _ r2
    have q1 := cell_of_row w2 R 1 _ _ _ r2
    have q2 := cell_of_row w2 R 2 _ _ _ r2
    have q3 := cell_of_row w2 R 3 _ _ _ r2
    have q4 := cell_of_row w2 R 4 _ _ _ r2
    simp only [xq1, xq3, List.getElem?_cons_succ] at q0 q1 q2 q3 q4
    have fz : ∀ j, w2.frozen? ⟨R, j, none⟩ = false := fun j => frozen_of_row _ _ _ _ _ r2
    have f0 := fz 0
    have f1 := fz 1
    have f2 := fz 2
    have f3 := fz 3
    have f4 := fz 4
    have t0 := cell_of_row w9 R 0 _ _ _ r9
    have t1 := cell_of_row w9 R 1 _ _ _ r9
    have t2 := cell_of_row w9 R 2 _ _ _ r9
    have t3 := cell_of_row w9 R 3 _ _ _ r9
    have t4 := cell_of_row w9 R 4 _ _ _ r9
    simp only [xq1, xq3, List.getElem?_cons_succ] at t0 t1 t2 t3 t4
    have HJ := hide HJ9
    have HP := hide HP9
    have HM := hide HM9
    clear r2 r9 fz HJ9 HP9 HM9
    go_wp2_with fail
    rw [← h9]
    clear h9
    refine ⟨rfl, _, by simp [results, Tryz.results74, go_sem, t0, t1, t2, t3, t4]; rfl, ?_⟩
    exact Po.yes (uh HEF) (uh HP) (uh HM) (uh HJ)

  by_cases h91 : c = 91
  ·subst h91
   rw [show (((91 : UInt8).toNat : Nat) : Int) = 91 from rfl] at HN
   go_enter Tryz.func74, Tryz.ntmps74
   go_upto_region 1 with fail
   rw [← uh HWW, ← uh HR]
   go_wp2_with fail
   refine (uh HN).mono ?_
   rintro e w1 ⟨rfl, HP1, HB1⟩
   have HM1 : Hid (Mv W w1 P) := Mv.ofB (uh HB1)
   have hsz1 : R + 1 ≤ w1.heap.size := by have := (uh HB1).size; have := uh HSW; omega
   clear HN HB1
   cases V with
   | none =>
    have hd16 := hVn rfl
    subst hd16
    have HE : Hid (RES = .no (T.drop a) 41) := by show _ = _; rw [uh HRES, hl]; rfl
    have HC := hide (list_deep P T a w1 (uh HP1))
    go_wp2_with fail
    refine (uh HC).mono ?_
    rintro e w2 ⟨rfl, HB2⟩
    exact ⟨rfl, Po.nay (uh HE) hle ((uh HMW).trans ((uh HM1).trans (Mv.ofB (uh HB2))))⟩
   | some Vf =>
    obtain ⟨hd, hV, hL⟩ := hVs Vf rfl
    have HE : Hid (RES = liF Vf r) := by show _ = _; rw [uh HRES, hl]; rfl
    have HC := hide (list_any P T d Vf hV hL a r w1 (uh HP1) hd hl)
    clear hV hL
    go_wp2_with fail
    refine (uh HC).mono ?_
    rintro e w2 (⟨j, val, a2, hM2, rfl, hP2, hMv2, hJ2⟩ | ⟨y, a2, hM2, rfl, h2, h3⟩)
    rotate_left 1
    ·exact ⟨rfl, Po.nay (by rw [uh HE, hM2]) h2 ((uh HMW).trans ((uh HM1).trans h3))⟩
    obtain ⟨jk, jn, jt, ja1, jn1, jc1, ja2, jn2, jc2, rfl⟩ := hJ2.form
    have HEF := hide ((uh HE).trans hM2)
    obtain ⟨r2, w9, h9, r9, HJ9, HP9, HM9⟩ := vret (uh HR) (uh HWW) hP2 hPR ((uh HM1).trans hMv2) (JV.keep (fun k hk => ⟨⟨by have := hk.1; omega, hk.2⟩, rfl⟩) _ _ hJ2)
    have q0 := cell_of_row w2 R 0 _ _ _ r2
    have q1 := cell_of_row w2 R 1 _ _ _ r2
    have q2 := cell_of_row w2 R 2 _ _ _ r2
    have q3 := cell_of_row w2 R 3 _ _ _ r2
    have q4 := cell_of_row w2 R 4 _ _ _ r2
    simp only [xq1, xq3, List.getElem?_cons_succ] at q0 q1 q2 q3 q4
    have fz : ∀ j, w2.frozen? ⟨R, j, none⟩ = false := fun j => frozen_of_row _ _ _ _ _ r2
    have f0 := fz 0
    have f1 := fz 1
    have f2 := fz 2
    have f3 := fz 3
    have f4 := fz 4
    have t0 := cell_of_row w9 R 0 _ _ _ r9
    have t1 := cell_of_row w9 R 1 _ _ _ r9
    have t2 := cell_of_row w9 R 2 _ _ _ r9
    have t3 := cell_of_row w9 R 3 _ _ _ r9
    have t4 := cell_of_row w9 R 4 _ _ _ r9
    simp only [xq1, xq3, List.getElem?_cons_succ] at t0 t1 t2 t3 t4
    have HJ := hide HJ9
    have HP := hide HP9
    have HM := hide HM9
    clear r2 r9 fz HJ9 HP9 HM9
    go_wp2_with fail
    rw [← h9]
    clear h9
    refine ⟨rfl, _, by simp [results, Tryz.results74, go_sem, t0, t1, t2, t3, t4]; rfl, ?_⟩
    exact Po.yes (uh HEF) (uh HP) (uh HM) (uh HJ)

  by_cases h34 : c = 34
  ·subst h34
   rw [show (((34 : UInt8).toNat : Nat) : Int) = 34 from rfl] at HN
   have HE : Hid (RES = match uqM (T.drop a) with | .no r2 y => .no r2 y | .ok t r2 => match tkM 34 r2 with | .no r3 y => .no r3 y | .ok _ r3 => .ok (.mk 3 0 t [] []) r3) := by show _ = _; rw [uh HRES, hl]; rfl
   go_enter Tryz.func74, Tryz.ntmps74
   go_upto_region 1 with fail
   rw [← uh HWW, ← uh HR]
   go_wp2_with fail
   refine (uh HN).mono ?_
   rintro e w1 ⟨rfl, HP1, HB1⟩
   have HM1 : Hid (Mv W w1 P) := Mv.ofB (uh HB1)
   have hsz1 : R + 1 ≤ w1.heap.size := by have := (uh HB1).size; have := uh HSW; omega
   clear HN HB1
   have HC := hide (untilQuote_any P T a d w1 (uh HP1))
   go_wp2_with fail
   refine (uh HC).mono ?_
   rintro e w2 (⟨t, val, a2, hM2, rfl, hP2, hMv2, rfl⟩ | ⟨y, a2, hM2, rfl, h2, h3⟩)
   rotate_left 1
   ·rw [hM2] at HE
    exact ⟨rfl, Po.nay (uh HE) h2 ((uh HMW).trans ((uh HM1).trans h3))⟩
   rw [hM2] at HE
   simp only at HE
   have HC2 := hide (take_any P T a2 d 34 w2 hP2)
   rw [show (((34 : UInt8).toNat : Nat) : Int) = 34 from rfl] at HC2
   have HM2 : Hid (Mv W w2 P) := (uh HM1).trans hMv2
   clear HC hP2 hMv2 hM2
   go_wp2_with fail
   refine (uh HC2).mono ?_
   rintro e w3 (⟨u, val, a3, hM3, rfl, hP3, hMv3, hval⟩ | ⟨y, a3, hM3, rfl, h2, h3⟩)
   rotate_left 1
   ·rw [hM3] at HE
    exact ⟨rfl, Po.nay (uh HE) h2 ((uh HMW).trans ((uh HM2).trans h3))⟩
   obtain rfl : val = .tuple #[] := hval
   rw [hM3] at HE
   simp only at HE
   clear hM3 HC2
   obtain ⟨r2, w9, h9, r9, HJ9, HP9, HM9⟩ := vret (uh HR) (uh HWW) hP3 hPR ((uh HM2).trans hMv3) (JV.flat w3 _ 3 0 t)
   have q0 := cell_of_row w3 R 0 _ _ _ r2
   have q1 := cell_of_row w3 R 1 _ _ _ r2
   have q2 := cell_of_row w3 R 2 _ _ _ r2
   have q3 := cell_of_row w3 R 3 _ _ _ r2
   have q4 := cell_of_row w3 R 4 _ _ _ r2
   simp only [xq1, xq3, List.getElem?_cons_succ] at q0 q1 q2 q3 q4
   have fz : ∀ j, w3.frozen? ⟨R, j, none⟩ = false := fun j => frozen_of_row _ _ _ _ _ r2
   have f0 := fz 0
   have f1 := fz 1
   have f2 := fz 2
   have f3 := fz 3
   have f4 := fz 4
   have t0 := cell_of_row w9 R 0 _ _ _ r9
   have t1 := cell_of_row w9 R 1 _ _ _ r9
   have t2 := cell_of_row w9 R 2 _ _ _ r9
   have t3 := cell_of_row w9 R 3 _ _ _ r9
   have t4 := cell_of_row w9 R 4 _ _ _ r9
   simp only [xq1, xq3, List.getElem?_cons_succ] at t0 t1 t2 t3 t4
   have HJ := hide HJ9
   have HP := hide HP9
   have HM := hide HM9
   clear r2 r9 fz HJ9 HP9 HM9
   go_wp2_with fail
   rw [← h9]
   clear h9
   refine ⟨rfl, _, by simp [results, Tryz.results74, go_sem, t0, t1, t2, t3, t4]; rfl, ?_⟩
   exact Po.yes (uh HE) (uh HP) (uh HM) (uh HJ)

  by_cases h45 : c = 45
  ·subst h45
   rw [show (((45 : UInt8).toNat : Nat) : Int) = 45 from rfl] at HN
   have HE : Hid (RES = match nuM (T.drop a) with | .no r2 y => .no r2 y | .ok n r2 => .ok (.mk 2 n [] [] []) r2) := by show _ = _; rw [uh HRES, hl]; unfold vaF; simp only; rfl
   go_enter Tryz.func74, Tryz.ntmps74
   go_upto_region 1 with fail
   rw [← uh HWW, ← uh HR]
   go_wp2_with fail
   refine (uh HN).mono ?_
   rintro e w1 ⟨rfl, HP1, HB1⟩
   have HM1 : Hid (Mv W w1 P) := Mv.ofB (uh HB1)
   have hsz1 : R + 1 ≤ w1.heap.size := by have := (uh HB1).size; have := uh HSW; omega
   clear HN HB1
   have HC := hide (number_any P T a d w1 (uh HP1))
   go_wp2_with fail
   refine (uh HC).mono ?_
   rintro e w2 (⟨n, val, a2, hM2, rfl, hP2, hMv2, hval⟩ | ⟨y, a2, hM2, rfl, h2, h3⟩)
   rotate_left 1
   ·rw [hM2] at HE
    exact ⟨rfl, Po.nay (uh HE) h2 ((uh HMW).trans ((uh HM1).trans h3))⟩
   obtain rfl : val = .int .i64 n := hval
   rw [hM2] at HE
   simp only at HE
   clear hM2 HC
   obtain ⟨r2, w9, h9, r9, HJ9, HP9, HM9⟩ := vret (uh HR) (uh HWW) hP2 hPR ((uh HM1).trans hMv2) (v2 := .string ⟨#[]⟩) (JV.flat w2 _ 2 n [])
   have q0 := cell_of_row w2 R 0 _ _ _ r2
   have q1 := cell_of_row w2 R 1 _ _ _ r2
   have q2 := cell_of_row w2 R 2 _ _ _ r2
   have q3 := cell_of_row w2 R 3 _ _ _ r2
   have q4 := cell_of_row w2 R 4 _ _ _ r2
   simp only [xq1, xq3, List.getElem?_cons_succ] at q0 q1 q2 q3 q4
   have fz : ∀ j, w2.frozen? ⟨R, j, none⟩ = false := fun j => frozen_of_row _ _ _ _ _ r2
   have f0 := fz 0
   have f1 := fz 1
   have f2 := fz 2
   have f3 := fz 3
   have f4 := fz 4
   have t0 := cell_of_row w9 R 0 _ _ _ r9
   have t1 := cell_of_row w9 R 1 _ _ _ r9
   have t2 := cell_of_row w9 R 2 _ _ _ r9
   have t3 := cell_of_row w9 R 3 _ _ _ r9
   have t4 := cell_of_row w9 R 4 _ _ _ r9
   simp only [xq1, xq3, List.getElem?_cons_succ] at t0 t1 t2 t3 t4
   have HJ := hide HJ9
   have HP := hide HP9
   have HM := hide HM9
   clear r2 r9 fz HJ9 HP9 HM9
   go_wp2_with fail
   rw [← h9]
   clear h9
   refine ⟨rfl, _, by simp [results, Tryz.results74, go_sem, t0, t1, t2, t3, t4]; rfl, ?_⟩
   exact Po.yes (uh HE) (uh HP) (uh HM) (uh HJ)

  by_cases h116 : c = 116
  ·subst h116
   rw [show (((116 : UInt8).toNat : Nat) : Int) = 116 from rfl] at HN
   have HE : Hid (RES = match wdM [116, 114, 117, 101] (T.drop a) with | .no r2 y => .no r2 y | .ok _ r2 => .ok (.mk 1 1 [] [] []) r2) := by show _ = _; rw [uh HRES, hl]; rfl
   go_enter Tryz.func74, Tryz.ntmps74
   go_upto_region 1 with fail
   rw [← uh HWW, ← uh HR]
   go_wp2_with fail
   refine (uh HN).mono ?_
   rintro e w1 ⟨rfl, HP1, HB1⟩
   have HM1 : Hid (Mv W w1 P) := Mv.ofB (uh HB1)
   have hsz1 : R + 1 ≤ w1.heap.size := by have := (uh HB1).size; have := uh HSW; omega
   clear HN HB1
   have HI := hide (isDigit4 116 w1)
   rw [show dgI 116 = false from rfl] at HI
   go_wp2_with fail
   refine (uh HI).mono ?_
   rintro e w1' ⟨rfl, hw1⟩
   subst hw1
   have HC := hide (word_any P T a d [116, 114, 117, 101] (by decide) w1' (uh HP1))
   rw [show str [116, 114, 117, 101] = ⟨#[116, 114, 117, 101]⟩ from rfl] at HC
   clear HI
   go_wp2_with fail
   refine (uh HC).mono ?_
   rintro e w2 (⟨u, val, a2, hM2, rfl, hP2, hMv2, hval⟩ | ⟨y, a2, hM2, rfl, h2, h3⟩)
   rotate_left 1
   ·rw [hM2] at HE
    exact ⟨rfl, Po.nay (uh HE) h2 ((uh HMW).trans ((uh HM1).trans h3))⟩
   obtain rfl : val = .tuple #[] := hval
   rw [hM2] at HE
   simp only at HE
   clear hM2
   obtain ⟨r2, w9, h9, r9, HJ9, HP9, HM9⟩ := vret (uh HR) (uh HWW) hP2 hPR ((uh HM1).trans hMv2) (v2 := .string ⟨#[]⟩) (JV.flat w2 _ 1 1 [])
   have q0 := cell_of_row w2 R 0 _ _ _ r2
   have q1 := cell_of_row w2 R 1 _ _ _ r2
   have q2 := cell_of_row w2 R 2 _ _ _ r2
   have q3 := cell_of_row w2 R 3 _ _ _ r2
   have q4 := cell_of_row w2 R 4 _ _ _ r2
   simp only [xq1, xq3, List.getElem?_cons_succ] at q0 q1 q2 q3 q4
   have fz : ∀ j, w2.frozen? ⟨R, j, none⟩ = false := fun j => frozen_of_row _ _ _ _ _ r2
   have f0 := fz 0
   have f1 := fz 1
   have f2 := fz 2
   have f3 := fz 3
   have f4 := fz 4
   have t0 := cell_of_row w9 R 0 _ _ _ r9
   have t1 := cell_of_row w9 R 1 _ _ _ r9
   have t2 := cell_of_row w9 R 2 _ _ _ r9
   have t3 := cell_of_row w9 R 3 _ _ _ r9
   have t4 := cell_of_row w9 R 4 _ _ _ r9
   simp only [xq1, xq3, List.getElem?_cons_succ] at t0 t1 t2 t3 t4
   have HJ := hide HJ9
   have HP := hide HP9
   have HM := hide HM9
   clear r2 r9 fz HJ9 HP9 HM9
   go_wp2_with fail
   rw [← h9]
   clear h9
   refine ⟨rfl, _, by simp [results, Tryz.results74, go_sem, t0, t1, t2, t3, t4]; rfl, ?_⟩
   exact Po.yes (uh HE) (uh HP) (uh HM) (uh HJ)

  by_cases h102 : c = 102
  ·subst h102
   rw [show (((102 : UInt8).toNat : Nat) : Int) = 102 from rfl] at HN
   have HE : Hid (RES = match wdM [102, 97, 108, 115, 101] (T.drop a) with | .no r2 y => .no r2 y | .ok _ r2 => .ok (.mk 1 0 [] [] []) r2) := by show _ = _; rw [uh HRES, hl]; rfl
   go_enter Tryz.func74, Tryz.ntmps74
   go_upto_region 1 with fail
   rw [← uh HWW, ← uh HR]
   go_wp2_with fail
   refine (uh HN).mono ?_
   rintro e w1 ⟨rfl, HP1, HB1⟩
   have HM1 : Hid (Mv W w1 P) := Mv.ofB (uh HB1)
   have hsz1 : R + 1 ≤ w1.heap.size := by have := (uh HB1).size; have := uh HSW; omega
   clear HN HB1
   have HI := hide (isDigit4 102 w1)
   rw [show dgI 102 = false from rfl] at HI
   go_wp2_with fail
   refine (uh HI).mono ?_
   rintro e w1' ⟨rfl, hw1⟩
   subst hw1
   have HC := hide (word_any P T a d [102, 97, 108, 115, 101] (by decide) w1' (uh HP1))
   rw [show str [102, 97, 108, 115, 101] = ⟨#[102, 97, 108, 115, 101]⟩ from rfl] at HC
   clear HI
   go_wp2_with fail
   refine (uh HC).mono ?_
   rintro e w2 (⟨u, val, a2, hM2, rfl, hP2, hMv2, hval⟩ | ⟨y, a2, hM2, rfl, h2, h3⟩)
   rotate_left 1
   ·rw [hM2] at HE
    exact ⟨rfl, Po.nay (uh HE) h2 ((uh HMW).trans ((uh HM1).trans h3))⟩
   obtain rfl : val = .tuple #[] := hval
   rw [hM2] at HE
   simp only at HE
   clear hM2
   obtain ⟨r2, w9, h9, r9, HJ9, HP9, HM9⟩ := vret (uh HR) (uh HWW) hP2 hPR ((uh HM1).trans hMv2) (v2 := .string ⟨#[]⟩) (JV.flat w2 _ 1 0 [])
   have q0 := cell_of_row w2 R 0 _ _ _ r2
   have q1 := cell_of_row w2 R 1 _ _ _ r2
   have q2 := cell_of_row w2 R 2 _ _ _ r2
   have q3 := cell_of_row w2 R 3 _ _ _ r2
   have q4 := cell_of_row w2 R 4 _ _ _ r2
   simp only [xq1, xq3, List.getElem?_cons_succ] at q0 q1 q2 q3 q4
   have fz : ∀ j, w2.frozen? ⟨R, j, none⟩ = false := fun j => frozen_of_row _ _ _ _ _ r2
   have f0 := fz 0
   have f1 := fz 1
   have f2 := fz 2
   have f3 := fz 3
   have f4 := fz 4
   have t0 := cell_of_row w9 R 0 _ _ _ r9
   have t1 := cell_of_row w9 R 1 _ _ _ r9
   have t2 := cell_of_row w9 R 2 _ _ _ r9
   have t3 := cell_of_row w9 R 3 _ _ _ r9
   have t4 := cell_of_row w9 R 4 _ _ _ r9
   simp only [xq1, xq3, List.getElem?_cons_succ] at t0 t1 t2 t3 t4
   have HJ := hide HJ9
   have HP := hide HP9
   have HM := hide HM9
   clear r2 r9 fz HJ9 HP9 HM9
   go_wp2_with fail
   rw [← h9]
   clear h9
   refine ⟨rfl, _, by simp [results, Tryz.results74, go_sem, t0, t1, t2, t3, t4]; rfl, ?_⟩
   exact Po.yes (uh HE) (uh HP) (uh HM) (uh HJ)

  by_cases h110 : c = 110
  ·subst h110
   rw [show (((110 : UInt8).toNat : Nat) : Int) = 110 from rfl] at HN
   have HE : Hid (RES = match wdM [110, 117, 108, 108] (T.drop a) with | .no r2 y => .no r2 y | .ok _ r2 => .ok (Js.nul) r2) := by show _ = _; rw [uh HRES, hl]; rfl
   go_enter Tryz.func74, Tryz.ntmps74
   go_upto_region 1 with fail
   rw [← uh HWW, ← uh HR]
   go_wp2_with fail
   refine (uh HN).mono ?_
   rintro e w1 ⟨rfl, HP1, HB1⟩
   have HM1 : Hid (Mv W w1 P) := Mv.ofB (uh HB1)
   have hsz1 : R + 1 ≤ w1.heap.size := by have := (uh HB1).size; have := uh HSW; omega
   clear HN HB1
   have HI := hide (isDigit4 110 w1)
   rw [show dgI 110 = false from rfl] at HI
   go_wp2_with fail
   refine (uh HI).mono ?_
   rintro e w1' ⟨rfl, hw1⟩
   subst hw1
   have HC := hide (word_any P T a d [110, 117, 108, 108] (by decide) w1' (uh HP1))
   rw [show str [110, 117, 108, 108] = ⟨#[110, 117, 108, 108]⟩ from rfl] at HC
   clear HI
   go_wp2_with fail
   refine (uh HC).mono ?_
   rintro e w2 (⟨u, val, a2, hM2, rfl, hP2, hMv2, hval⟩ | ⟨y, a2, hM2, rfl, h2, h3⟩)
   rotate_left 1
   ·rw [hM2] at HE
    exact ⟨rfl, Po.nay (uh HE) h2 ((uh HMW).trans ((uh HM1).trans h3))⟩
   obtain rfl : val = .tuple #[] := hval
   rw [hM2] at HE
   simp only at HE
   clear hM2
   obtain ⟨r2, w9, h9, r9, HJ9, HP9, HM9⟩ := vret (uh HR) (uh HWW) hP2 hPR ((uh HM1).trans hMv2) (v2 := .string ⟨#[]⟩) (JV.flat w2 _ 0 0 [])
   have q0 := cell_of_row w2 R 0 _ _ _ r2
   have q1 := cell_of_row w2 R 1 _ _ _ r2
   have q2 := cell_of_row w2 R 2 _ _ _ r2
   have q3 := cell_of_row w2 R 3 _ _ _ r2
   have q4 := cell_of_row w2 R 4 _ _ _ r2
   simp only [xq1, xq3, List.getElem?_cons_succ] at q0 q1 q2 q3 q4
   have fz : ∀ j, w2.frozen? ⟨R, j, none⟩ = false := fun j => frozen_of_row _ _ _ _ _ r2
   have f0 := fz 0
   have f1 := fz 1
   have f2 := fz 2
   have f3 := fz 3
   have f4 := fz 4
   have t0 := cell_of_row w9 R 0 _ _ _ r9
   have t1 := cell_of_row w9 R 1 _ _ _ r9
   have t2 := cell_of_row w9 R 2 _ _ _ r9
   have t3 := cell_of_row w9 R 3 _ _ _ r9
   have t4 := cell_of_row w9 R 4 _ _ _ r9
   simp only [xq1, xq3, List.getElem?_cons_succ] at t0 t1 t2 t3 t4
   have HJ := hide HJ9
   have HP := hide HP9
   have HM := hide HM9
   clear r2 r9 fz HJ9 HP9 HM9
   go_wp2_with fail
   rw [← h9]
   clear h9
   refine ⟨rfl, _, by simp [results, Tryz.results74, go_sem, t0, t1, t2, t3, t4]; rfl, ?_⟩
   exact Po.yes (uh HE) (uh HP) (uh HM) (uh HJ)

  have n123 : ¬ (c.toNat : Int) = 123 := fun e => h123 (UInt8.toNat_inj.1 (by show c.toNat = 123; omega))
  have n91 : ¬ (c.toNat : Int) = 91 := fun e => h91 (UInt8.toNat_inj.1 (by show c.toNat = 91; omega))
  have n34 : ¬ (c.toNat : Int) = 34 := fun e => h34 (UInt8.toNat_inj.1 (by show c.toNat = 34; omega))
  have n45 : ¬ (c.toNat : Int) = 45 := fun e => h45 (UInt8.toNat_inj.1 (by show c.toNat = 45; omega))
  have n116 : ¬ (c.toNat : Int) = 116 := fun e => h116 (UInt8.toNat_inj.1 (by show c.toNat = 116; omega))
  have n102 : ¬ (c.toNat : Int) = 102 := fun e => h102 (UInt8.toNat_inj.1 (by show c.toNat = 102; omega))
  have n110 : ¬ (c.toNat : Int) = 110 := fun e => h110 (UInt8.toNat_inj.1 (by show c.toNat = 110; omega))
  cases hdg : dgB4 c with
  | true =>
   have HE : Hid (RES = match nuM (T.drop a) with | .no r2 y => .no r2 y | .ok n r2 => .ok (.mk 2 n [] [] []) r2) := by show _ = _; rw [uh HRES, hl]; unfold vaF; simp only; rw [if_neg h123, if_neg h91, if_neg h34, if_pos (Or.inr hdg)]; rfl
   go_enter Tryz.func74, Tryz.ntmps74
   go_upto_region 1 with fail
   rw [← uh HWW, ← uh HR]
   go_wp2_with fail
   refine (uh HN).mono ?_
   rintro e w1 ⟨rfl, HP1, HB1⟩
   have HM1 : Hid (Mv W w1 P) := Mv.ofB (uh HB1)
   have hsz1 : R + 1 ≤ w1.heap.size := by have := (uh HB1).size; have := uh HSW; omega
   clear HN HB1
   have HI := hide (isDigit4 (c.toNat : Int) w1)
   rw [show dgI (c.toNat : Int) = dgB4 c from nx_dig c r, hdg] at HI
   go_wp2_with fail
   refine (uh HI).mono ?_
   rintro e w1' ⟨rfl, hw1⟩
   subst hw1
   have HC := hide (number_any P T a d w1' (uh HP1))
   clear HI
   go_wp2_with fail
   refine (uh HC).mono ?_
   rintro e w2 (⟨n, val, a2, hM2, rfl, hP2, hMv2, hval⟩ | ⟨y, a2, hM2, rfl, h2, h3⟩)
   rotate_left 1
   ·rw [hM2] at HE
    exact ⟨rfl, Po.nay (uh HE) h2 ((uh HMW).trans ((uh HM1).trans h3))⟩
   obtain rfl : val = .int .i64 n := hval
   rw [hM2] at HE
   simp only at HE
   clear hM2 HC
   obtain ⟨r2, w9, h9, r9, HJ9, HP9, HM9⟩ := vret (uh HR) (uh HWW) hP2 hPR ((uh HM1).trans hMv2) (v2 := .string ⟨#[]⟩) (JV.flat w2 _ 2 n [])
   have q0 := cell_of_row w2 R 0 _ _ _ r2
   have q1 := cell_of_row w2 R 1 _ _ _ r2
   have q2 := cell_of_row w2 R 2 _ _ _ r2
   have q3 := cell_of_row w2 R 3 _ _ _ r2
   have q4 := cell_of_row w2 R 4 _ _ _ r2
   simp only [xq1, xq3, List.getElem?_cons_succ] at q0 q1 q2 q3 q4
   have fz : ∀ j, w2.frozen? ⟨R, j, none⟩ = false := fun j => frozen_of_row _ _ _ _ _ r2
   have f0 := fz 0
   have f1 := fz 1
   have f2 := fz 2
   have f3 := fz 3
   have f4 := fz 4
   have t0 := cell_of_row w9 R 0 _ _ _ r9
   have t1 := cell_of_row w9 R 1 _ _ _ r9
   have t2 := cell_of_row w9 R 2 _ _ _ r9
   have t3 := cell_of_row w9 R 3 _ _ _ r9
   have t4 := cell_of_row w9 R 4 _ _ _ r9
   simp only [xq1, xq3, List.getElem?_cons_succ] at t0 t1 t2 t3 t4
   have HJ := hide HJ9
   have HP := hide HP9
   have HM := hide HM9
   clear r2 r9 fz HJ9 HP9 HM9
   go_wp2_with fail
   rw [← h9]
   clear h9
   refine ⟨rfl, _, by simp [results, Tryz.results74, go_sem, t0, t1, t2, t3, t4]; rfl, ?_⟩
   exact Po.yes (uh HE) (uh HP) (uh HM) (uh HJ)
  | false =>
   have HE : Hid (RES = .no (T.drop a) 40) := by
    show _ = _
    rw [uh HRES, hl]
    unfold vaF
    simp only
    rw [if_neg h123, if_neg h91, if_neg h34, if_neg (by simp [h45, hdg]), if_neg h116, if_neg h102, if_neg h110]
   go_enter Tryz.func74, Tryz.ntmps74
   go_upto_region 1 with fail
   rw [← uh HWW, ← uh HR]
   go_wp2_with fail
   refine (uh HN).mono ?_
   rintro e w1 ⟨rfl, HP1, HB1⟩
   have HM1 : Hid (Mv W w1 P) := Mv.ofB (uh HB1)
   have hsz1 : R + 1 ≤ w1.heap.size := by have := (uh HB1).size; have := uh HSW; omega
   clear HN HB1
   have HI := hide (isDigit4 (c.toNat : Int) w1)
   rw [show dgI (c.toNat : Int) = dgB4 c from nx_dig c r, hdg] at HI
   go_wp2_with fail
   refine (uh HI).mono ?_
   rintro e w1' ⟨rfl, hw1⟩
   subst hw1
   have HG := hide (giveUp_any P T a d 40 w1' (uh HP1))
   clear HI
   go_wp2_with fail
   refine (uh HG).mono ?_
   rintro e w5 ⟨rfl, hw5⟩
   subst hw5
   exact ⟨rfl, Po.nay (uh HE) hle ((uh HMW).trans (uh HM1))⟩
theorem tk_le (c : UInt8) (l r : List UInt8) (h : tkM c l = .ok () r) : r.length ≤ l.length := by rw [tk_len c l r h]; simp
theorem dg_len (m : Nat) : ∀ (l : List UInt8) (n k : Nat) (r : List UInt8), dgL m n l = .ok k r → r.length ≤ l.length
 | [], n, k, r, h => by simp only [dgL, Rs.ok.injEq] at h; rw [← h.2]; exact Nat.le_refl _
 | c :: l, n, k, r, h => by
  simp only [dgL] at h
  split at h
  ·split at h
   ·cases h
   ·have := dg_len m l _ _ _ h; simp; omega
  ·simp only [Rs.ok.injEq] at h; rw [← h.2]; exact Nat.le_refl _
theorem dgm_len (m : Nat) (l : List UInt8) (k : Nat) (r : List UInt8) (h : dgM m l = .ok k r) : r.length ≤ l.length := by
 unfold dgM at h
 split at h
 ·cases h
 ·rename_i c l
  split at h
  ·split at h
   ·simp only [Rs.ok.injEq] at h; rw [← h.2]; simp
   ·split at h
    ·cases h
    ·simp only [Rs.ok.injEq] at h; rw [← h.2]; simp
  ·split at h
   ·exact dg_len m _ _ _ _ h
   ·cases h
theorem nu_len (l : List UInt8) (k : Int) (r : List UInt8) (h : nuM l = .ok k r) : r.length ≤ l.length := by
 by_cases hn : nxI l = 45
 ·obtain ⟨r0, hr0⟩ : ∃ r0, l = 45 :: r0 := by
   cases l with
   | nil => simp [nxI] at hn
   | cons c r0 =>
    simp only [nxI] at hn
    exact ⟨r0, by rw [show c = 45 from UInt8.toNat_inj.1 (by show c.toNat = 45; omega)]⟩
  rw [nu_neg l r0 hr0] at h
  cases h1 : dgM 9223372036854775808 r0 with
  | no r y => rw [h1] at h; cases h
  | ok n r1 =>
   rw [h1] at h
   have := dgm_len _ _ _ _ h1
   simp only at h
   split at h
   ·cases h
   ·simp only [Rs.ok.injEq] at h; rw [← h.2, hr0]; simp; omega
 ·rw [nu_pos l hn] at h
  cases h1 : dgM 9223372036854775807 l with
  | no r y => rw [h1] at h; cases h
  | ok n r1 =>
   rw [h1] at h
   have := dgm_len _ _ _ _ h1
   simp only at h
   split at h
   ·cases h
   ·simp only [Rs.ok.injEq] at h; rw [← h.2]; exact this
theorem meT_len {σ : Type} (mb : σ → List UInt8 → Rs σ) (hlen : ∀ s l s' r, mb s l = .ok s' r → r.length ≤ l.length) : ∀ (f : Nat) (s : σ) (l : List UInt8) (s' : σ) (r : List UInt8), meL mb f s l = .ok s' r → r.length ≤ l.length
 | 0, s, l, s', r, h => by simp [meL] at h
 | f + 1, s, l, s', r, h => by
  rw [meL] at h
  cases h1 : mb s l with
  | no r y => rw [h1] at h; cases h
  | ok s1 r1 =>
   rw [h1] at h
   have e1 := hlen _ _ _ _ h1
   simp only at h
   have e2 := skB_le r1
   cases h2 : skB r1 with
   | nil => rw [h2] at h; simp only [Rs.ok.injEq] at h; rw [← h.2]; simp
   | cons c r2 =>
    rw [h2] at h e2
    simp only at h
    split at h
    ·have e3 := meT_len mb hlen f _ _ _ _ h
     have e4 := skB_le r2
     simp at e2
     omega
    ·simp only [Rs.ok.injEq] at h; rw [← h.2]; omega
theorem mm_len {α : Type} (cl : UInt8) (z : α) (L : List UInt8 → Rs α) (hL : ∀ l s r, L l = .ok s r → r.length ≤ l.length) (l : List UInt8) (s : α) (r : List UInt8) (h : mmM cl z L l = .ok s r) : r.length ≤ l.length := by
 rw [mm_cl] at h
 have key : ∀ m : Rs α, (∀ x r, m = .ok x r → r.length ≤ l.length) → clM cl m = .ok s r → r.length ≤ l.length := by
  intro m hm hc
  cases m with
  | no r y => cases hc
  | ok x r1 =>
   have e1 := hm x r1 rfl
   simp only [clM] at hc
   cases h2 : tkM cl r1 with
   | no r y => rw [h2] at hc; cases hc
   | ok u r2 =>
    rw [h2] at hc
    simp only [Rs.ok.injEq] at hc
    have := tk_le cl r1 r2 h2
    rw [← hc.2]; omega
 refine key _ ?_ h
 intro x r1 hx
 have e2 := skB_le l
 cases h2 : skB l with
 | nil => rw [h2] at hx; have := hL _ _ _ hx; simp at this; simp [this]
 | cons c r2 =>
  rw [h2] at hx e2
  simp only at hx
  split at hx
  ·simp only [Rs.ok.injEq] at hx; rw [← hx.2]; exact e2
  ·have := hL _ _ _ hx; omega
theorem va_step (V : Option (List UInt8 → Rs Js)) (hV : ∀ Vf, V = some Vf → VaL Vf) : VaL (vaF V) := by
 intro l v r h
 cases l with
 | nil => simp [vaF] at h
 | cons c l =>
  unfold vaF at h
  simp only at h
  split at h
  ·cases V with
   | none => cases h
   | some Vf =>
    simp only at h
    split at h
    ·cases h
    ·rename_i x r2 hx
     simp only [Rs.ok.injEq] at h
     rw [← h.2]
     have := mm_len _ _ _ (fun l s r hh => by rw [ob_me] at hh; exact meT_len _ (fun s l s' r hm => by
      unfold mbO at hm
      cases hy : mbM Vf s.1 l with
      | no r y => rw [hy] at hm; cases hm
      | ok nv r2 => rw [hy] at hm; simp only [Rs.ok.injEq] at hm; rw [← hm.2]; exact mb_len Vf (hV Vf rfl) _ _ _ _ hy) _ _ _ _ _ hh) _ _ _ hx
     simp; omega
  ·split at h
   ·cases V with
    | none => cases h
    | some Vf =>
     simp only at h
     split at h
     ·cases h
     ·rename_i x r2 hx
      simp only [Rs.ok.injEq] at h
      rw [← h.2]
      have := mm_len _ _ _ (fun l s r hh => by rw [li_me] at hh; exact meT_len _ (fun s l s' r hm => by
       unfold mbL at hm
       cases hy : Vf l with
       | no r y => rw [hy] at hm; cases hm
       | ok nv r2 => rw [hy] at hm; simp only [Rs.ok.injEq] at hm; rw [← hm.2]; exact hV Vf rfl _ _ _ hy) _ _ _ _ _ hh) _ _ _ hx
      simp; omega
   ·split at h
    ·split at h
     ·cases h
     ·rename_i t r2 hx
      have e1 := (uq_len _ _ _ hx).2
      split at h
      ·cases h
      ·rename_i u r3 hy
       simp only [Rs.ok.injEq] at h
       rw [← h.2]
       have := tk_le _ _ _ hy
       omega
    ·split at h
     ·split at h
      ·cases h
      ·rename_i n r2 hx
       simp only [Rs.ok.injEq] at h
       rw [← h.2]
       exact nu_len _ _ _ hx
     ·have wl : ∀ (u : List UInt8) (r2 : List UInt8), wdM u (c :: l) = .ok () r2 → r2.length ≤ (c :: l).length := fun u r2 hw => by rw [wd_len _ _ _ hw]; simp
      split at h
      ·split at h
       ·cases h
       ·rename_i u r2 hx; simp only [Rs.ok.injEq] at h; rw [← h.2]; exact wl _ _ hx
      ·split at h
       ·split at h
        ·cases h
        ·rename_i u r2 hx; simp only [Rs.ok.injEq] at h; rw [← h.2]; exact wl _ _ hx
       ·split at h
        ·split at h
         ·cases h
         ·rename_i u r2 hx; simp only [Rs.ok.injEq] at h; rw [← h.2]; exact wl _ _ hx
        ·cases h
theorem va_len : ∀ n, VaL (vaM n)
 | 0 => fun l v r h => va_step none (fun _ e => by cases e) l v r h
 | n + 1 => fun l v r h => va_step (some (vaM n)) (fun Vf e => by cases e; exact va_len n) l v r h
/-- A value is read. -/
theorem value_any (P : Nat) (T : List UInt8) : ∀ (n d : Nat), d + n = 16 → VaC P T d (vaM n)
 | 0, d, h => fun a w hp => value_step P T d none (fun _ => by omega) (fun _ e => by cases e) a w hp
 | n + 1, d, h => fun a w hp => value_step P T d (some (vaM n)) (fun e => by cases e) (fun Vf e => by cases e; exact ⟨by omega, value_any P T n (d + 1) (by omega), va_len n⟩) a w hp
end Go.Proofs.YtmpjeahibfdehaaGreatDoor
end
section
set_option linter.unusedVariables false
namespace Go.Proofs.YtmpjeahibfdehaaGreatDoor
open Go.RowKit

/-- What is left of a text, and of the same with b behind it. -/
def Tl (b l l' : List UInt8) : Prop := (l ≠ [] ∧ l' = l ++ b) ∨ (l = [] ∧ l' <:+ b)
def Bk (b : List UInt8) : Prop := ∀ c ∈ b, blB4 c = true
/-- What comes of both. -/
inductive Ou {α : Type} (b l : List UInt8) : Rs α → Rs α → Prop
 | ok (v : α) (r r' : List UInt8) : Tl b r r' → r <:+ l → Ou b l (.ok v r) (.ok v r')
 | no (r r' : List UInt8) (y : Nat) : Tl b r r' → r <:+ l → y ≠ 0 → Ou b l (.no r y) (.no r' y)
theorem Tl.cases {b l l' : List UInt8} (hb : Bk b) (h : Tl b l l') : (∃ c t, l = c :: t ∧ l' = c :: (t ++ b)) ∨ (l = [] ∧ l' = []) ∨ (∃ c r, l = [] ∧ l' = c :: r ∧ blB4 c = true ∧ Tl b [] (c :: r) ∧ Tl b [] r) := by
 rcases h with ⟨h1, h2⟩ | ⟨h1, h2⟩
 ·cases l with
  | nil => exact absurd rfl h1
  | cons c t => exact .inl ⟨c, t, rfl, h2⟩
 ·subst h1
  cases l' with
  | nil => exact .inr (.inl ⟨rfl, rfl⟩)
  | cons c r =>
   refine .inr (.inr ⟨c, r, rfl, rfl, hb c (h2.subset List.mem_cons_self), .inr ⟨rfl, h2⟩, .inr ⟨rfl, (List.suffix_cons c r).trans h2⟩⟩)
theorem Tl.bk {b l' : List UInt8} (hb : Bk b) (h : Tl b [] l') : Bk l' := by
 rcases h with ⟨h1, h2⟩ | ⟨_, h2⟩
 ·exact absurd rfl h1
 ·exact fun c hc => hb c (h2.subset hc)
theorem Ou.mono {α : Type} {b l m : List UInt8} {x x' : Rs α} (h : Ou b l x x') (s : l <:+ m) : Ou b m x x' := by
 cases h with
 | ok v r r' h1 h2 => exact .ok v r r' h1 (h2.trans s)
 | no r r' y h1 h2 h3 => exact .no r r' y h1 (h2.trans s) h3
end Go.Proofs.YtmpjeahibfdehaaGreatDoor
end
section
set_option linter.unusedVariables false
namespace Go.Proofs.YtmpjeahibfdehaaGreatDoor
open Go.RowKit

end Go.Proofs.YtmpjeahibfdehaaGreatDoor
end
section
set_option linter.unusedVariables false
set_option maxRecDepth 1000000
namespace Go.Proofs.YtmpjeahibfdehaaGreatDoor
open Go.RowKit

theorem owns_low {w : World} {base base' : Nat} {ty : TypeId} {z : Nat} {a : Option Addr} {cap n : Nat} {xs : List Value} (h : w.ownsRow base ty z (.slice a n cap) n xs) (hb : base' ≤ base) : w.ownsRow base' ty z (.slice a n cap) n xs := by
 refine ⟨h.1, ?_⟩
 rcases h.2 with hn | ⟨g, cap, cur, hv, hbb, rest⟩
 ·exact .inl hn
 ·exact .inr ⟨g, cap, cur, hv, Nat.le_trans hb hbb, rest⟩
theorem OwnT.nsf {w : World} {base : Nat} {a : Option Addr} {cap : Nat} {l : List (List UInt8)} (h : OwnT w base a cap l) {S : Nat → Prop} (hS : ∀ k, blk a = some k → S k) : NsF w S a l := by
 intro hne
 rcases owns_cases h with ⟨_, _, h3, _⟩ | ⟨g, cur, rfl, hb, hg, hle, hm, hs, ht, hl⟩
 ·exact absurd (List.eq_nil_of_length_eq_zero h3) hne
 ·refine ⟨g, 0, rfl, hS g rfl, fun i s hs => ?_⟩
  rw [Nat.zero_add]
  exact (owns_cell h i _ (nsv_get l i s hs)).1
theorem owns_cap {w : World} {base : Nat} {ty : TypeId} {z : Nat} {a : Option Addr} {cap n : Nat} {xs : List Value} (h : w.ownsRow base ty z (.slice a n cap) n xs) : n ≤ cap ∧ cap ≤ maxLen ∧ (a = none → cap = 0) := by
 rcases owns_cases h with ⟨h1, h2, h3, _⟩ | ⟨g, cur, h1, _, _, h4, h5, _⟩
 ·exact ⟨by omega, by unfold maxLen; omega, fun _ => h2⟩
 ·exact ⟨h4, h5, fun e => by rw [h1] at e; cases e⟩
/-- All that the world has. -/
def Al (w : World) : Nat → Prop := fun k => k < w.heap.size
theorem JV.al {w w' : World} {S : Nat → Prop} {v : Value} {j : Js} (h : JV w S v j) (hS : ∀ k, S k → k < w.heap.size) (hb : Below w.heap.size w w') : JV w' (Al w') v j :=
 JV.keep (fun k hk => ⟨Nat.lt_of_lt_of_le (hS k hk) hb.size, hb.block k (hS k hk)⟩) _ _ h
end Go.Proofs.YtmpjeahibfdehaaGreatDoor
end
