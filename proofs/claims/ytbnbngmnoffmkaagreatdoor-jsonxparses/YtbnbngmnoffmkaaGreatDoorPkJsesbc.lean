/-
  jsonx: the printer: values, lists, objects.; jsonx: the printer: objects.; jsonx: the printer: a value of any kind; Print.; jsonx: Print.; jsonx: the statements' awake.
-/
import Derived.Test.YtbnbngmnoffmkaaGreatDoorPkJsesba
import Derived.Test.YtbnbngmnoffmkaaGreatDoorPkJsesbb
import Derived.Lib.ConvBytes
import Derived.Test.YtbnbngmnoffmkaaGreatDoorPkJsesav
section
set_option linter.unusedVariables false
set_option maxRecDepth 1000000
namespace Go.Proofs.YtbnbngmnoffmkaaGreatDoor
open Go.RowKit

theorem P10.lt {w : World} (h : P10 w) : 1 < w.heap.size := by
 have hgn : Tryz.prog.globalNamed "internal/strconv.uint64pow10" = some 1 := by kernel_rfl
 unfold P10 Lib.TabIs World.var? at h
 rw [hgn] at h
 simp only [Option.bind_some] at h
 rcases Nat.lt_or_ge 1 w.heap.size with h' | h'
 ·exact h'
 ·rw [Array.getElem?_eq_none h'] at h; cases h
theorem P10.keep {w w' : World} (h : P10 w) (e : w'.heap[1]? = w.heap[1]?) : P10 w' := by
 have hgn : Tryz.prog.globalNamed "internal/strconv.uint64pow10" = some 1 := by kernel_rfl
 unfold P10 Lib.TabIs World.var? at h ⊢
 rw [hgn] at h ⊢
 simp only [Option.bind_some] at h ⊢
 rw [e]
 exact h
theorem P10.pk {w w' : World} {base b : Nat} (h : P10 w) (k : Pk w w' base b) (hg : 1 < base) (hb : base ≤ b) : P10 w' := h.keep (k.block _ h.lt (by omega) (.inl hg))
theorem Pr.lt {w : World} {base b : Nat} {l : List UInt8} (h : Pr w base b l) : b < w.heap.size := by
 obtain ⟨_, a, cap, hC, _⟩ := h
 exact hC.lt
theorem nB_of {w : World} {k : Nat} {cs : Array Value} {T : TypeId} {m : Nat × Nat} (h : w.heap[k]? = some (.cells cs T m)) (hT : T ≠ 5) : nB w k := by
 intro c e
 rw [h] at e
 simp only [Option.some.injEq, Obj.cells.injEq] at e
 exact hT e.2.1
theorem Pk.row {w w' : World} {base b k : Nat} {cs : Array Value} {T : TypeId} {m : Nat × Nat} (h : Pk w w' base b) (hr : w.heap[k]? = some (.cells cs T m)) (hT : T ≠ 5) (hk : k ≠ b) : w'.heap[k]? = some (.cells cs T m) :=
 (h.block k (Array.getElem?_eq_some_iff.1 hr).1 hk (.inr (nB_of hr hT))).trans hr
theorem Pr.drew {w : World} {base b : Nat} {l : List UInt8} (h : Pr w base b l) : Pr w.drew base b l := h
theorem Pk.drew {w w' : World} {base b : Nat} (h : Pk w.drew w' base b) : Pk w w' base b := ⟨h.os, h.tape, h.output, h.size, h.block⟩
theorem OrR.pk {w w' : World} {lo base b : Nat} {a : Option Addr} {o : List Nat} (h : OrR w lo a o) (k : Pk w w' base b) (hb : b < lo) : OrR w' lo a o := by
 intro hne
 obtain ⟨G, cur, h1, h2, h3, h4⟩ := h hne
 have e := k.row h3 (by decide) (by omega)
 refine ⟨G, cur, h1, h2, e, fun i q hq => ?_⟩
 rw [cell_of_row _ _ _ _ _ _ e, ← cell_of_row _ _ _ _ _ _ h3]
 exact h4 i q hq
/-- A value that Check takes is printed. -/
def PvC (n : Nat) : Prop := ∀ (j : Js) (S : Nat → Prop) (v : Value) (base b : Nat) (l : List UInt8) (w : World), ck n j = 0 → JV w S v j → (∀ k, S k → k < base) → Sz j → P10 w → 1 < base → Pr w base b l → base ≤ w.heap.size → l.length ≤ 70000000 →
 Calls Tryz.prog 25 #[.pointer (some ⟨b, 0, none⟩), v] w fun e w' => e = .returned (.tuple #[]) ∧ ∃ l', Hid (Pr w' base b l') ∧ Hid (Lk l' (l ++ prN n j)) ∧ Hid (l'.length ≤ max l.length 65536 + 100 * (n + 1)) ∧ Hid (Pk w w' base b)
set_option maxHeartbeats 8000000 in
theorem plist_any (n : Nat) (hrec : PvC n) (hn9 : n ≤ 16) (k i : Int) (t : List UInt8) (ns : List (List UInt8)) (is : List Js) (S : Nat → Prop) (v : Value) (base b : Nat) (l : List UInt8) (w : World) (hck : ∀ j ∈ is, ck n j = 0) (hJ : JV w S v (.mk k i t ns is)) (hS : ∀ k, S k → k < base) (hz : Sz (.mk k i t ns is)) (hP : P10 w) (hg : 1 < base) (hPr : Pr w base b l) (hb : base ≤ w.heap.size) (hl : l.length ≤ 70000000) :
  Calls Tryz.prog 54 #[.pointer (some ⟨b, 0, none⟩), v] w fun e w' => e = .returned (.tuple #[]) ∧ ∃ l', Hid (Pr w' base b l') ∧ Hid (Lk l' (l ++ ([91] ++ joF true (is.map (prN n)) ++ [93]))) ∧ Hid (l'.length ≤ max l.length 65536 + 100 * (n + 2)) ∧ Hid (Pk w w' base b) := by
 simp only [JV] at hJ
 obtain ⟨a1, c1, a2, c2, rfl, hN, hnc, _, _, hic, _, _, hIt⟩ := hJ
 simp only [Sz] at hz
 obtain ⟨hz1, hz2, hz3, hz4, hz5, hz6⟩ := hz
 obtain ⟨V, hV⟩ : ∃ V, V = w.heap.size := ⟨_, rfl⟩
 obtain ⟨W, hW⟩ : ∃ W, W = w.alloc (.cells #[.int .i64 k, .int .i64 i, .string (str t), .slice a1 ns.length c1, .slice a2 is.length c2] 25) := ⟨_, rfl⟩
 have bW : Below w.heap.size w W := by rw [hW]; exact (Below.refl _ _).alloc (Nat.le_refl _) _
 have sW : W.heap.size = V + 1 := by rw [hW, hV]; simp
 have rW : W.heap[V]? = some (.cells #[.int .i64 k, .int .i64 i, .string (str t), .slice a1 ns.length c1, .slice a2 is.length c2] 25 (0, 0)) := by rw [hW, hV]; exact heap_alloc_new _ _
 have hbV : b ≠ V := by have := hPr.lt; omega
 have HP1 := hide (put_any base b l [91] W (hPr.below bW) (by simp; omega) (by omega))
 have HKV : Hid (∀ u, Pk W u base b → u.heap[V]? = some (.cells #[.int .i64 k, .int .i64 i, .string (str t), .slice a1 ns.length c1, .slice a2 is.length c2] 25 (0, 0))) := fun u hu => hu.row rW (by decide) (fun e => hbV e.symm)
 have HbW := hide bW
 have HBS : Hid (base ≤ W.heap.size) := by show _ ≤ _; omega
 have HP := hide (hP.below bW)
 have HBB := hide hPr.1
 have HS := hide hS
 have HZ6 := hide hz6
 have HI : Hid (JVs W S a2 0 is) := JVs.keep (fun k hk => ⟨hk, bW.block k (by have := hS k hk; omega)⟩) _ _ _ hIt
 have HCKI := hide hck
 have HREC := hide hrec
 have HPk0 : Hid (Pk w W base b) := Pk.ofB bW
 obtain ⟨m, hm⟩ : ∃ m, m = is.length := ⟨_, rfl⟩
 have HM := hide hm
 have HF : Hid (joF true ((is.map (prN n)).take m) = joF true (is.map (prN n))) := by show _ = _; rw [List.take_of_length_le (by rw [List.length_map]; omega)]
 rw [← hm] at HKV
 rw [← hm]
 have hm9 : m ≤ 100000 := by omega
 obtain ⟨FIN, hFIN⟩ : ∃ FIN, FIN = l ++ ([91] ++ joF true (is.map (prN n)) ++ [93]) := ⟨_, rfl⟩
 rw [← hFIN]
 have HFIN := hide hFIN
 rw [← hm] at hW
 clear hN hIt hz6 hz5 bW sW rW hP hS hck hrec hm hFIN hPr
 go_enter Tryz.func54, Tryz.ntmps54
 go_upto_region 1 with fail
 rw [← hW, ← hV]
 clear hW hV
 go_wp2_with fail
 refine (unhide HP1).mono ?_
 rintro e w1 ⟨rfl, h1, h2⟩
 clear HP1
 go_wp2_with fail
 go_loopw [4] (fun v wr => ∃ (q : Nat) (acc : List UInt8), q ≤ m ∧ v = .int .i64 (q : Int) ∧ Hid (acc.length ≤ max l.length 65536 + 100 * (n + 1) + 10) ∧ Hid (Pr wr base b acc) ∧ Hid (Pk W wr base b) ∧ Hid (Lk acc (l ++ [91] ++ joF true ((is.map (prN n)).take q)))) (fun v _ => m - (intOf v).toNat)
 case atStart => exact ⟨0, _, Nat.zero_le _, rfl, by show _ ≤ _; simp; omega, h1, h2, by show Lk _ _; simp [joF]; exact Lk.refl _⟩
 case round =>
  clear h1 h2
  obtain ⟨q, acc, hq, rfl, HL, H1, H2, HLK⟩ := hrel
  obtain ⟨p0, p1, p2, p3, p4⟩ := cells5 (unhide HKV wr (unhide H2))
  have HBr : Hid (base ≤ wr.heap.size) := Nat.le_trans (unhide HBS) (unhide H2).size
  have hal : acc.length ≤ 80000000 := by have := unhide HL; omega
  by_cases hlt : q < m
  ·have hlt' : (q : Int) < (m : Int) := by omega
   have HFu := hide (full_any base b acc wr (unhide H1))
   by_cases hfl : 65536 < acc.length
   ·rw [decide_eq_true hfl] at HFu
    have HQ := hide (put_any base b acc [93] wr (unhide H1) (by simp; omega) (unhide HBr))
    have HE : Hid (Lk (acc ++ [93]) FIN) := by
     have h3 := Lk.full (z := l ++ [91] ++ joF true (is.map (prN n))) (unhide HLK) hfl (by have := joF_le (is.map (prN n)) q; simp only [List.length_append]; omega)
     have h4 := h3.app [93]
     show Lk _ _
     rw [unhide HFIN]
     simpa [List.append_assoc] using h4
    clear p0 p1 p2 p3
    go_wp2_with fail
    refine (unhide HFu).mono ?_
    rintro e w2 ⟨rfl, hw2⟩
    subst hw2
    clear HFu p4
    go_wp2_with fail
    refine (unhide HQ).mono ?_
    rintro e w3 ⟨rfl, h3, h4⟩
    clear HQ
    go_wp2_with fail
    go_end0
    refine ⟨rfl, _, h3, HE, ?_, hide ((unhide HPk0).trans ((unhide H2).trans (unhide h4)))⟩
    show _ ≤ _
    have := unhide HL
    simp; omega
   ·rw [decide_eq_false hfl] at HFu
    obtain ⟨jj, hjj⟩ : ∃ jj, is[q]? = some jj := ⟨_, List.getElem?_eq_getElem (by rw [← unhide HM]; exact hlt)⟩
    have HCo := hide (comma_any base b q acc wr (unhide H1) (by omega) (unhide HBr))
    have hel := (jvs_iff W S a2 is 0).1 (unhide HI) q jj hjj
    rw [Nat.zero_add] at hel
    have HEL := hide hel
    have HJJ := hide hjj
    obtain ⟨acc1, hacc1⟩ : ∃ acc1, acc1 = acc ++ (if q = 0 then [] else [44]) := ⟨_, rfl⟩
    rw [← hacc1] at HCo
    have hal1 : acc1.length ≤ 65537 := by rw [hacc1]; split <;> simp <;> omega
    have HAC := hide hacc1
    clear hel hjj hacc1 p0 p1 p2 p3
    go_wp2_with fail
    refine (unhide HFu).mono ?_
    rintro e w2 ⟨rfl, hw2⟩
    subst hw2
    clear HFu p4
    go_wp2_with fail
    refine (unhide HCo).mono ?_
    rintro e w3 ⟨rfl, h3, h4⟩
    clear HCo
    have HPk3 : Hid (Pk W w3 base b) := (unhide H2).trans (unhide h4)
    have hel3 := (unhide HEL).keep (w' := w3) (S' := S) (fun k hk => ⟨hk, (unhide HPk3).block k (by have := unhide HS k hk; have := unhide HBS; omega) (by have := unhide HS k hk; have := unhide HBB; omega) (.inl (unhide HS k hk))⟩)
    obtain ⟨bb, off, v0, v1, v2, v3, v4, rfl, hSb, g0, g1, g2, g3, g4, hj⟩ := hel3
    obtain ⟨jk, jn, jt, ja1, jn1, jc1, ja2, jn2, jc2, e⟩ := hj.form
    simp only [Value.agg.injEq, Array.mk.injEq, List.cons.injEq, and_true] at e
    obtain ⟨rfl, rfl, rfl, rfl, rfl⟩ := e
    obtain ⟨p0, p1, p2, p3, p4⟩ := cells5 (unhide HKV w3 (unhide HPk3))
    have hmem := List.mem_of_getElem? (unhide HJJ)
    have HV9 := hide (unhide HREC jj S _ base b acc1 w3 (unhide HCKI jj hmem) hj (unhide HS) ((szs_iff is).1 (unhide HZ6) jj hmem) ((unhide HP).pk (unhide HPk3) hg (unhide HBB)) hg (unhide h3) (Nat.le_trans (unhide HBS) (unhide HPk3).size) (by omega))
    clear hj hmem p0 p1 p2 p3 hSb
    go_wp2_with fail
    refine (unhide HV9).mono ?_
    rintro e w5 ⟨rfl, acc2, k1, k2, k3, k4⟩
    clear HV9 g0 g1 g2 g3 g4 p4
    have HPk5 : Hid (Pk W w5 base b) := (unhide HPk3).trans (unhide k4)
    have HLK5 : Hid (Lk acc2 (l ++ [91] ++ joF true ((is.map (prN n)).take (q + 1)))) := by
     show Lk _ _
     rw [joF_take (is.map (prN n)) q (prN n jj) (by rw [List.getElem?_map, unhide HJJ]; rfl)]
     have h5 := ((unhide HLK).app (if q = 0 then [] else [44])).app (prN n jj)
     rw [← unhide HAC] at h5
     have h6 := (unhide k2).trans h5
     simpa [List.append_assoc] using h6
    have HL5 : Hid (acc2.length ≤ max l.length 65536 + 100 * (n + 1) + 10) := by show _ ≤ _; have := unhide k3; omega
    clear k2 k3 k4
    go_wp2_with fail
    go_roundw
    case rel => exact ⟨q + 1, acc2, by omega, by go_num, HL5, k1, HPk5, HLK5⟩
    case measure => simp [intOf]; omega
  ·have hqm : q = m := by omega
   subst hqm
   have hlt' : ¬ (q : Int) < (q : Int) := by omega
   have HQ := hide (put_any base b acc [93] wr (unhide H1) (by simp; omega) (unhide HBr))
   have HE : Hid (Lk (acc ++ [93]) FIN) := by
    have h4 := (unhide HLK).app [93]
    rw [unhide HF] at h4
    show Lk _ _
    rw [unhide HFIN]
    simpa [List.append_assoc] using h4
   clear p0 p1 p2 p3
   go_wp2_with fail
   refine (unhide HQ).mono ?_
   rintro e w3 ⟨rfl, h3, h4⟩
   clear HQ p4
   go_wp2_with fail
   go_end0
   refine ⟨rfl, _, h3, HE, ?_, hide ((unhide HPk0).trans ((unhide H2).trans (unhide h4)))⟩
   show _ ≤ _
   have := unhide HL
   simp; omega
#print axioms plist_any
end Go.Proofs.YtbnbngmnoffmkaaGreatDoor
end
section
set_option linter.unusedVariables false
set_option maxRecDepth 1000000
namespace Go.Proofs.YtbnbngmnoffmkaaGreatDoor
open Go.RowKit

set_option maxHeartbeats 8000000 in
theorem pobj_any (n : Nat) (hrec : PvC n) (hn9 : n ≤ 16) (k i : Int) (t : List UInt8) (ns : List (List UInt8)) (is : List Js) (S : Nat → Prop) (v : Value) (base b : Nat) (l : List UInt8) (w : World) (hck : ∀ j ∈ is, ck n j = 0) (hnd : ns.Nodup) (hnl : ns.length = is.length) (hJ : JV w S v (.mk k i t ns is)) (hS : ∀ k, S k → k < base) (hz : Sz (.mk k i t ns is)) (hP : P10 w) (hg : 1 < base) (hPr : Pr w base b l) (hb : base ≤ w.heap.size) (hl : l.length ≤ 70000000) :
  Calls Tryz.prog 55 #[.pointer (some ⟨b, 0, none⟩), v] w fun e w' => e = .returned (.tuple #[]) ∧ ∃ l', Hid (Pr w' base b l') ∧ Hid (Lk l' (l ++ ([123] ++ joF true ((ordS ns).map (memP (prN n) ns is)) ++ [125]))) ∧ Hid (l'.length ≤ max l.length 65536 + 100 * (n + 2)) ∧ Hid (Pk w w' base b) := by
 simp only [JV] at hJ
 obtain ⟨a1, ca, a2, c2, rfl, hN, hnc, _, _, hic, _, _, hIt⟩ := hJ
 simp only [Sz] at hz
 obtain ⟨hz1, hz2, hz3, hz4, hz5, hz6⟩ := hz
 obtain ⟨V, hV⟩ : ∃ V, V = w.heap.size := ⟨_, rfl⟩
 obtain ⟨W, hW⟩ : ∃ W, W = w.alloc (.cells #[.int .i64 k, .int .i64 i, .string (str t), .slice a1 ns.length ca, .slice a2 is.length c2] 25) := ⟨_, rfl⟩
 have bW : Below w.heap.size w W := by rw [hW]; exact (Below.refl _ _).alloc (Nat.le_refl _) _
 have sW : W.heap.size = V + 1 := by rw [hW, hV]; simp
 have rW : W.heap[V]? = some (.cells #[.int .i64 k, .int .i64 i, .string (str t), .slice a1 ns.length ca, .slice a2 is.length c2] 25 (0, 0)) := by rw [hW, hV]; exact heap_alloc_new _ _
 have hbV : b ≠ V := by have := hPr.lt; omega
 have HP1 := hide (put_any base b l [123] W (hPr.below bW) (by simp; omega) (by omega))
 have HKV : Hid (∀ u, Pk W u base b → u.heap[V]? = some (.cells #[.int .i64 k, .int .i64 i, .string (str t), .slice a1 ns.length ca, .slice a2 is.length c2] 25 (0, 0))) := fun u hu => hu.row rW (by decide) (fun e => hbV e.symm)
 have HbW := hide bW
 have HBS : Hid (base ≤ W.heap.size) := by show _ ≤ _; omega
 have HP := hide (hP.below bW)
 have HBB := hide hPr.1
 have HBW : Hid (b < W.heap.size) := by show _ < _; have := hPr.lt; omega
 have HS := hide hS
 have HZ6 := hide hz6
 have HZ5 := hide hz5
 have HI : Hid (JVs W S a2 0 is) := JVs.keep (fun k hk => ⟨hk, bW.block k (by have := hS k hk; omega)⟩) _ _ _ hIt
 have HN : Hid (NsF W S a1 ns) := hN.keep (fun k hk => ⟨hk, bW.block k (by have := hS k hk; omega)⟩)
 have HCKI := hide hck
 have HREC := hide hrec
 have HPk0 : Hid (Pk w W base b) := Pk.ofB bW
 have HSK : Hid (∀ u, Pk W u base b → ∀ k, S k → S k ∧ u.heap[k]? = W.heap[k]?) := fun u hu k hk => ⟨hk, hu.block k (by have := hS k hk; omega) (by have := hS k hk; have := hPr.1; omega) (.inl (hS k hk))⟩
 obtain ⟨m, hm⟩ : ∃ m, m = is.length := ⟨_, rfl⟩
 have hmn : m = ns.length := by omega
 have HM := hide hm
 have HMN := hide hmn
 have HND := hide hnd
 obtain ⟨MS, hMS⟩ : ∃ MS, MS = (ordS ns).map (memP (prN n) ns is) := ⟨_, rfl⟩
 rw [← hMS]
 have HMS := hide hMS
 have HF : Hid (joF true (MS.take m) = joF true MS) := by show _ = _; rw [List.take_of_length_le (by rw [hMS, List.length_map, (ordS_ris ns).len]; omega)]
 rw [← hm, ← hmn] at HKV
 rw [← hm, ← hmn]
 have hm9 : m ≤ 100000 := by omega
 obtain ⟨FIN, hFIN⟩ : ∃ FIN, FIN = l ++ ([123] ++ joF true MS ++ [125]) := ⟨_, rfl⟩
 rw [← hFIN]
 have HFIN := hide hFIN
 rw [← hm, ← hmn] at hW
 clear hN hIt hz6 hz5 bW sW rW hP hS hck hrec hFIN hPr hMS hnd hm hmn hnl hnc hic
 go_enter Tryz.func55, Tryz.ntmps55
 go_upto_region 1 with fail
 rw [← hW, ← hV]
 clear hW hV
 go_wp2_with fail
 refine (unhide HP1).mono ?_
 rintro e w1 ⟨rfl, h1, h2⟩
 clear HP1
 obtain ⟨p0, p1, p2, p3, p4⟩ := cells5 (unhide HKV w1 (unhide h2))
 have HRI := hide (rising_any a1 ca ns S w1 ((unhide HN).keep (unhide HSK w1 (unhide h2))) (by omega))
 rw [← unhide HMN] at HRI
 clear p0 p1 p2 p4 hz3 hz4
 go_wp2_with fail
 refine (unhide HRI).mono ?_
 rintro e w2 ⟨hB2, ao, o, rfl, hO, hR⟩
 rw [← unhide HMN]
 have hoS : o = ordS ns := hO.eq (unhide HND) (ordS_ris ns)
 subst hoS
 have HPk2 : Hid (Pk W w2 base b) := (unhide h2).trans (Pk.ofB hB2)
 have HPr2 : Hid (Pr w2 base b (l ++ [123])) := (unhide h1).below hB2
 have HOR := hide hR
 have HLO : Hid (b < w1.heap.size) := by show _ < _; have := unhide HBW; have := (unhide h2).size; omega
 clear hB2 hO hR HRI h1 h2 p3
 go_wp2_with fail
 go_loopw [5] (fun v wr => ∃ (q : Nat) (acc : List UInt8), q ≤ m ∧ v = .int .i64 (q : Int) ∧ Hid (acc.length ≤ max l.length 65536 + 100 * (n + 1) + 20) ∧ Hid (Pr wr base b acc) ∧ Hid (Pk w2 wr base b) ∧ Hid (Lk acc (l ++ [123] ++ joF true (MS.take q)))) (fun v _ => m - (intOf v).toNat)
 case atStart => exact ⟨0, _, Nat.zero_le _, rfl, by show _ ≤ _; simp; omega, HPr2, hide (Pk.refl _ _ _), by show Lk _ _; simp [joF]; exact Lk.refl _⟩
 case round =>
  obtain ⟨q, acc, hq, rfl, HL, H1, H2, HLK⟩ := hrel
  have HPkr : Hid (Pk W wr base b) := (unhide HPk2).trans (unhide H2)
  have HBr : Hid (base ≤ wr.heap.size) := Nat.le_trans (unhide HBS) (unhide HPkr).size
  have hal : acc.length ≤ 80000000 := by have := unhide HL; omega
  by_cases hlt : q < m
  ·have hlt' : (q : Int) < (m : Int) := by omega
   have HFu := hide (full_any base b acc wr (unhide H1))
   by_cases hfl : 65536 < acc.length
   ·rw [decide_eq_true hfl] at HFu
    have HQ := hide (put_any base b acc [125] wr (unhide H1) (by simp; omega) (unhide HBr))
    have HE : Hid (Lk (acc ++ [125]) FIN) := by
     have h3 := Lk.full (z := l ++ [123] ++ joF true MS) (unhide HLK) hfl (by have := joF_le MS q; simp only [List.length_append]; omega)
     have h4 := h3.app [125]
     show Lk _ _
     rw [unhide HFIN]
     simpa [List.append_assoc] using h4
    go_wp2_with fail
    refine (unhide HFu).mono ?_
    rintro e w9 ⟨rfl, hw9⟩
    subst hw9
    clear HFu
    go_wp2_with fail
    refine (unhide HQ).mono ?_
    rintro e w3 ⟨rfl, h3, h4⟩
    clear HQ
    go_wp2_with fail
    go_end0
    refine ⟨rfl, _, h3, HE, ?_, hide ((unhide HPk0).trans ((unhide HPkr).trans (unhide h4)))⟩
    show _ ≤ _
    have := unhide HL
    simp; omega
   ·rw [decide_eq_false hfl] at HFu
    have hol : (ordS ns).length = m := by rw [(ordS_ris ns).len, unhide HMN]
    obtain ⟨p, hp⟩ : ∃ p, (ordS ns)[q]? = some p := ⟨_, List.getElem?_eq_getElem (by rw [hol]; exact hlt)⟩
    have hpm : p < m := by rw [unhide HMN]; exact (ordS_ris ns).lt p (List.mem_of_getElem? hp)
    have hpm' : (p : Int) < (m : Int) := by omega
    obtain ⟨jj, hjj⟩ : ∃ jj, is[p]? = some jj := ⟨_, List.getElem?_eq_getElem (by rw [← unhide HM]; exact hpm)⟩
    have HCo := hide (comma_any base b q acc wr (unhide H1) (by omega) (unhide HBr))
    have hel := (jvs_iff W S a2 is 0).1 (unhide HI) p jj hjj
    rw [Nat.zero_add] at hel
    have HEL := hide hel
    have HJJ := hide hjj
    obtain ⟨nm, hnm⟩ : ∃ nm, nm = nmA ns p := ⟨_, rfl⟩
    have hne : ns ≠ [] := fun e => by rw [unhide HMN, e] at hpm; simp at hpm
    have hone : ordS ns ≠ [] := fun e => by rw [e] at hp; simp at hp
    have hpn : p < ns.length := by rw [← unhide HMN]; exact hpm
    have hnmg : ns[p]? = some nm := by rw [hnm, nmA_get hpn, List.getElem?_eq_getElem]
    have HNL : Hid (nm.length ≤ 100000) := unhide HZ5 nm (List.mem_of_getElem? hnmg)
    have HMQ : Hid (MS[q]? = some (quo nm ++ [58] ++ prN n jj)) := by
     show _ = _
     rw [unhide HMS, List.getElem?_map, hp]
     simp only [Option.map_some, memP]
     rw [← hnm, List.getD_eq_getElem?_getD, hjj]
     rfl
    have HNG := hide hnmg
    have HPQ := hide hp
    have HNE := hide hne
    have HONE := hide hone
    obtain ⟨acc1, hacc1⟩ : ∃ acc1, acc1 = acc ++ (if q = 0 then [] else [44]) := ⟨_, rfl⟩
    rw [← hacc1] at HCo
    have hal1 : acc1.length ≤ 65537 := by rw [hacc1]; split <;> simp <;> omega
    have HAC := hide hacc1
    clear hel hjj hacc1 hol hp hpm hnm hne hone hpn hnmg
    go_wp2_with fail
    refine (unhide HFu).mono ?_
    rintro e w9 ⟨rfl, hw9⟩
    subst hw9
    clear HFu
    go_wp2_with fail
    refine (unhide HCo).mono ?_
    rintro e w3 ⟨rfl, h3, h4⟩
    clear HCo
    have HPk3 : Hid (Pk w2 w3 base b) := (unhide H2).trans (unhide h4)
    have HPkW3 : Hid (Pk W w3 base b) := (unhide HPk2).trans (unhide HPk3)
    obtain ⟨p0, p1, p2, p3, p4⟩ := cells5 (unhide HKV w3 (unhide HPkW3))
    obtain ⟨G, cur, rfl, hlo, hrow, hcell⟩ := ((unhide HOR).pk (unhide HPk3) (unhide HLO)) (unhide HONE)
    obtain ⟨B, ob, rfl, hSB, hBc⟩ := ((unhide HN).keep (unhide HSK w3 (unhide HPkW3))) (unhide HNE)
    have c1 : w3.cell? ⟨G, q, none⟩ = some (.int .i64 (p : Int)) := hcell q p (unhide HPQ)
    have c2 : w3.cell? ⟨B, ob + p, none⟩ = some (.string (str nm)) := hBc p nm (unhide HNG)
    have HQT := hide (quoted_any base b acc1 nm w3.drew (unhide h3).drew (by omega) (by have := unhide HNL; omega) (by show _ ≤ w3.heap.size; exact Nat.le_trans (unhide HBS) (unhide HPkW3).size))
    obtain ⟨acc3, hacc3⟩ : ∃ acc3, acc3 = qtL (acc1 ++ [34]) nm ++ [34] := ⟨_, rfl⟩
    have HLK3 : Hid (Lk acc3 (acc1 ++ quo nm)) := by show Lk _ _; rw [hacc3]; exact quo_lk acc1 nm
    have hal3 : acc3.length ≤ 65546 := by rw [hacc3]; have := quo_len acc1 nm; omega
    rw [← hacc3] at HQT
    have HS5 : Hid (∀ u, Pk w3.drew u base b → u.cell? ⟨V, 3, none⟩ = some (.slice (some ⟨B, ob, none⟩) m ca) ∧ u.cell? ⟨G, q, none⟩ = some (.int .i64 (p : Int)) ∧ u.cell? ⟨B, ob + p, none⟩ = some (.string (str nm))) := by
     intro u hu
     have hu3 := (unhide HPk3).trans hu.drew
     have huW := (unhide HPk2).trans hu3
     obtain ⟨_, _, _, r3, _⟩ := cells5 (unhide HKV u huW)
     obtain ⟨G', cur', e', _, _, hcell'⟩ := ((unhide HOR).pk hu3 (unhide HLO)) (unhide HONE)
     cases e'
     have eb := (unhide HSK u huW B hSB).2.trans (unhide HSK w3 (unhide HPkW3) B hSB).2.symm
     exact ⟨r3, hcell' q p (unhide HPQ), cell_keep eb c2⟩
    clear hacc3 hrow hcell hBc hSB p0 p1 p2 p4 hlo
    go_wp2_with fail
    go_region_held3 (fun w' => w'.cell? ⟨V, 3, none⟩ = some (.slice (some ⟨B, ob, none⟩) m ca) ∧ w'.cell? ⟨G, q, none⟩ = some (.int .i64 (p : Int)) ∧ w'.cell? ⟨B, ob + p, none⟩ = some (.string (str nm))) (first | exact ⟨p3, c1, c2⟩ | assumption | go_keep) ((first | (go_at_call 53; refine (unhide HQT).mono ?_; rintro e w4 ⟨rfl, h5, h6⟩; have S5 : w4.cell? ⟨V, 3, none⟩ = some (.slice (some ⟨B, ob, none⟩) m ca) ∧ w4.cell? ⟨G, q, none⟩ = some (.int .i64 (p : Int)) ∧ w4.cell? ⟨B, ob + p, none⟩ = some (.string (str nm)) := unhide HS5 w4 (unhide h6))))
    all_goals
     have HPk4 : Hid (Pk w2 w4 base b) := (unhide HPk3).trans (unhide h6).drew
     have HPkW4 : Hid (Pk W w4 base b) := (unhide HPk2).trans (unhide HPk4)
     clear HQT h6 p3 c1 c2
     have HQ2 := hide (put_any base b acc3 [58] w4 (unhide h5) (by simp; omega) (Nat.le_trans (unhide HBS) (unhide HPkW4).size))
     go_wp2_with fail
     refine (unhide HQ2).mono ?_
     rintro e w5 ⟨rfl, h7, h8⟩
     clear HQ2 h5
     have HPk5 : Hid (Pk w2 w5 base b) := (unhide HPk4).trans (unhide h8)
     have HPkW5 : Hid (Pk W w5 base b) := (unhide HPk2).trans (unhide HPk5)
     clear h8
     have hel5 := (unhide HEL).keep (w' := w5) (S' := S) (unhide HSK w5 (unhide HPkW5))
     obtain ⟨bb, off, v0, v1, v2, v3, v4, rfl, hSb, g0, g1, g2, g3, g4, hj⟩ := hel5
     obtain ⟨jk, jn, jt, ja1, jn1, jc1, ja2, jn2, jc2, e⟩ := hj.form
     simp only [Value.agg.injEq, Array.mk.injEq, List.cons.injEq, and_true] at e
     obtain ⟨rfl, rfl, rfl, rfl, rfl⟩ := e
     obtain ⟨p0, p1, p2, p3, p4⟩ := cells5 (unhide HKV w5 (unhide HPkW5))
     obtain ⟨G', cur', e', _, _, hcell'⟩ := ((unhide HOR).pk (unhide HPk5) (unhide HLO)) (unhide HONE)
     cases e'
     have c1' : w5.cell? ⟨G, q, none⟩ = some (.int .i64 (p : Int)) := hcell' q p (unhide HPQ)
     have hmem := List.mem_of_getElem? (unhide HJJ)
     obtain ⟨acc4, hacc4⟩ : ∃ acc4, acc4 = acc3 ++ [58] := ⟨_, rfl⟩
     rw [← hacc4] at h7
     have hal4 : acc4.length ≤ 65547 := by rw [hacc4]; simp; omega
     have HV9 := hide (unhide HREC jj S _ base b acc4 w5.drew (unhide HCKI jj hmem) (JV.keep (w := w5) (w' := w5.drew) (fun k hk => ⟨hk, rfl⟩) _ _ hj) (unhide HS) ((szs_iff is).1 (unhide HZ6) jj hmem) (((unhide HP).pk (unhide HPkW5) hg (unhide HBB)).keep rfl) hg (unhide h7).drew (Nat.le_trans (unhide HBS) (unhide HPkW5).size) (by omega))
     have HA4 := hide hacc4
     have HS6 : Hid (∀ u, Pk w5.drew u base b → u.cell? ⟨V, 4, none⟩ = some (.slice (some ⟨bb, off, none⟩) m c2) ∧ u.cell? ⟨G, q, none⟩ = some (.int .i64 (p : Int)) ∧ u.cell? ⟨bb, off + p * 5, none⟩ = some (.int .i64 jk) ∧ u.cell? ⟨bb, off + p * 5 + 1, none⟩ = some (.int .i64 jn) ∧ u.cell? ⟨bb, off + p * 5 + 2, none⟩ = some (.string (str jt)) ∧ u.cell? ⟨bb, off + p * 5 + 3, none⟩ = some (.slice ja1 jn1 jc1) ∧ u.cell? ⟨bb, off + p * 5 + 4, none⟩ = some (.slice ja2 jn2 jc2)) := by
      intro u hu
      have hu5 := (unhide HPk5).trans hu.drew
      have huW := (unhide HPk2).trans hu5
      obtain ⟨_, _, _, _, r4⟩ := cells5 (unhide HKV u huW)
      obtain ⟨G', cur', e', _, _, hcell'⟩ := ((unhide HOR).pk hu5 (unhide HLO)) (unhide HONE)
      cases e'
      have eb := (unhide HSK u huW bb hSb).2.trans (unhide HSK w5 (unhide HPkW5) bb hSb).2.symm
      exact ⟨r4, hcell' q p (unhide HPQ), cell_keep eb g0, cell_keep eb g1, cell_keep eb g2, cell_keep eb g3, cell_keep eb g4⟩
     clear hj hmem p0 p1 p2 p3 hSb hcell' hacc4 h7
     go_wp2_with fail
     go_region_held3 (fun w' => w'.cell? ⟨V, 4, none⟩ = some (.slice (some ⟨bb, off, none⟩) m c2) ∧ w'.cell? ⟨G, q, none⟩ = some (.int .i64 (p : Int)) ∧ w'.cell? ⟨bb, off + p * 5, none⟩ = some (.int .i64 jk) ∧ w'.cell? ⟨bb, off + p * 5 + 1, none⟩ = some (.int .i64 jn) ∧ w'.cell? ⟨bb, off + p * 5 + 2, none⟩ = some (.string (str jt)) ∧ w'.cell? ⟨bb, off + p * 5 + 3, none⟩ = some (.slice ja1 jn1 jc1) ∧ w'.cell? ⟨bb, off + p * 5 + 4, none⟩ = some (.slice ja2 jn2 jc2)) (first | exact ⟨p4, c1', g0, g1, g2, g3, g4⟩ | assumption | go_keep) ((first | (go_at_call 25; refine (unhide HV9).mono ?_; rintro e w6 ⟨rfl, acc5, k1, k2, k3, k4⟩; have S6 : w6.cell? ⟨V, 4, none⟩ = some (.slice (some ⟨bb, off, none⟩) m c2) ∧ w6.cell? ⟨G, q, none⟩ = some (.int .i64 (p : Int)) ∧ w6.cell? ⟨bb, off + p * 5, none⟩ = some (.int .i64 jk) ∧ w6.cell? ⟨bb, off + p * 5 + 1, none⟩ = some (.int .i64 jn) ∧ w6.cell? ⟨bb, off + p * 5 + 2, none⟩ = some (.string (str jt)) ∧ w6.cell? ⟨bb, off + p * 5 + 3, none⟩ = some (.slice ja1 jn1 jc1) ∧ w6.cell? ⟨bb, off + p * 5 + 4, none⟩ = some (.slice ja2 jn2 jc2) := unhide HS6 w6 (unhide k4))))
     all_goals
      have HPk6 : Hid (Pk w2 w6 base b) := (unhide HPk5).trans (unhide k4).drew
      have HLK6 : Hid (Lk acc5 (l ++ [123] ++ joF true (MS.take (q + 1)))) := by
       show Lk _ _
       rw [joF_take MS q _ (unhide HMQ)]
       have j1 := ((unhide HLK).app (if q = 0 then [] else [44])).app (quo nm)
       rw [← unhide HAC] at j1
       have j2 := (((unhide HLK3).trans j1).app [58]).app (prN n jj)
       rw [← unhide HA4] at j2
       have j3 := (unhide k2).trans j2
       simpa [List.append_assoc] using j3
      have HL6 : Hid (acc5.length ≤ max l.length 65536 + 100 * (n + 1) + 20) := by show _ ≤ _; have := unhide k3; omega
      clear HV9 HS6 g0 g1 g2 g3 g4 p4 c1' k2 k3 k4 S6
      go_wp2_with fail
      go_roundw
      case rel => exact ⟨q + 1, acc5, by omega, by go_num, HL6, k1, HPk6, HLK6⟩
      case measure => simp [intOf]; omega
  ·have hqm : q = m := by omega
   subst hqm
   have hlt' : ¬ (q : Int) < (q : Int) := by omega
   have HQ := hide (put_any base b acc [125] wr (unhide H1) (by simp; omega) (unhide HBr))
   have HE : Hid (Lk (acc ++ [125]) FIN) := by
    have h4 := (unhide HLK).app [125]
    rw [unhide HF] at h4
    show Lk _ _
    rw [unhide HFIN]
    simpa [List.append_assoc] using h4
   go_wp2_with fail
   refine (unhide HQ).mono ?_
   rintro e w3 ⟨rfl, h3, h4⟩
   clear HQ
   go_wp2_with fail
   go_end0
   refine ⟨rfl, _, h3, HE, ?_, hide ((unhide HPk0).trans ((unhide HPkr).trans (unhide h4)))⟩
   show _ ≤ _
   have := unhide HL
   simp; omega
#print axioms pobj_any
end Go.Proofs.YtbnbngmnoffmkaaGreatDoor
end
section
set_option linter.unusedVariables false
set_option maxRecDepth 1000000
namespace Go.Proofs.YtbnbngmnoffmkaaGreatDoor
open Go.RowKit

theorem ck_zero (n : Nat) (k i : Int) (t : List UInt8) (ns : List (List UInt8)) (is : List Js) (h : ck n (.mk k i t ns is) = 0) : wfB (.mk k i t ns is) = true ∧ ns.Nodup ∧ ((k = 4 ∨ k = 5) → ∃ m, n = m + 1 ∧ ∀ x ∈ is, ck m x = 0) := by
 have key : ∀ C : Option (Js → Nat), ckF C (.mk k i t ns is) = 0 → wfB (.mk k i t ns is) = true ∧ ns.Nodup ∧ ((k = 4 ∨ k = 5) → ∃ C', C = some C' ∧ ∀ x ∈ is, C' x = 0) := by
  intro C hC
  rw [ckF_eq] at hC
  split at hC
  ·cases hC
  ·split at hC
   ·cases hC
   ·split at hC
    ·cases hC
    ·rename_i h1 h2 h3
     refine ⟨by simpa using h2, by simpa using h3, fun hk => ?_⟩
     cases C with
     | none => exact absurd ⟨hk, rfl⟩ h1
     | some C => exact ⟨C, rfl, fsE_zero.1 hC⟩
 cases n with
 | zero =>
  obtain ⟨h1, h2, h3⟩ := key none h
  exact ⟨h1, h2, fun hk => by obtain ⟨C', e, _⟩ := h3 hk; cases e⟩
 | succ m =>
  obtain ⟨h1, h2, h3⟩ := key (some (ck m)) h
  exact ⟨h1, h2, fun hk => by obtain ⟨C', e, h⟩ := h3 hk; cases e; exact ⟨m, rfl, h⟩⟩
theorem wf_kind {k i : Int} {t : List UInt8} {ns : List (List UInt8)} {is : List Js} (h : wfB (.mk k i t ns is) = true) : (k = 0 ∨ k = 1 ∨ k = 2 ∨ k = 3 ∨ k = 4 ∨ k = 5) ∧ (k = 5 → ns.length = is.length) := by
 rw [wfB] at h
 by_cases h0 : k = 0
 ·exact ⟨.inl h0, fun e => by omega⟩
 by_cases h1 : k = 1
 ·exact ⟨.inr (.inl h1), fun e => by omega⟩
 by_cases h2 : k = 2
 ·exact ⟨.inr (.inr (.inl h2)), fun e => by omega⟩
 by_cases h3 : k = 3
 ·exact ⟨.inr (.inr (.inr (.inl h3))), fun e => by omega⟩
 by_cases h4 : k = 4
 ·exact ⟨.inr (.inr (.inr (.inr (.inl h4)))), fun e => by omega⟩
 by_cases h5 : k = 5
 ·refine ⟨.inr (.inr (.inr (.inr (.inr h5)))), fun _ => ?_⟩
  rw [if_neg h0, if_neg h1, if_neg h2, if_neg h3, if_neg h4, if_pos h5] at h
  simp only [Bool.and_eq_true, beq_iff_eq] at h
  exact h.1.2
 ·rw [if_neg h0, if_neg h1, if_neg h2, if_neg h3, if_neg h4, if_neg h5] at h
  cases h
theorem prN_eq (n : Nat) (j : Js) : ∃ P, prN n j = prF P j ∧ ∀ m, n = m + 1 → P = prN m := by
 cases n with
 | zero => exact ⟨fun _ => [], rfl, fun m e => by cases e⟩
 | succ m => exact ⟨prN m, rfl, fun m' e => by cases e; rfl⟩
set_option maxHeartbeats 8000000 in
theorem value_core (n : Nat) (hn9 : n ≤ 16) (hrec : ∀ m, n = m + 1 → PvC m) : PvC n := by
 intro j S v base b l w hck hJ hS hz hP hg hPr hb hl
 cases j with
 | mk k i t ns is =>
 obtain ⟨hwf, hnd, hit⟩ := ck_zero n k i t ns is hck
 obtain ⟨hkk, hnl⟩ := wf_kind hwf
 obtain ⟨P, hPN, hPm⟩ := prN_eq n (.mk k i t ns is)
 have hJ0 := hJ
 simp only [JV] at hJ
 obtain ⟨a1, ca, a2, c2, rfl, _⟩ := hJ
 have hz0 := hz
 simp only [Sz] at hz
 obtain ⟨hz1, hz2, _⟩ := hz
 obtain ⟨V, hV⟩ : ∃ V, V = w.heap.size := ⟨_, rfl⟩
 obtain ⟨W, hW⟩ : ∃ W, W = w.alloc (.cells #[.int .i64 k, .int .i64 i, .string (str t), .slice a1 ns.length ca, .slice a2 is.length c2] 25) := ⟨_, rfl⟩
 have bW : Below w.heap.size w W := by rw [hW]; exact (Below.refl _ _).alloc (Nat.le_refl _) _
 have sW : W.heap.size = V + 1 := by rw [hW, hV]; simp
 have rW : W.heap[V]? = some (.cells #[.int .i64 k, .int .i64 i, .string (str t), .slice a1 ns.length ca, .slice a2 is.length c2] 25 (0, 0)) := by rw [hW, hV]; exact heap_alloc_new _ _
 obtain ⟨p0, p1, p2, p3, p4⟩ := cells5 rW
 have hPW := hPr.below bW
 have hbWs : base ≤ W.heap.size := by omega
 have hPk0 : Pk w W base b := Pk.ofB bW
 have hJW : JV W S (.agg #[.int .i64 k, .int .i64 i, .string (str t), .slice a1 ns.length ca, .slice a2 is.length c2]) (.mk k i t ns is) := JV.keep (fun k hk => ⟨hk, bW.block k (by have := hS k hk; omega)⟩) _ _ hJ0
 have hP10 := hP.below bW
 rw [hPN]
 have HPk0 := hide hPk0
 obtain ⟨OUT, hOUT⟩ : ∃ OUT, OUT = prF P (.mk k i t ns is) := ⟨_, rfl⟩
 rw [← hOUT]
 rw [prF] at hOUT
 clear hck hJ0 hwf hPr bW sW rW hP hPk0 hPN hb
 rcases hkk with rfl | rfl | rfl | rfl | rfl | rfl
 ·rw [if_pos rfl] at hOUT
  have HQ := hide (put_any base b l [110, 117, 108, 108] W hPW (by simp; omega) hbWs)
  have HOUT := hide hOUT
  clear hOUT hJW hP10 hPW hbWs hrec hS hit hz0 hnd hnl hPm
  go_enter Tryz.func25, Tryz.ntmps25
  go_upto_region 1 with fail
  rw [← hW, ← hV]
  clear hW hV
  go_wp2_with fail
  refine (unhide HQ).mono ?_
  rintro e w1 ⟨rfl, h1, h2⟩
  clear HQ p0 p1 p2 p3 p4
  go_wp2_with fail
  go_end0
  refine ⟨rfl, _, h1, by rw [unhide HOUT]; exact hide (Lk.refl _), by show _ ≤ _; simp; omega, hide ((unhide HPk0).trans (unhide h2))⟩
 ·rw [if_neg (by decide), if_pos rfl] at hOUT
  have HFB := hide (fmtBool_any (i == 1) W)
  have hOUT2 : OUT = if (i == 1) = true then [116, 114, 117, 101] else [102, 97, 108, 115, 101] := by rw [hOUT]; simp
  have hol : OUT.length ≤ 5 := by rw [hOUT2]; split <;> simp
  rw [← hOUT2] at HFB
  have HQ := hide (put_any base b l OUT W hPW (by omega) hbWs)
  clear hOUT hOUT2 hJW hP10 hPW hbWs hrec hS hit hz0 hnd hnl hPm
  go_enter Tryz.func25, Tryz.ntmps25
  go_upto_region 1 with fail
  rw [← hW, ← hV]
  clear hW hV
  go_wp2_with fail
  refine (unhide HFB).mono ?_
  rintro e w9 ⟨rfl, hw9⟩
  subst hw9
  clear HFB
  go_wp2_with fail
  refine (unhide HQ).mono ?_
  rintro e w1 ⟨rfl, h1, h2⟩
  clear HQ p0 p1 p2 p3 p4
  go_wp2_with fail
  go_end0
  refine ⟨rfl, _, h1, hide (Lk.refl _), by show _ ≤ _; simp; omega, hide ((unhide HPk0).trans (unhide h2))⟩
 ·rw [if_neg (by decide), if_neg (by decide), if_pos rfl] at hOUT
  have HFI := hide (fmtInt_any i hz1.1 hz1.2 W hP10)
  have hol : OUT.length ≤ 21 := by rw [hOUT]; exact Lib.itoa_length_le i hz1.1 hz1.2
  rw [← hOUT] at HFI
  have HPW := hide hPW
  have HBW := hide hbWs
  clear hOUT hJW hP10 hPW hbWs hrec hS hit hz0 hnd hnl hPm
  go_enter Tryz.func25, Tryz.ntmps25
  go_upto_region 1 with fail
  rw [← hW, ← hV]
  clear hW hV
  go_wp2_with fail
  refine (unhide HFI).mono ?_
  rintro e w9 ⟨rfl, hb9⟩
  have HQ := hide (put_any base b l OUT w9 ((unhide HPW).below (unhide hb9)) (by omega) (Nat.le_trans (unhide HBW) (unhide hb9).size))
  have HPk9 : Hid (Pk w w9 base b) := (unhide HPk0).trans (Pk.ofB (unhide hb9))
  clear HFI hb9
  go_wp2_with fail
  refine (unhide HQ).mono ?_
  rintro e w1 ⟨rfl, h1, h2⟩
  clear HQ p0 p1 p2 p3 p4
  go_wp2_with fail
  go_end0
  refine ⟨rfl, _, h1, hide (Lk.refl _), by show _ ≤ _; simp; omega, hide ((unhide HPk9).trans (unhide h2))⟩
 ·rw [if_neg (by decide), if_neg (by decide), if_neg (by decide), if_pos rfl] at hOUT
  have HQ := hide (quoted_any base b l t W hPW (by omega) (by omega) hbWs)
  have HLK := hide (quo_lk l t)
  have HLN := hide (quo_len l t)
  rw [← hOUT] at HLK
  clear hOUT hJW hP10 hPW hbWs hrec hS hit hz0 hnd hnl hPm
  go_enter Tryz.func25, Tryz.ntmps25
  go_upto_region 1 with fail
  rw [← hW, ← hV]
  clear hW hV
  go_wp2_with fail
  refine (unhide HQ).mono ?_
  rintro e w1 ⟨rfl, h1, h2⟩
  clear HQ p0 p1 p2 p3 p4
  go_wp2_with fail
  go_end0
  refine ⟨rfl, _, h1, HLK, by show _ ≤ _; have := unhide HLN; omega, hide ((unhide HPk0).trans (unhide h2))⟩
 ·obtain ⟨m, rfl, him⟩ := hit (.inl rfl)
  rw [if_neg (by decide), if_neg (by decide), if_neg (by decide), if_neg (by decide), if_pos rfl, hPm m rfl] at hOUT
  have HQ := hide (plist_any m (hrec m rfl) (by omega) 4 i t ns is S _ base b l W him hJW hS hz0 hP10 hg hPW hbWs hl)
  rw [← hOUT] at HQ
  clear hOUT hJW hP10 hPW hbWs hrec hS hit hz0 hnd hnl hPm him
  go_enter Tryz.func25, Tryz.ntmps25
  go_upto_region 1 with fail
  rw [← hW, ← hV]
  clear hW hV
  go_wp2_with fail
  refine (unhide HQ).mono ?_
  rintro e w1 ⟨rfl, l', h1, h2, h3, h4⟩
  clear HQ p0 p1 p2 p3 p4
  go_wp2_with fail
  go_end0
  exact ⟨rfl, l', h1, h2, h3, hide ((unhide HPk0).trans (unhide h4))⟩
 ·obtain ⟨m, rfl, him⟩ := hit (.inr rfl)
  rw [if_neg (by decide), if_neg (by decide), if_neg (by decide), if_neg (by decide), if_neg (by decide), if_pos rfl, hPm m rfl] at hOUT
  have HQ := hide (pobj_any m (hrec m rfl) (by omega) 5 i t ns is S _ base b l W him hnd (hnl rfl) hJW hS hz0 hP10 hg hPW hbWs hl)
  rw [← hOUT] at HQ
  clear hOUT hJW hP10 hPW hbWs hrec hS hit hz0 hnd hnl hPm him
  go_enter Tryz.func25, Tryz.ntmps25
  go_upto_region 1 with fail
  rw [← hW, ← hV]
  clear hW hV
  go_wp2_with fail
  refine (unhide HQ).mono ?_
  rintro e w1 ⟨rfl, l', h1, h2, h3, h4⟩
  clear HQ p0 p1 p2 p3 p4
  go_wp2_with fail
  go_end0
  exact ⟨rfl, l', h1, h2, h3, hide ((unhide HPk0).trans (unhide h4))⟩
#print axioms value_core
theorem value9 : ∀ n, n ≤ 16 → PvC n
 | 0, h => value_core 0 h (fun m e => by cases e)
 | n + 1, h => value_core (n + 1) h (fun m e => by cases e; exact value9 n (by omega))
end Go.Proofs.YtbnbngmnoffmkaaGreatDoor
end
section
set_option linter.unusedVariables false
set_option maxRecDepth 1000000
namespace Go.Proofs.YtbnbngmnoffmkaaGreatDoor
open Go.RowKit

set_option maxHeartbeats 4000000 in
theorem print_any (j : Js) (S : Nat → Prop) (v : Value) (w : World) (hT : Tb4 w) (hP : P10 w) (hJ : JV w S v j) (hS : ∀ k, S k → k < w.heap.size) (hz : Sz j) :
  Calls Tryz.prog 12 #[v] w fun e w' => e = .returned (.tuple #[.string (str (prM j).1), .int .i64 ((prM j).2 : Int)]) ∧ Hid (Below w.heap.size w w') := by
 obtain ⟨k, n, t, a1, n1, c1, a2, n2, c2, rfl⟩ := hJ.form
 obtain ⟨W, hW⟩ : ∃ W, W = w.alloc (.cells #[.int .i64 k, .int .i64 n, .string (str t), .slice a1 n1 c1, .slice a2 n2 c2] 25) := ⟨_, rfl⟩
 obtain ⟨V, hV⟩ : ∃ V, V = w.heap.size := ⟨_, rfl⟩
 have bW : Below w.heap.size w W := by rw [hW]; exact (Below.refl _ _).alloc (Nat.le_refl _) _
 have sW : W.heap.size = V + 1 := by rw [hW, hV]; simp
 have rW : W.heap[V]? = some (.cells #[.int .i64 k, .int .i64 n, .string (str t), .slice a1 n1 c1, .slice a2 n2 c2] 25 (0, 0)) := by rw [hW, hV]; exact heap_alloc_new _ _
 obtain ⟨p0, p1, p2, p3, p4⟩ := cells5 rW
 have HC := hide (checkJ_any j S _ W (hT.below bW) (JV.keep (fun k hk => ⟨hk, bW.block k (hS k hk)⟩) _ _ hJ) (fun k hk => Nat.lt_of_lt_of_le (hS k hk) bW.size) hz)
 obtain ⟨OT, hOT⟩ : ∃ OT, OT = (prM j).1 := ⟨_, rfl⟩
 obtain ⟨OE, hOE⟩ : ∃ OE, OE = (prM j).2 := ⟨_, rfl⟩
 rw [← hOT, ← hOE]
 have HOT := hide hOT
 have HOE := hide hOE
 generalize hE : ck 16 j = E at HC
 have HE := hide hE
 have HB := hide bW
 have HRW := hide rW
 have HsW := hide sW
 have HJ := hide hJ
 have HS := hide hS
 have HZ := hide hz
 have HP := hide hP
 clear hT hJ hS hz rW bW sW hOT hOE hE hP
 go_enter Tryz.func12, Tryz.ntmps12
 go_upto_region 1 with fail
 rw [← hW, ← hV]
 have HVV := hide hV
 clear hW hV
 go_wp2_with fail
 refine (unhide HC).mono ?_
 rintro e w1 ⟨rfl, h1⟩
 have HB1 : Hid (Below w.heap.size w w1) := (unhide HB).trans ((unhide h1).mono (unhide HB).size)
 have HR1 : Hid (w1.heap[V]? = some (.cells #[.int .i64 k, .int .i64 n, .string (str t), .slice a1 n1 c1, .slice a2 n2 c2] 25 (0, 0))) := ((unhide h1).block V (by rw [unhide HsW]; omega)).trans (unhide HRW)
 clear HC h1 p0 p1 p2 p3 p4
 by_cases hE0 : E = 0
 ·have hEb : (((E : Nat) : Int) != 0) = false := by rw [hE0]; rfl
  obtain ⟨b, hb⟩ : ∃ b, b = w1.heap.size := ⟨_, rfl⟩
  obtain ⟨U, hU⟩ : ∃ U, U = w1.alloc (.cells #[.slice none 0 0] 58) := ⟨_, rfl⟩
  have bU : Below w1.heap.size w1 U := by rw [hU]; exact (Below.refl _ _).alloc (Nat.le_refl _) _
  have sU : U.heap.size = b + 1 := by rw [hU, hb]; simp
  have hPr : Pr U b b [] := by
   refine ⟨Nat.le_refl _, none, 0, ?_, OwnB.nil _ _⟩
   rw [hU, hb]; exact heap_alloc_new _ _
  have hwU : Below w.heap.size w U := (unhide HB1).trans (bU.mono (unhide HB1).size)
  have hP10 := (unhide HP).below hwU
  have hlt10 := (unhide HP).lt
  have hsz1 := (unhide HB1).size
  have HV9 := hide (value9 16 (Nat.le_refl _) j S _ b b [] U (by rw [unhide HE]; exact hE0) (JV.keep (fun k hk => ⟨hk, hwU.block k (unhide HS k hk)⟩) _ _ (unhide HJ)) (fun k hk => by have := unhide HS k hk; omega) (unhide HZ) hP10 (by omega) hPr (by omega) (by simp))
  have rU : U.heap[V]? = some (.cells #[.int .i64 k, .int .i64 n, .string (str t), .slice a1 n1 c1, .slice a2 n2 c2] 25 (0, 0)) := (bU.block V (Array.getElem?_eq_some_iff.1 (unhide HR1)).1).trans (unhide HR1)
  obtain ⟨p0, p1, p2, p3, p4⟩ := cells5 rU
  have HwU := hide hwU
  have HsU : Hid (b ≤ U.heap.size ∧ w.heap.size ≤ b) := ⟨by omega, by omega⟩
  have HEE := hide hE0
  clear bU sU hPr hwU hP10 hlt10 hsz1 rU hE0
  go_upto_region 5 with fail
  rw [← hU, ← hb]
  clear hU hb
  go_wp2_with fail
  refine (unhide HV9).mono ?_
  rintro e w2 ⟨rfl, l', k1, k2, k3, k4⟩
  clear HV9 p0 p1 p2 p3 p4
  have HB2 : Hid (Below w.heap.size w w2) := by
   have q := (unhide k4).below (Nat.le_refl _) (unhide HsU).1
   exact (unhide HwU).trans (q.mono (unhide HsU).2)
  have HFu := hide (full_any b b l' w2 (unhide k1))
  have hLk : Lk l' (prN 16 j) := by have := unhide k2; rwa [List.nil_append] at this
  by_cases hfl : 65536 < l'.length
  ·rw [decide_eq_true hfl] at HFu
   have hp9 : 65536 < (prN 16 j).length := by
    rcases hLk with e | e
    ·rw [← e]; exact hfl
    ·exact e.2
   have hpm : prM j = ([], 4) := by unfold prM; rw [if_neg (by rw [unhide HE, unhide HEE]; simp), if_pos hp9]
   have HO1 : Hid (OT = []) := by show _ = _; rw [unhide HOT, hpm]
   have HO2 : Hid (OE = 4) := by show _ = _; rw [unhide HOE, hpm]
   clear hLk hfl hp9 hpm
   go_wp2_with fail
   refine (unhide HFu).mono ?_
   rintro e w9 ⟨rfl, hw9⟩
   subst hw9
   clear HFu
   go_wp2_with fail
   go_ret2
   rw [unhide HO1, unhide HO2]
   exact ⟨rfl, HB2⟩
  ·rw [decide_eq_false hfl] at HFu
   have hle : l' = prN 16 j := by
    rcases hLk with e | e
    ·exact e
    ·exact absurd e.1 hfl
   have hpm : prM j = (l', 0) := by unfold prM; rw [if_neg (by rw [unhide HE, unhide HEE]; simp), ← hle, if_neg hfl]
   have HO1 : Hid (OT = l') := by show _ = _; rw [unhide HOT, hpm]
   have HO2 : Hid (OE = 0) := by show _ = _; rw [unhide HOE, hpm]
   obtain ⟨_, a9, c9, hC9, hO9⟩ := unhide k1
   have q0 := hC9.cell 0
   simp only [List.getElem?_cons_zero] at q0
   have kS := run_str w2 a9 _ c9 l' hO9.toBs.row rfl
   clear hLk hfl hle hpm hC9 hO9
   go_wp2_with fail
   refine (unhide HFu).mono ?_
   rintro e w9 ⟨rfl, hw9⟩
   subst hw9
   clear HFu
   go_wp2_with fail
   go_ret2
   rw [unhide HO1, unhide HO2]
   exact ⟨rfl, HB2⟩
 ·have hEb : (((E : Nat) : Int) != 0) = true := by simp; omega
  have hpm : prM j = ([], E) := by unfold prM; rw [unhide HE, if_pos hE0]
  have HO1 : Hid (OT = []) := by show _ = _; rw [unhide HOT, hpm]
  have HO2 : Hid (OE = E) := by show _ = _; rw [unhide HOE, hpm]
  clear hE0 hpm
  go_wp2_with fail
  go_ret2
  rw [unhide HO1, unhide HO2]
  exact ⟨rfl, HB1⟩
#print axioms print_any
end Go.Proofs.YtbnbngmnoffmkaaGreatDoor
end
section
set_option linter.unusedVariables false
set_option maxRecDepth 1000000
namespace Go.Proofs.YtbnbngmnoffmkaaGreatDoor
open Go.RowKit

def awT : List UInt8 := [123, 34, 98, 34, 58, 49, 44, 34, 97, 34, 58, 91, 116, 114, 117, 101, 44, 110, 117, 108, 108, 93, 125]
def awP : List UInt8 := [123, 34, 97, 34, 58, 91, 116, 114, 117, 101, 44, 110, 117, 108, 108, 93, 44, 34, 98, 34, 58, 49, 125]
def awJ : Js := .mk 5 0 [] [[98], [97]] [.mk 2 1 [] [] [], .mk 4 0 [] [] [.mk 1 1 [] [] [], .mk 0 0 [] [] []]]
theorem aw_ps : psM awT = (awJ, 0, 0) := by kernel_rfl
theorem aw_no : psM [91, 49, 44, 93] = (Js.nul, 3, 40) := by kernel_rfl
theorem aw_pr : prM awJ = (awP, 0) := by kernel_rfl
theorem aw_sz : Sz awJ := by simp [awJ, Sz, Szs]
/-- What the statements of jsonx know of the world. -/
structure Env4 (w : World) : Prop where
 tb : Tb4 w
 et : Et4 w
 pt : P10 w
theorem Env4.below {w w' : World} (h : Env4 w) (hb : Below w.heap.size w w') : Env4 w' := ⟨h.tb.below hb, h.et.below hb, h.pt.below hb⟩
set_option maxHeartbeats 4000000 in
theorem awake4 (w : World) (hE : Env4 w) :
  Calls Tryz.prog 9 #[] w fun e w' => e = .returned (.bool true) ∧ Hid (Below w.heap.size w w') := by
 have HP1 := hide (parse_any awT w hE.tb hE.et)
 have HE := hide hE
 obtain ⟨T1, hT1⟩ : ∃ T1, T1 = awP := ⟨_, rfl⟩
 have hs1 : ((str T1).toList == [123, 34, 97, 34, 58, 91, 116, 114, 117, 101, 44, 110, 117, 108, 108, 93, 44, 34, 98, 34, 58, 49, 125]) = true := by rw [hT1, toList_str]; rfl
 have HT1 := hide hT1
 clear hE hT1
 go_enter Tryz.func9, Tryz.ntmps9
 go_wp2_with fail
 refine (unhide HP1).mono ?_
 rintro e w1 ⟨hb1, ht1, val, rfl, hJ⟩
 rw [aw_ps] at hJ ⊢
 obtain ⟨jk, jn, jt, ja1, jn1, jc1, ja2, jn2, jc2, rfl⟩ := hJ.form
 obtain ⟨V, hV⟩ : ∃ V, V = w1.heap.size := ⟨_, rfl⟩
 obtain ⟨U, hU⟩ : ∃ U, U = w1.alloc (.cells #[.int .i64 jk, .int .i64 jn, .string (str jt), .slice ja1 jn1 jc1, .slice ja2 jn2 jc2] 25) := ⟨_, rfl⟩
 have bU : Below w1.heap.size w1 U := by rw [hU]; exact (Below.refl _ _).alloc (Nat.le_refl _) _
 have bwU : Below w.heap.size w U := hb1.trans (bU.mono hb1.size)
 have rU : U.heap[V]? = some (.cells #[.int .i64 jk, .int .i64 jn, .string (str jt), .slice ja1 jn1 jc1, .slice ja2 jn2 jc2] 25 (0, 0)) := by rw [hU, hV]; exact heap_alloc_new _ _
 obtain ⟨p0, p1, p2, p3, p4⟩ := cells5 rU
 have HPR := hide (print_any awJ (Nw w w1) _ U ((unhide HE).below bwU).tb ((unhide HE).below bwU).pt (JV.keep (fun k hk => ⟨hk, bU.block k hk.2⟩) _ _ hJ) (fun k hk => Nat.lt_of_lt_of_le hk.2 bU.size) aw_sz)
 rw [aw_pr] at HPR
 simp only at HPR
 rw [← unhide HT1] at HPR
 rw [show ((0 : Nat) : Int) = 0 from rfl] at HPR
 have HBU := hide bwU
 clear hb1 ht1 hJ bU bwU rU HP1
 simp only [show ((0 : Nat) : Int) = 0 from rfl]
 go_upto_region 2 with fail
 rw [← hU, ← hV]
 clear hU hV
 go_wp2_with fail
 refine (unhide HPR).mono ?_
 rintro e w2 ⟨rfl, hb2⟩
 have HB2 : Hid (Below w.heap.size w w2) := (unhide HBU).trans ((unhide hb2).mono (unhide HBU).size)
 clear HPR hb2 p0 p1 p2 p3 p4
 have HP3 := hide (parse_any [91, 49, 44, 93] w2 ((unhide HE).below (unhide HB2)).tb ((unhide HE).below (unhide HB2)).et)
 go_wp2_with fail
 refine (unhide HP3).mono ?_
 rintro e w3 ⟨hb3, ht3, val3, rfl, hJ3⟩
 rw [aw_no] at hJ3 ⊢
 obtain ⟨ik, inn, it, ia1, in1, ic1, ia2, in2, ic2, rfl⟩ := hJ3.form
 have HB3 : ∀ o, Hid (Below w.heap.size w (w3.alloc o)) := fun o => hide (((unhide HB2).trans (hb3.mono (unhide HB2).size)).alloc (by have := hb3.size; have := (unhide HB2).size; omega) o)
 clear hb3 ht3 hJ3 HP3
 simp only [show ((3 : Nat) : Int) = 3 from rfl, show ((40 : Nat) : Int) = 40 from rfl]
 go_wp2_with fail
 go_ret
 exact ⟨rfl, HB3 _⟩
#print axioms awake4
end Go.Proofs.YtbnbngmnoffmkaaGreatDoor
end
