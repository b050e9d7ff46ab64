/-
  jsonx: the printer: values, lists, objects.; jsonx: the printer: objects.; jsonx: the printer: a value of any kind; Print.; jsonx: Print.; jsonx: the statements' awake.; jsonx's parser as mathematics: what is read of a text is read of it with more behind it; lists in lists.; jsonx as mathematics: what is printed is read: numbers, texts.; jsonx as mathematics: what is printed is read as the same value, its members by rising names.
-/
import Derived.Test.YtmpjeahibfdehaaGreatDoorPkMackax
import Derived.Test.YtmpjeahibfdehaaGreatDoorPkMackay
import Derived.Lib.ConvBytes
import Derived.Test.YtmpjeahibfdehaaGreatDoorPkMackat
import Derived.Test.YtmpjeahibfdehaaGreatDoorPkMackau
section
set_option linter.unusedVariables false
set_option maxRecDepth 1000000
namespace Go.Proofs.YtmpjeahibfdehaaGreatDoor
open Go.RowKit

theorem P10.lt {w : World} (h : P10 w) : 1 < w.heap.size := by
 have hgn : Tryz.prog.globalNamed "internal/strconv.uint64pow10" = some 1 := by kernel_rfl
 unfold P10 Lib.TabIs World.var? at h
 rw [hgn] at h
 simp only [Option.bind_some] at h
 rcases Nat.lt_or_ge 1 w.heap.size with h' | h'
 ·exact h'
 ·rw [Array.getElem?_eq_none h'] at h; cases h
theorem P10.keep {w w' : World} (h : P10 w) (e : w'.heap[1]? = w.heap[1]?) : P10 w' := by
 have hgn : Tryz.prog.globalNamed "internal/strconv.uint64pow10" = some 1 := by kernel_rfl
 unfold P10 Lib.TabIs World.var? at h ⊢
 rw [hgn] at h ⊢
 simp only [Option.bind_some] at h ⊢
 rw [e]
 exact h
theorem P10.pk {w w' : World} {base b : Nat} (h : P10 w) (k : Pk w w' base b) (hg : 1 < base) (hb : base ≤ b) : P10 w' := h.keep (k.block _ h.lt (by omega) (.inl hg))
theorem Pr.lt {w : World} {base b : Nat} {l : List UInt8} (h : Pr w base b l) : b < w.heap.size := by
 obtain ⟨_, a, cap, hC, _⟩ := h
 exact hC.lt
theorem nB_of {w : World} {k : Nat} {cs : Array Value} {T : TypeId} {m : Nat × Nat} (h : w.heap[k]? = some (.cells cs T m)) (hT : T ≠ 5) : nB w k := by
 intro c e
 rw [h] at e
 simp only [Option.some.injEq, Obj.cells.injEq] at e
 exact hT e.2.1
theorem Pk.row {w w' : World} {base b k : Nat} {cs : Array Value} {T : TypeId} {m : Nat × Nat} (h : Pk w w' base b) (hr : w.heap[k]? = some (.cells cs T m)) (hT : T ≠ 5) (hk : k ≠ b) : w'.heap[k]? = some (.cells cs T m) :=
 (h.block k (aI hr).1 hk (.inr (nB_of hr hT))).trans hr
theorem Pr.drew {w : World} {base b : Nat} {l : List UInt8} (h : Pr w base b l) : Pr w.drew base b l := h
theorem Pk.drew {w w' : World} {base b : Nat} (h : Pk w.drew w' base b) : Pk w w' base b := ⟨h.os, h.tape, h.output, h.size, h.block⟩
theorem OrR.pk {w w' : World} {lo base b : Nat} {a : Option Addr} {o : List Nat} (h : OrR w lo a o) (k : Pk w w' base b) (hb : b < lo) : OrR w' lo a o := by
 intro hne
 obtain ⟨G, cur, h1, h2, h3, h4⟩ := h hne
 have e := k.row h3 (by decide) (by omega)
 refine ⟨G, cur, h1, h2, e, fun i q hq => ?_⟩
 rw [cR6 e, ← cR6 h3]
 exact h4 i q hq
/-- A value that Check takes is printed. -/
def PvC (n : Nat) : Prop := ∀ (j : Js) (S : Nat → Prop) (v : Value) (base b : Nat) (l : List UInt8) (w : World), ck n j = 0 → JV w S v j → (∀ k, S k → k < base) → Sz j → P10 w → 1 < base → Pr w base b l → base ≤ w.heap.size → l.length ≤ 70000000 →
 Calls Tryz.prog 55 #[.pointer (some ⟨b, 0, none⟩), v] w fun e w' => e = .returned (.tuple #[]) ∧ ∃ l', Hid (Pr w' base b l') ∧ Hid (Lk l' (l ++ prN n j)) ∧ Hid (l'.length ≤ max l.length 65536 + 100 * (n + 1)) ∧ Hid (Pk w w' base b)
set_option maxHeartbeats 8000000 in
theorem plist_any (n : Nat) (hrec : PvC n) (hn9 : n ≤ 16) (k i : Int) (t : List UInt8) (ns : List (List UInt8)) (is : List Js) (S : Nat → Prop) (v : Value) (base b : Nat) (l : List UInt8) (w : World) (hck : ∀ j ∈ is, ck n j = 0) (hJ : JV w S v (.mk k i t ns is)) (hS : ∀ k, S k → k < base) (hz : Sz (.mk k i t ns is)) (hP : P10 w) (hg : 1 < base) (hPr : Pr w base b l) (hb : base ≤ w.heap.size) (hl : l.length ≤ 70000000) :
  Calls Tryz.prog 94 #[.pointer (some ⟨b, 0, none⟩), v] w fun e w' => e = .returned (.tuple #[]) ∧ ∃ l', Hid (Pr w' base b l') ∧ Hid (Lk l' (l ++ ([91] ++ joF true (is.map (prN n)) ++ [93]))) ∧ Hid (l'.length ≤ max l.length 65536 + 100 * (n + 2)) ∧ Hid (Pk w w' base b) := by
 simp only [JV] at hJ
 obtain ⟨a1, c1, a2, c2, rfl, hN, hnc, _, _, hic, _, _, hIt⟩ := hJ
 simp only [Sz] at hz
 obtain ⟨hz1, hz2, hz3, hz4, hz5, hz6⟩ := hz
 obtain ⟨V, hV⟩ : ∃ V, V = w.heap.size := ⟨_, rfl⟩
 obtain ⟨W, hW⟩ : ∃ W, W = w.alloc (.cells #[.int .i64 k, .int .i64 i, .string (str t), .slice a1 ns.length c1, .slice a2 is.length c2] 44) := ⟨_, rfl⟩
 have bW : Below w.heap.size w W := by rw [hW]; exact bA _
 have sW : W.heap.size = V + 1 := by rw [hW, hV]; simp
 have rW : W.heap[V]? = some (.cells #[.int .i64 k, .int .i64 i, .string (str t), .slice a1 ns.length c1, .slice a2 is.length c2] 44 (0, 0)) := by rw [hW, hV]; exact heap_alloc_new _ _
 have hbV : b ≠ V := by have := hPr.lt; omega
 have HP1 := hide (put_any base b l [91] W (hPr.below bW) (by simp; omega) (by omega))
 have HKV : Hid (∀ u, Pk W u base b → u.heap[V]? = some (.cells #[.int .i64 k, .int .i64 i, .string (str t), .slice a1 ns.length c1, .slice a2 is.length c2] 44 (0, 0))) := fun u hu => hu.row rW (by decide) (fun e => hbV e.symm)
 have HbW := hide bW
 have HBS : Hid (base ≤ W.heap.size) := by show _ ≤ _; omega
 have HP := hide (hP.below bW)
 have HBB := hide hPr.1
 have HS := hide hS
 have HZ6 := hide hz6
 have HI : Hid (JVs W S a2 0 is) := JVs.keep (fun k hk => ⟨hk, bW.block k (by have := hS k hk; omega)⟩) _ _ _ hIt
 have HCKI := hide hck
 have HREC := hide hrec
 have HPk0 : Hid (Pk w W base b) := Pk.ofB bW
 obtain ⟨m, hm⟩ : ∃ m, m = is.length := ⟨_, rfl⟩
 have HM := hide hm
 have HF : Hid (joF true ((is.map (prN n)).take m) = joF true (is.map (prN n))) := by show _ = _; rw [List.take_of_length_le (by rw [List.length_map]; omega)]
 rw [← hm] at HKV
 rw [← hm]
 have hm9 : m ≤ 100000 := by omega
 obtain ⟨FIN, hFIN⟩ : ∃ FIN, FIN = l ++ ([91] ++ joF true (is.map (prN n)) ++ [93]) := ⟨_, rfl⟩
 rw [← hFIN]
 have HFIN := hide hFIN
 rw [← hm] at hW
 clear hN hIt hz6 hz5 bW sW rW hP hS hck hrec hm hFIN hPr
 go_enter Tryz.func94, Tryz.ntmps94
 go_upto_region 1 with fail
 rw [← hW, ← hV]
 clear hW hV
 go_wp2_with fail
 refine (uh HP1).mono ?_
 rintro e w1 ⟨rfl, h1, h2⟩
 clear HP1
 go_wp2_with fail
 go_loopw [4] (fun v wr => ∃ (q : Nat) (acc : List UInt8), q ≤ m ∧ v = .int .i64 (q : Int) ∧ Hid (acc.length ≤ max l.length 65536 + 100 * (n + 1) + 10) ∧ Hid (Pr wr base b acc) ∧ Hid (Pk W wr base b) ∧ Hid (Lk acc (l ++ [91] ++ joF true ((is.map (prN n)).take q)))) (fun v _ => m - (intOf v).toNat)
 case atStart => exact ⟨0, _, Nat.zero_le _, rfl, by show _ ≤ _; simp; omega, h1, h2, by show Lk _ _; simp [joF]; exact Lk.refl _⟩
 case round =>
  clear h1 h2
  obtain ⟨q, acc, hq, rfl, HL, H1, H2, HLK⟩ := hrel
  obtain ⟨p0, p1, p2, p3, p4⟩ := cells5 (uh HKV wr (uh H2))
  have HBr : Hid (base ≤ wr.heap.size) := Nat.le_trans (uh HBS) (uh H2).size
  have hal : acc.length ≤ 80000000 := by have := uh HL; omega
  by_cases hlt : q < m
  ·have hlt' : (q : Int) < (m : Int) := by omega
   have HFu := hide (full_any base b acc wr (uh H1))
   by_cases hfl : 65536 < acc.length
   ·rw [decide_eq_true hfl] at HFu
    have HQ := hide (put_any base b acc [93] wr (uh H1) (by simp; omega) (uh HBr))
    have HE : Hid (Lk (acc ++ [93]) FIN) := by
     have h3 := Lk.full (z := l ++ [91] ++ joF true (is.map (prN n))) (uh HLK) hfl (by have := joF_le (is.map (prN n)) q; simp only [List.length_append]; omega)
     have h4 := h3.app [93]
     show Lk _ _
     rw [uh HFIN]
     simpa [List.append_assoc] using h4
    clear p0 p1 p2 p3
    go_wp2_with fail
    refine (uh HFu).mono ?_
    rintro e w2 ⟨rfl, hw2⟩
    subst hw2
    clear HFu p4
    go_wp2_with fail
    refine (uh HQ).mono ?_
    rintro e w3 ⟨rfl, h3, h4⟩
    clear HQ
    go_wp2_with fail
    go_end0
    refine ⟨rfl, _, h3, HE, ?_, hide ((uh HPk0).trans ((uh H2).trans (uh h4)))⟩
    show _ ≤ _
    have := uh HL
    simp; omega
   ·rw [decide_eq_false hfl] at HFu
    obtain ⟨jj, hjj⟩ : ∃ jj, is[q]? = some jj := ⟨_, List.getElem?_eq_getElem (by rw [← uh HM]; exact hlt)⟩
    have HCo := hide (comma_any base b q acc wr (uh H1) (by omega) (uh HBr))
    have hel := (jvs_iff W S a2 is 0).1 (uh HI) q jj hjj
    rw [Nat.zero_add] at hel
    have HEL := hide hel
    have HJJ := hide hjj
    obtain ⟨acc1, hacc1⟩ : ∃ acc1, acc1 = acc ++ (if q = 0 then [] else [44]) := ⟨_, rfl⟩
    rw [← hacc1] at HCo
    have hal1 : acc1.length ≤ 65537 := by rw [hacc1]; split <;> simp <;> omega
    have HAC := hide hacc1
    clear hel hjj hacc1 p0 p1 p2 p3
    go_wp2_with fail
    refine (uh HFu).mono ?_
    rintro e w2 ⟨rfl, hw2⟩
    subst hw2
    clear HFu p4
    go_wp2_with fail
    refine (uh HCo).mono ?_
    rintro e w3 ⟨rfl, h3, h4⟩
    clear HCo
    have HPk3 : Hid (Pk W w3 base b) := (uh H2).trans (uh h4)
    have hel3 := (uh HEL).keep (w' := w3) (S' := S) (fun k hk => ⟨hk, (uh HPk3).block k (by have := uh HS k hk; have := uh HBS; omega) (by have := uh HS k hk; have := uh HBB; omega) (.inl (uh HS k hk))⟩)
    obtain ⟨bb, off, v0, v1, v2, v3, v4, rfl, hSb, g0, g1, g2, g3, g4, hj⟩ := hel3
    obtain ⟨jk, jn, jt, ja1, jn1, jc1, ja2, jn2, jc2, e⟩ := hj.form
    simp only [Value.agg.injEq, Array.mk.injEq, List.cons.injEq, and_true] at e
    obtain ⟨rfl, rfl, rfl, rfl, rfl⟩ := e
    obtain ⟨p0, p1, p2, p3, p4⟩ := cells5 (uh HKV w3 (uh HPk3))
    have hmem := List.mem_of_getElem? (uh HJJ)
    have HV9 := hide (uh HREC jj S _ base b acc1 w3 (uh HCKI jj hmem) hj (uh HS) ((szs_iff is).1 (uh HZ6) jj hmem) ((uh HP).pk (uh HPk3) hg (uh HBB)) hg (uh h3) (Nat.le_trans (uh HBS) (uh HPk3).size) (by omega))
    clear hj hmem p0 p1 p2 p3 hSb
    go_wp2_with fail
    refine (uh HV9).mono ?_
    rintro e w5 ⟨rfl, acc2, k1, k2, k3, k4⟩
    clear HV9 g0 g1 g2 g3 g4 p4
    have HPk5 : Hid (Pk W w5 base b) := (uh HPk3).trans (uh k4)
    have HLK5 : Hid (Lk acc2 (l ++ [91] ++ joF true ((is.map (prN n)).take (q + 1)))) := by
     show Lk _ _
     rw [joF_take (is.map (prN n)) q (prN n jj) (by rw [List.getElem?_map, uh HJJ]; rfl)]
     have h5 := ((uh HLK).app (if q = 0 then [] else [44])).app (prN n jj)
     rw [← uh HAC] at h5
     have h6 := (uh k2).trans h5
     simpa [List.append_assoc] using h6
    have HL5 : Hid (acc2.length ≤ max l.length 65536 + 100 * (n + 1) + 10) := by show _ ≤ _; have := uh k3; omega
    clear k2 k3 k4
    go_wp2_with fail
    go_roundw
    case rel => exact ⟨q + 1, acc2, by omega, by go_num, HL5, k1, HPk5, HLK5⟩
    case measure => simp [intOf]; omega
  ·have hqm : q = m := by omega
   subst hqm
   have hlt' : ¬ (q : Int) < (q : Int) := by omega
   have HQ := hide (put_any base b acc [93] wr (uh H1) (by simp; omega) (uh HBr))
   have HE : Hid (Lk (acc ++ [93]) FIN) := by
    have h4 := (uh HLK).app [93]
    rw [uh HF] at h4
    show Lk _ _
    rw [uh HFIN]
    simpa [List.append_assoc] using h4
   clear p0 p1 p2 p3
   go_wp2_with fail
   refine (uh HQ).mono ?_
   rintro e w3 ⟨rfl, h3, h4⟩
   clear HQ p4
   go_wp2_with fail
   go_end0
   refine ⟨rfl, _, h3, HE, ?_, hide ((uh HPk0).trans ((uh H2).trans (uh h4)))⟩
   show _ ≤ _
   have := uh HL
   simp; omega
end Go.Proofs.YtmpjeahibfdehaaGreatDoor
end
section
set_option linter.unusedVariables false
set_option maxRecDepth 1000000
namespace Go.Proofs.YtmpjeahibfdehaaGreatDoor
open Go.RowKit

set_option maxHeartbeats 8000000 in
theorem pobj_any (n : Nat) (hrec : PvC n) (hn9 : n ≤ 16) (k i : Int) (t : List UInt8) (ns : List (List UInt8)) (is : List Js) (S : Nat → Prop) (v : Value) (base b : Nat) (l : List UInt8) (w : World) (hck : ∀ j ∈ is, ck n j = 0) (hnd : ns.Nodup) (hnl : ns.length = is.length) (hJ : JV w S v (.mk k i t ns is)) (hS : ∀ k, S k → k < base) (hz : Sz (.mk k i t ns is)) (hP : P10 w) (hg : 1 < base) (hPr : Pr w base b l) (hb : base ≤ w.heap.size) (hl : l.length ≤ 70000000) :
  Calls Tryz.prog 95 #[.pointer (some ⟨b, 0, none⟩), v] w fun e w' => e = .returned (.tuple #[]) ∧ ∃ l', Hid (Pr w' base b l') ∧ Hid (Lk l' (l ++ ([123] ++ joF true ((ordS ns).map (memP (prN n) ns is)) ++ [125]))) ∧ Hid (l'.length ≤ max l.length 65536 + 100 * (n + 2)) ∧ Hid (Pk w w' base b) := by
 simp only [JV] at hJ
 obtain ⟨a1, ca, a2, c2, rfl, hN, hnc, _, _, hic, _, _, hIt⟩ := hJ
 simp only [Sz] at hz
 obtain ⟨hz1, hz2, hz3, hz4, hz5, hz6⟩ := hz
 obtain ⟨V, hV⟩ : ∃ V, V = w.heap.size := ⟨_, rfl⟩
 obtain ⟨W, hW⟩ : ∃ W, W = w.alloc (.cells #[.int .i64 k, .int .i64 i, .string (str t), .slice a1 ns.length ca, .slice a2 is.length c2] 44) := ⟨_, rfl⟩
 have bW : Below w.heap.size w W := by rw [hW]; exact bA _
 have sW : W.heap.size = V + 1 := by rw [hW, hV]; simp
 have rW : W.heap[V]? = some (.cells #[.int .i64 k, .int .i64 i, .string (str t), .slice a1 ns.length ca, .slice a2 is.length c2] 44 (0, 0)) := by rw [hW, hV]; exact heap_alloc_new _ _
 have hbV : b ≠ V := by have := hPr.lt; omega
 have HP1 := hide (put_any base b l [123] W (hPr.below bW) (by simp; omega) (by omega))
 have HKV : Hid (∀ u, Pk W u base b → u.heap[V]? = some (.cells #[.int .i64 k, .int .i64 i, .string (str t), .slice a1 ns.length ca, .slice a2 is.length c2] 44 (0, 0))) := fun u hu => hu.row rW (by decide) (fun e => hbV e.symm)
 have HbW := hide bW
 have HBS : Hid (base ≤ W.heap.size) := by show _ ≤ _; omega
 have HP := hide (hP.below bW)
 have HBB := hide hPr.1
 have HBW : Hid (b < W.heap.size) := by show _ < _; have := hPr.lt; omega
 have HS := hide hS
 have HZ6 := hide hz6
 have HZ5 := hide hz5
 have HI : Hid (JVs W S a2 0 is) := JVs.keep (fun k hk => ⟨hk, bW.block k (by have := hS k hk; omega)⟩) _ _ _ hIt
 have HN : Hid (NsF W S a1 ns) := hN.keep (fun k hk => ⟨hk, bW.block k (by have := hS k hk; omega)⟩)
 have HCKI := hide hck
 have HREC := hide hrec
 have HPk0 : Hid (Pk w W base b) := Pk.ofB bW
 have HSK : Hid (∀ u, Pk W u base b → ∀ k, S k → S k ∧ u.heap[k]? = W.heap[k]?) := fun u hu k hk => ⟨hk, hu.block k (by have := hS k hk; omega) (by have := hS k hk; have := hPr.1; omega) (.inl (hS k hk))⟩
 obtain ⟨m, hm⟩ : ∃ m, m = is.length := ⟨_, rfl⟩
 have hmn : m = ns.length := by omega
 have HM := hide hm
 have HMN := hide hmn
 have HND := hide hnd
 obtain ⟨MS, hMS⟩ : ∃ MS, MS = (ordS ns).map (memP (prN n) ns is) := ⟨_, rfl⟩
 rw [← hMS]
 have HMS := hide hMS
 have HF : Hid (joF true (MS.take m) = joF true MS) := by show _ = _; rw [List.take_of_length_le (by rw [hMS, List.length_map, (ordS_ris ns).len]; omega)]
 rw [← hm, ← hmn] at HKV
 rw [← hm, ← hmn]
 have hm9 : m ≤ 100000 := by omega
 obtain ⟨FIN, hFIN⟩ : ∃ FIN, FIN = l ++ ([123] ++ joF true MS ++ [125]) := ⟨_, rfl⟩
 rw [← hFIN]
 have HFIN := hide hFIN
 rw [← hm, ← hmn] at hW
 clear hN hIt hz6 hz5 bW sW rW hP hS hck hrec hFIN hPr hMS hnd hm hmn hnl hnc hic
 go_enter Tryz.func95, Tryz.ntmps95
 go_upto_region 1 with fail
 rw [← hW, ← hV]
 clear hW hV
 go_wp2_with fail
 refine (uh HP1).mono ?_
 rintro e w1 ⟨rfl, h1, h2⟩
 clear HP1
 obtain ⟨p0, p1, p2, p3, p4⟩ := cells5 (uh HKV w1 (uh h2))
 have HRI := hide (rising_any a1 ca ns S w1 ((uh HN).keep (uh HSK w1 (uh h2))) (by omega))
 rw [← uh HMN] at HRI
 clear p0 p1 p2 p4 hz3 hz4
 go_wp2_with fail
 refine (uh HRI).mono ?_
 rintro e w2 ⟨hB2, ao, o, rfl, hO, hR⟩
 rw [← uh HMN]
 have hoS : o = ordS ns := hO.eq (uh HND) (ordS_ris ns)
 subst hoS
 have HPk2 : Hid (Pk W w2 base b) := (uh h2).trans (Pk.ofB hB2)
 have HPr2 : Hid (Pr w2 base b (l ++ [123])) := (uh h1).below hB2
 have HOR := hide hR
 have HLO : Hid (b < w1.heap.size) := by show _ < _; have := uh HBW; have := (uh h2).size; omega
 clear hB2 hO hR HRI h1 h2 p3
 go_wp2_with fail
 go_loopw [5] (fun v wr => ∃ (q : Nat) (acc : List UInt8), q ≤ m ∧ v = .int .i64 (q : Int) ∧ Hid (acc.length ≤ max l.length 65536 + 100 * (n + 1) + 20) ∧ Hid (Pr wr base b acc) ∧ Hid (Pk w2 wr base b) ∧ Hid (Lk acc (l ++ [123] ++ joF true (MS.take q)))) (fun v _ => m - (intOf v).toNat)
 case atStart => exact ⟨0, _, Nat.zero_le _, rfl, by show _ ≤ _; simp; omega, HPr2, hide (Pk.refl _ _ _), by show Lk _ _; simp [joF]; exact Lk.refl _⟩
 case round =>
  obtain ⟨q, acc, hq, rfl, HL, H1, H2, HLK⟩ := hrel
  have HPkr : Hid (Pk W wr base b) := (uh HPk2).trans (uh H2)
  have HBr : Hid (base ≤ wr.heap.size) := Nat.le_trans (uh HBS) (uh HPkr).size
  have hal : acc.length ≤ 80000000 := by have := uh HL; omega
  by_cases hlt : q < m
  ·have hlt' : (q : Int) < (m : Int) := by omega
   have HFu := hide (full_any base b acc wr (uh H1))
   by_cases hfl : 65536 < acc.length
   ·rw [decide_eq_true hfl] at HFu
    have HQ := hide (put_any base b acc [125] wr (uh H1) (by simp; omega) (uh HBr))
    have HE : Hid (Lk (acc ++ [125]) FIN) := by
     have h3 := Lk.full (z := l ++ [123] ++ joF true MS) (uh HLK) hfl (by have := joF_le MS q; simp only [List.length_append]; omega)
     have h4 := h3.app [125]
     show Lk _ _
     rw [uh HFIN]
     simpa [List.append_assoc] using h4
    go_wp2_with fail
    refine (uh HFu).mono ?_
    rintro e w9 ⟨rfl, hw9⟩
    subst hw9
    clear HFu
    go_wp2_with fail
    refine (uh HQ).mono ?_
    rintro e w3 ⟨rfl, h3, h4⟩
    clear HQ
    go_wp2_with fail
    go_end0
    refine ⟨rfl, _, h3, HE, ?_, hide ((uh HPk0).trans ((uh HPkr).trans (uh h4)))⟩
    show _ ≤ _
    have := uh HL
    simp; omega
   ·rw [decide_eq_false hfl] at HFu
    have hol : (ordS ns).length = m := by rw [(ordS_ris ns).len, uh HMN]
    obtain ⟨p, hp⟩ : ∃ p, (ordS ns)[q]? = some p := ⟨_, List.getElem?_eq_getElem (by rw [hol]; exact hlt)⟩
    have hpm : p < m := by rw [uh HMN]; exact (ordS_ris ns).lt p (List.mem_of_getElem? hp)
    have hpm' : (p : Int) < (m : Int) := by omega
    obtain ⟨jj, hjj⟩ : ∃ jj, is[p]? = some jj := ⟨_, List.getElem?_eq_getElem (by rw [← uh HM]; exact hpm)⟩
    have HCo := hide (comma_any base b q acc wr (uh H1) (by omega) (uh HBr))
    have hel := (jvs_iff W S a2 is 0).1 (uh HI) p jj hjj
    rw [Nat.zero_add] at hel
    have HEL := hide hel
    have HJJ := hide hjj
    obtain ⟨nm, hnm⟩ : ∃ nm, nm = nmA ns p := ⟨_, rfl⟩
    have hne : ns ≠ [] := fun e => by rw [uh HMN, e] at hpm; simp at hpm
    have hone : ordS ns ≠ [] := fun e => by rw [e] at hp; simp at hp
    have hpn : p < ns.length := by rw [← uh HMN]; exact hpm
    have hnmg : ns[p]? = some nm := by rw [hnm, nmA_get hpn, List.getElem?_eq_getElem]
    have HNL : Hid (nm.length ≤ 100000) := uh HZ5 nm (List.mem_of_getElem? hnmg)
    have HMQ : Hid (MS[q]? = some (quo nm ++ [58] ++ prN n jj)) := by
     show _ = _
     rw [uh HMS, List.getElem?_map, hp]
     simp only [Option.map_some, memP]
     rw [← hnm, List.getD_eq_getElem?_getD, hjj]
     rfl
    have HNG := hide hnmg
    have HPQ := hide hp
    have HNE := hide hne
    have HONE := hide hone
    obtain ⟨acc1, hacc1⟩ : ∃ acc1, acc1 = acc ++ (if q = 0 then [] else [44]) := ⟨_, rfl⟩
    rw [← hacc1] at HCo
    have hal1 : acc1.length ≤ 65537 := by rw [hacc1]; split <;> simp <;> omega
    have HAC := hide hacc1
    clear hel hjj hacc1 hol hp hpm hnm hne hone hpn hnmg
    go_wp2_with fail
    refine (uh HFu).mono ?_
    rintro e w9 ⟨rfl, hw9⟩
    subst hw9
    clear HFu
    go_wp2_with fail
    refine (uh HCo).mono ?_
    rintro e w3 ⟨rfl, h3, h4⟩
    clear HCo
    have HPk3 : Hid (Pk w2 w3 base b) := (uh H2).trans (uh h4)
    have HPkW3 : Hid (Pk W w3 base b) := (uh HPk2).trans (uh HPk3)
    obtain ⟨p0, p1, p2, p3, p4⟩ := cells5 (uh HKV w3 (uh HPkW3))
    obtain ⟨G, cur, rfl, hlo, hrow, hcell⟩ := ((uh HOR).pk (uh HPk3) (uh HLO)) (uh HONE)
    obtain ⟨B, ob, rfl, hSB, hBc⟩ := ((uh HN).keep (uh HSK w3 (uh HPkW3))) (uh HNE)
    have c1 : w3.cell? ⟨G, q, none⟩ = some (.int .i64 (p : Int)) := hcell q p (uh HPQ)
    have c2 : w3.cell? ⟨B, ob + p, none⟩ = some (.string (str nm)) := hBc p nm (uh HNG)
    have HQT := hide (quoted_any base b acc1 nm w3.drew (uh h3).drew (by omega) (by have := uh HNL; omega) (by show _ ≤ w3.heap.size; exact Nat.le_trans (uh HBS) (uh HPkW3).size))
    obtain ⟨acc3, hacc3⟩ : ∃ acc3, acc3 = qtL (acc1 ++ [34]) nm ++ [34] := ⟨_, rfl⟩
    have HLK3 : Hid (Lk acc3 (acc1 ++ quo nm)) := by show Lk _ _; rw [hacc3]; exact quo_lk acc1 nm
    have hal3 : acc3.length ≤ 65546 := by rw [hacc3]; have := quo_len acc1 nm; omega
    rw [← hacc3] at HQT
    have HS5 : Hid (∀ u, Pk w3.drew u base b → u.cell? ⟨V, 3, none⟩ = some (.slice (some ⟨B, ob, none⟩) m ca) ∧ u.cell? ⟨G, q, none⟩ = some (.int .i64 (p : Int)) ∧ u.cell? ⟨B, ob + p, none⟩ = some (.string (str nm))) := by
     intro u hu
     have hu3 := (uh HPk3).trans hu.drew
     have huW := (uh HPk2).trans hu3
     obtain ⟨_, _, _, r3, _⟩ := cells5 (uh HKV u huW)
     obtain ⟨G', cur', e', _, _, hcell'⟩ := ((uh HOR).pk hu3 (uh HLO)) (uh HONE)
     cases e'
     have eb := (uh HSK u huW B hSB).2.trans (uh HSK w3 (uh HPkW3) B hSB).2.symm
     exact ⟨r3, hcell' q p (uh HPQ), cell_keep eb c2⟩
    clear hacc3 hrow hcell hBc hSB p0 p1 p2 p4 hlo
    go_wp2_with fail
    go_region_held3 (fun w' => w'.cell? ⟨V, 3, none⟩ = some (.slice (some ⟨B, ob, none⟩) m ca) ∧ w'.cell? ⟨G, q, none⟩ = some (.int .i64 (p : Int)) ∧ w'.cell? ⟨B, ob + p, none⟩ = some (.string (str nm))) (first | exact ⟨p3, c1, c2⟩ | assumption | go_keep) ((first | (go_at_call 93; refine (uh HQT).mono ?_; rintro e w4 ⟨rfl, h5, h6⟩; have S5 : w4.cell? ⟨V, 3, none⟩ = some (.slice (some ⟨B, ob, none⟩) m ca) ∧ w4.cell? ⟨G, q, none⟩ = some (.int .i64 (p : Int)) ∧ w4.cell? ⟨B, ob + p, none⟩ = some (.string (str nm)) := uh HS5 w4 (uh h6))))
    all_goals
     have HPk4 : Hid (Pk w2 w4 base b) := (uh HPk3).trans (uh h6).drew
     have HPkW4 : Hid (Pk W w4 base b) := (uh HPk2).trans (uh HPk4)
     clear HQT h6 p3 c1 c2
     have HQ2 := hide (put_any base b acc3 [58] w4 (uh h5) (by simp; omega) (Nat.le_trans (uh HBS) (uh HPkW4).size))
     go_wp2_with fail
     refine (uh HQ2).mono ?_
     rintro e w5 ⟨rfl, h7, h8⟩
     clear HQ2 h5
     have HPk5 : Hid (Pk w2 w5 base b) := (uh HPk4).trans (uh h8)
     have HPkW5 : Hid (Pk W w5 base b) := (uh HPk2).trans (uh HPk5)
     clear h8
     have hel5 := (uh HEL).keep (w' := w5) (S' := S) (uh HSK w5 (uh HPkW5))
     obtain ⟨bb, off, v0, v1, v2, v3, v4, rfl, hSb, g0, g1, g2, g3, g4, hj⟩ := hel5
     obtain ⟨jk, jn, jt, ja1, jn1, jc1, ja2, jn2, jc2, e⟩ := hj.form
     simp only [Value.agg.injEq, Array.mk.injEq, List.cons.injEq, and_true] at e
     obtain ⟨rfl, rfl, rfl, rfl, rfl⟩ := e
     obtain ⟨p0, p1, p2, p3, p4⟩ := cells5 (uh HKV w5 (uh HPkW5))
     obtain ⟨G', cur', e', _, _, hcell'⟩ := ((uh HOR).pk (uh HPk5) (uh HLO)) (uh HONE)
     cases e'
     have c1' : w5.cell? ⟨G, q, none⟩ = some (.int .i64 (p : Int)) := hcell' q p (uh HPQ)
     have hmem := List.mem_of_getElem? (uh HJJ)
     obtain ⟨acc4, hacc4⟩ : ∃ acc4, acc4 = acc3 ++ [58] := ⟨_, rfl⟩
     rw [← hacc4] at h7
     have hal4 : acc4.length ≤ 65547 := by rw [hacc4]; simp; omega
     have HV9 := hide (uh HREC jj S _ base b acc4 w5.drew (uh HCKI jj hmem) (JV.keep (w := w5) (w' := w5.drew) (fun k hk => ⟨hk, rfl⟩) _ _ hj) (uh HS) ((szs_iff is).1 (uh HZ6) jj hmem) (((uh HP).pk (uh HPkW5) hg (uh HBB)).keep rfl) hg (uh h7).drew (Nat.le_trans (uh HBS) (uh HPkW5).size) (by omega))
     have HA4 := hide hacc4
     have HS6 : Hid (∀ u, Pk w5.drew u base b → u.cell? ⟨V, 4, none⟩ = some (.slice (some ⟨bb, off, none⟩) m c2) ∧ u.cell? ⟨G, q, none⟩ = some (.int .i64 (p : Int)) ∧ u.cell? ⟨bb, off + p * 5, none⟩ = some (.int .i64 jk) ∧ u.cell? ⟨bb, off + p * 5 + 1, none⟩ = some (.int .i64 jn) ∧ u.cell? ⟨bb, off + p * 5 + 2, none⟩ = some (.string (str jt)) ∧ u.cell? ⟨bb, off + p * 5 + 3, none⟩ = some (.slice ja1 jn1 jc1) ∧ u.cell? ⟨bb, off + p * 5 + 4, none⟩ = some (.slice ja2 jn2 jc2)) := by
      intro u hu
      have hu5 := (uh HPk5).trans hu.drew
      have huW := (uh HPk2).trans hu5
      obtain ⟨_, _, _, _, r4⟩ := cells5 (uh HKV u huW)
      obtain ⟨G', cur', e', _, _, hcell'⟩ := ((uh HOR).pk hu5 (uh HLO)) (uh HONE)
      cases e'
      have eb := (uh HSK u huW bb hSb).2.trans (uh HSK w5 (uh HPkW5) bb hSb).2.symm
      exact ⟨r4, hcell' q p (uh HPQ), cell_keep eb g0, cell_keep eb g1, cell_keep eb g2, cell_keep eb g3, cell_keep eb g4⟩
     clear hj hmem p0 p1 p2 p3 hSb hcell' hacc4 h7
     go_wp2_with fail
     go_region_held3 (fun w' => w'.cell? ⟨V, 4, none⟩ = some (.slice (some ⟨bb, off, none⟩) m c2) ∧ w'.cell? ⟨G, q, none⟩ = some (.int .i64 (p : Int)) ∧ w'.cell? ⟨bb, off + p * 5, none⟩ = some (.int .i64 jk) ∧ w'.cell? ⟨bb, off + p * 5 + 1, none⟩ = some (.int .i64 jn) ∧ w'.cell? ⟨bb, off + p * 5 + 2, none⟩ = some (.string (str jt)) ∧ w'.cell? ⟨bb, off + p * 5 + 3, none⟩ = some (.slice ja1 jn1 jc1) ∧ w'.cell? ⟨bb, off + p * 5 + 4, none⟩ = some (.slice ja2 jn2 jc2)) (first | exact ⟨p4, c1', g0, g1, g2, g3, g4⟩ | assumption | go_keep) ((first | (go_at_call 55; refine (uh HV9).mono ?_; rintro e w6 ⟨rfl, acc5, k1, k2, k3, k4⟩; have S6 : w6.cell? ⟨V, 4, none⟩ = some (.slice (some ⟨bb, off, none⟩) m c2) ∧ w6.cell? ⟨G, q, none⟩ = some (.int .i64 (p : Int)) ∧ w6.cell? ⟨bb, off + p * 5, none⟩ = some (.int .i64 jk) ∧ w6.cell? ⟨bb, off + p * 5 + 1, none⟩ = some (.int .i64 jn) ∧ w6.cell? ⟨bb, off + p * 5 + 2, none⟩ = some (.string (str jt)) ∧ w6.cell? ⟨bb, off + p * 5 + 3, none⟩ = some (.slice ja1 jn1 jc1) ∧ w6.cell? ⟨bb, off + p * 5 + 4, none⟩ = some (.slice ja2 jn2 jc2) := uh HS6 w6 (uh k4))))
     all_goals
      have HPk6 : Hid (Pk w2 w6 base b) := (uh HPk5).trans (uh k4).drew
      have HLK6 : Hid (Lk acc5 (l ++ [123] ++ joF true (MS.take (q + 1)))) := by
       show Lk _ _
       rw [joF_take MS q _ (uh HMQ)]
       have j1 := ((uh HLK).app (if q = 0 then [] else [44])).app (quo nm)
       rw [← uh HAC] at j1
       have j2 := (((uh HLK3).trans j1).app [58]).app (prN n jj)
       rw [← uh HA4] at j2
       have j3 := (uh k2).trans j2
       simpa [List.append_assoc] using j3
      have HL6 : Hid (acc5.length ≤ max l.length 65536 + 100 * (n + 1) + 20) := by show _ ≤ _; have := uh k3; omega
      clear HV9 HS6 g0 g1 g2 g3 g4 p4 c1' k2 k3 k4 S6
      go_wp2_with fail
      go_roundw
      case rel => exact ⟨q + 1, acc5, by omega, by go_num, HL6, k1, HPk6, HLK6⟩
      case measure => simp [intOf]; omega
  ·have hqm : q = m := by omega
   subst hqm
   have hlt' : ¬ (q : Int) < (q : Int) := by omega
   have HQ := hide (put_any base b acc [125] wr (uh H1) (by simp; omega) (uh HBr))
   have HE : Hid (Lk (acc ++ [125]) FIN) := by
    have h4 := (uh HLK).app [125]
    rw [uh HF] at h4
    show Lk _ _
    rw [uh HFIN]
    simpa [List.append_assoc] using h4
   go_wp2_with fail
   refine (uh HQ).mono ?_
   rintro e w3 ⟨rfl, h3, h4⟩
   clear HQ
   go_wp2_with fail
   go_end0
   refine ⟨rfl, _, h3, HE, ?_, hide ((uh HPk0).trans ((uh HPkr).trans (uh h4)))⟩
   show _ ≤ _
   have := uh HL
   simp; omega
end Go.Proofs.YtmpjeahibfdehaaGreatDoor
end
section
set_option linter.unusedVariables false
set_option maxRecDepth 1000000
namespace Go.Proofs.YtmpjeahibfdehaaGreatDoor
open Go.RowKit

theorem ck_zero (n : Nat) (k i : Int) (t : List UInt8) (ns : List (List UInt8)) (is : List Js) (h : ck n (.mk k i t ns is) = 0) : wfB (.mk k i t ns is) = true ∧ ns.Nodup ∧ ((k = 4 ∨ k = 5) → ∃ m, n = m + 1 ∧ ∀ x ∈ is, ck m x = 0) := by
 have key : ∀ C : Option (Js → Nat), ckF C (.mk k i t ns is) = 0 → wfB (.mk k i t ns is) = true ∧ ns.Nodup ∧ ((k = 4 ∨ k = 5) → ∃ C', C = some C' ∧ ∀ x ∈ is, C' x = 0) := by
  intro C hC
  rw [ckF_eq] at hC
  split at hC
  ·cases hC
  ·split at hC
   ·cases hC
   ·split at hC
    ·cases hC
    ·rename_i h1 h2 h3
     refine ⟨by simpa using h2, by simpa using h3, fun hk => ?_⟩
     cases C with
     | none => exact absurd ⟨hk, rfl⟩ h1
     | some C => exact ⟨C, rfl, fsE_zero.1 hC⟩
 cases n with
 | zero =>
  obtain ⟨h1, h2, h3⟩ := key none h
  exact ⟨h1, h2, fun hk => by obtain ⟨C', e, _⟩ := h3 hk; cases e⟩
 | succ m =>
  obtain ⟨h1, h2, h3⟩ := key (some (ck m)) h
  exact ⟨h1, h2, fun hk => by obtain ⟨C', e, h⟩ := h3 hk; cases e; exact ⟨m, rfl, h⟩⟩
theorem wf_kind {k i : Int} {t : List UInt8} {ns : List (List UInt8)} {is : List Js} (h : wfB (.mk k i t ns is) = true) : (k = 0 ∨ k = 1 ∨ k = 2 ∨ k = 3 ∨ k = 4 ∨ k = 5) ∧ (k = 5 → ns.length = is.length) := by
 rw [wfB] at h
 by_cases h0 : k = 0
 ·exact ⟨.inl h0, fun e => by omega⟩
 by_cases h1 : k = 1
 ·exact ⟨.inr (.inl h1), fun e => by omega⟩
 by_cases h2 : k = 2
 ·exact ⟨.inr (.inr (.inl h2)), fun e => by omega⟩
 by_cases h3 : k = 3
 ·exact ⟨.inr (.inr (.inr (.inl h3))), fun e => by omega⟩
 by_cases h4 : k = 4
 ·exact ⟨.inr (.inr (.inr (.inr (.inl h4)))), fun e => by omega⟩
 by_cases h5 : k = 5
 ·refine ⟨.inr (.inr (.inr (.inr (.inr h5)))), fun _ => ?_⟩
  rw [if_neg h0, if_neg h1, if_neg h2, if_neg h3, if_neg h4, if_pos h5] at h
  simp only [Bool.and_eq_true, beq_iff_eq] at h
  exact h.1.2
 ·rw [if_neg h0, if_neg h1, if_neg h2, if_neg h3, if_neg h4, if_neg h5] at h
  cases h
theorem prN_eq (n : Nat) (j : Js) : ∃ P, prN n j = prF P j ∧ ∀ m, n = m + 1 → P = prN m := by
 cases n with
 | zero => exact ⟨fun _ => [], rfl, fun m e => by cases e⟩
 | succ m => exact ⟨prN m, rfl, fun m' e => by cases e; rfl⟩
set_option maxHeartbeats 8000000 in
theorem value_core (n : Nat) (hn9 : n ≤ 16) (hrec : ∀ m, n = m + 1 → PvC m) : PvC n := by
 intro j S v base b l w hck hJ hS hz hP hg hPr hb hl
 cases j with
 | mk k i t ns is =>
 obtain ⟨hwf, hnd, hit⟩ := ck_zero n k i t ns is hck
 obtain ⟨hkk, hnl⟩ := wf_kind hwf
 obtain ⟨P, hPN, hPm⟩ := prN_eq n (.mk k i t ns is)
 have hJ0 := hJ
 simp only [JV] at hJ
 obtain ⟨a1, ca, a2, c2, rfl, _⟩ := hJ
 have hz0 := hz
 simp only [Sz] at hz
 obtain ⟨hz1, hz2, _⟩ := hz
 obtain ⟨V, hV⟩ : ∃ V, V = w.heap.size := ⟨_, rfl⟩
 obtain ⟨W, hW⟩ : ∃ W, W = w.alloc (.cells #[.int .i64 k, .int .i64 i, .string (str t), .slice a1 ns.length ca, .slice a2 is.length c2] 44) := ⟨_, rfl⟩
 have bW : Below w.heap.size w W := by rw [hW]; exact bA _
 have sW : W.heap.size = V + 1 := by rw [hW, hV]; simp
 have rW : W.heap[V]? = some (.cells #[.int .i64 k, .int .i64 i, .string (str t), .slice a1 ns.length ca, .slice a2 is.length c2] 44 (0, 0)) := by rw [hW, hV]; exact heap_alloc_new _ _
 obtain ⟨p0, p1, p2, p3, p4⟩ := cells5 rW
 have hPW := hPr.below bW
 have hbWs : base ≤ W.heap.size := by omega
 have hPk0 : Pk w W base b := Pk.ofB bW
 have hJW : JV W S (.agg #[.int .i64 k, .int .i64 i, .string (str t), .slice a1 ns.length ca, .slice a2 is.length c2]) (.mk k i t ns is) := JV.keep (fun k hk => ⟨hk, bW.block k (by have := hS k hk; omega)⟩) _ _ hJ0
 have hP10 := hP.below bW
 rw [hPN]
 have HPk0 := hide hPk0
 obtain ⟨OUT, hOUT⟩ : ∃ OUT, OUT = prF P (.mk k i t ns is) := ⟨_, rfl⟩
 rw [← hOUT]
 rw [prF] at hOUT
 clear hck hJ0 hwf hPr bW sW rW hP hPk0 hPN hb
 rcases hkk with rfl | rfl | rfl | rfl | rfl | rfl
 ·rw [if_pos rfl] at hOUT
  have HQ := hide (put_any base b l [110, 117, 108, 108] W hPW (by simp; omega) hbWs)
  have HOUT := hide hOUT
  clear hOUT hJW hP10 hPW hbWs hrec hS hit hz0 hnd hnl hPm
  go_enter Tryz.func55, Tryz.ntmps55
  go_upto_region 1 with fail
  rw [← hW, ← hV]
  clear hW hV
  go_wp2_with fail
  refine (uh HQ).mono ?_
  rintro e w1 ⟨rfl, h1, h2⟩
  clear HQ p0 p1 p2 p3 p4
  go_wp2_with fail
  go_end0
  refine ⟨rfl, _, h1, by rw [uh HOUT]; exact hide (Lk.refl _), by show _ ≤ _; simp; omega, hide ((uh HPk0).trans (uh h2))⟩
 ·rw [if_neg (by decide), if_pos rfl] at hOUT
  have HFB := hide (fmtBool_any (i == 1) W)
  have hOUT2 : OUT = if (i == 1) = true then [116, 114, 117, 101] else [102, 97, 108, 115, 101] := by rw [hOUT]; simp
  have hol : OUT.length ≤ 5 := by rw [hOUT2]; split <;> simp
  rw [← hOUT2] at HFB
  have HQ := hide (put_any base b l OUT W hPW (by omega) hbWs)
  clear hOUT hOUT2 hJW hP10 hPW hbWs hrec hS hit hz0 hnd hnl hPm
  go_enter Tryz.func55, Tryz.ntmps55
  go_upto_region 1 with fail
  rw [← hW, ← hV]
  clear hW hV
  go_wp2_with fail
  refine (uh HFB).mono ?_
  rintro e w9 ⟨rfl, hw9⟩
  subst hw9
  clear HFB
  go_wp2_with fail
  refine (uh HQ).mono ?_
  rintro e w1 ⟨rfl, h1, h2⟩
  clear HQ p0 p1 p2 p3 p4
  go_wp2_with fail
  go_end0
  refine ⟨rfl, _, h1, hide (Lk.refl _), by show _ ≤ _; simp; omega, hide ((uh HPk0).trans (uh h2))⟩
 ·rw [if_neg (by decide), if_neg (by decide), if_pos rfl] at hOUT
  have HFI := hide (fmtInt_any i hz1.1 hz1.2 W hP10)
  have hol : OUT.length ≤ 21 := by rw [hOUT]; exact Lib.itoa_length_le i hz1.1 hz1.2
  rw [← hOUT] at HFI
  have HPW := hide hPW
  have HBW := hide hbWs
  clear hOUT hJW hP10 hPW hbWs hrec hS hit hz0 hnd hnl hPm
  go_enter Tryz.func55, Tryz.ntmps55
  go_upto_region 1 with fail
  rw [← hW, ← hV]
  clear hW hV
  go_wp2_with fail
  refine (uh HFI).mono ?_
  rintro e w9 ⟨rfl, hb9⟩
  have HQ := hide (put_any base b l OUT w9 ((uh HPW).below (uh hb9)) (by omega) (Nat.le_trans (uh HBW) (uh hb9).size))
  have HPk9 : Hid (Pk w w9 base b) := (uh HPk0).trans (Pk.ofB (uh hb9))
  clear HFI hb9
  go_wp2_with fail
  refine (uh HQ).mono ?_
  rintro e w1 ⟨rfl, h1, h2⟩
  clear HQ p0 p1 p2 p3 p4
  go_wp2_with fail
  go_end0
  refine ⟨rfl, _, h1, hide (Lk.refl _), by show _ ≤ _; simp; omega, hide ((uh HPk9).trans (uh h2))⟩
 ·rw [if_neg (by decide), if_neg (by decide), if_neg (by decide), if_pos rfl] at hOUT
  have HQ := hide (quoted_any base b l t W hPW (by omega) (by omega) hbWs)
  have HLK := hide (quo_lk l t)
  have HLN := hide (quo_len l t)
  rw [← hOUT] at HLK
  clear hOUT hJW hP10 hPW hbWs hrec hS hit hz0 hnd hnl hPm
  go_enter Tryz.func55, Tryz.ntmps55
  go_upto_region 1 with fail
  rw [← hW, ← hV]
  clear hW hV
  go_wp2_with fail
  refine (uh HQ).mono ?_
  rintro e w1 ⟨rfl, h1, h2⟩
  clear HQ p0 p1 p2 p3 p4
  go_wp2_with fail
  go_end0
  refine ⟨rfl, _, h1, HLK, by show _ ≤ _; have := uh HLN; omega, hide ((uh HPk0).trans (uh h2))⟩
 ·obtain ⟨m, rfl, him⟩ := hit (.inl rfl)
  rw [if_neg (by decide), if_neg (by decide), if_neg (by decide), if_neg (by decide), if_pos rfl, hPm m rfl] at hOUT
  have HQ := hide (plist_any m (hrec m rfl) (by omega) 4 i t ns is S _ base b l W him hJW hS hz0 hP10 hg hPW hbWs hl)
  rw [← hOUT] at HQ
  clear hOUT hJW hP10 hPW hbWs hrec hS hit hz0 hnd hnl hPm him
  go_enter Tryz.func55, Tryz.ntmps55
  go_upto_region 1 with fail
  rw [← hW, ← hV]
  clear hW hV
  go_wp2_with fail
  refine (uh HQ).mono ?_
  rintro e w1 ⟨rfl, l', h1, h2, h3, h4⟩
  clear HQ p0 p1 p2 p3 p4
  go_wp2_with fail
  go_end0
  exact ⟨rfl, l', h1, h2, h3, hide ((uh HPk0).trans (uh h4))⟩
 ·obtain ⟨m, rfl, him⟩ := hit (.inr rfl)
  rw [if_neg (by decide), if_neg (by decide), if_neg (by decide), if_neg (by decide), if_neg (by decide), if_pos rfl, hPm m rfl] at hOUT
  have HQ := hide (pobj_any m (hrec m rfl) (by omega) 5 i t ns is S _ base b l W him hnd (hnl rfl) hJW hS hz0 hP10 hg hPW hbWs hl)
  rw [← hOUT] at HQ
  clear hOUT hJW hP10 hPW hbWs hrec hS hit hz0 hnd hnl hPm him
  go_enter Tryz.func55, Tryz.ntmps55
  go_upto_region 1 with fail
  rw [← hW, ← hV]
  clear hW hV
  go_wp2_with fail
  refine (uh HQ).mono ?_
  rintro e w1 ⟨rfl, l', h1, h2, h3, h4⟩
  clear HQ p0 p1 p2 p3 p4
  go_wp2_with fail
  go_end0
  exact ⟨rfl, l', h1, h2, h3, hide ((uh HPk0).trans (uh h4))⟩
theorem value9 : ∀ n, n ≤ 16 → PvC n
 | 0, h => value_core 0 h (fun m e => by cases e)
 | n + 1, h => value_core (n + 1) h (fun m e => by cases e; exact value9 n (by omega))
end Go.Proofs.YtmpjeahibfdehaaGreatDoor
end
section
set_option linter.unusedVariables false
set_option maxRecDepth 1000000
namespace Go.Proofs.YtmpjeahibfdehaaGreatDoor
open Go.RowKit

set_option maxHeartbeats 4000000 in
theorem print_any (j : Js) (S : Nat → Prop) (v : Value) (w : World) (hT : Tb4 w) (hP : P10 w) (hJ : JV w S v j) (hS : ∀ k, S k → k < w.heap.size) (hz : Sz j) :
  Calls Tryz.prog 26 #[v] w fun e w' => e = .returned (.tuple #[.string (str (prM j).1), .int .i64 ((prM j).2 : Int)]) ∧ Hid (Below w.heap.size w w') := by
 obtain ⟨k, n, t, a1, n1, c1, a2, n2, c2, rfl⟩ := hJ.form
 obtain ⟨W, hW⟩ : ∃ W, W = w.alloc (.cells #[.int .i64 k, .int .i64 n, .string (str t), .slice a1 n1 c1, .slice a2 n2 c2] 44) := ⟨_, rfl⟩
 obtain ⟨V, hV⟩ : ∃ V, V = w.heap.size := ⟨_, rfl⟩
 have bW : Below w.heap.size w W := by rw [hW]; exact bA _
 have sW : W.heap.size = V + 1 := by rw [hW, hV]; simp
 have rW : W.heap[V]? = some (.cells #[.int .i64 k, .int .i64 n, .string (str t), .slice a1 n1 c1, .slice a2 n2 c2] 44 (0, 0)) := by rw [hW, hV]; exact heap_alloc_new _ _
 obtain ⟨p0, p1, p2, p3, p4⟩ := cells5 rW
 have HC := hide (checkJ_any j S _ W (hT.below bW) (JV.keep (fun k hk => ⟨hk, bW.block k (hS k hk)⟩) _ _ hJ) (fun k hk => Nat.lt_of_lt_of_le (hS k hk) bW.size) hz)
 obtain ⟨OT, hOT⟩ : ∃ OT, OT = (prM j).1 := ⟨_, rfl⟩
 obtain ⟨OE, hOE⟩ : ∃ OE, OE = (prM j).2 := ⟨_, rfl⟩
 rw [← hOT, ← hOE]
 have HOT := hide hOT
 have HOE := hide hOE
 generalize hE : ck 16 j = E at HC
 have HE := hide hE
 have HB := hide bW
 have HRW := hide rW
 have HsW := hide sW
 have HJ := hide hJ
 have HS := hide hS
 have HZ := hide hz
 have HP := hide hP
 clear hT hJ hS hz rW bW sW hOT hOE hE hP
 go_enter Tryz.func26, Tryz.ntmps26
 go_upto_region 1 with fail
 rw [← hW, ← hV]
 have HVV := hide hV
 clear hW hV
 go_wp2_with fail
 refine (uh HC).mono ?_
 rintro e w1 ⟨rfl, h1⟩
 have HB1 : Hid (Below w.heap.size w w1) := (uh HB).trans ((uh h1).mono (uh HB).size)
 have HR1 : Hid (w1.heap[V]? = some (.cells #[.int .i64 k, .int .i64 n, .string (str t), .slice a1 n1 c1, .slice a2 n2 c2] 44 (0, 0))) := ((uh h1).block V (by rw [uh HsW]; omega)).trans (uh HRW)
 clear HC h1 p0 p1 p2 p3 p4
 by_cases hE0 : E = 0
 ·have hEb : (((E : Nat) : Int) != 0) = false := by rw [hE0]; rfl
  obtain ⟨b, hb⟩ : ∃ b, b = w1.heap.size := ⟨_, rfl⟩
  obtain ⟨U, hU⟩ : ∃ U, U = w1.alloc (.cells #[.slice none 0 0] 82) := ⟨_, rfl⟩
  have bU : Below w1.heap.size w1 U := by rw [hU]; exact bA _
  have sU : U.heap.size = b + 1 := by rw [hU, hb]; simp
  have hPr : Pr U b b [] := by
   refine ⟨Nat.le_refl _, none, 0, ?_, OwnB.nil _ _⟩
   rw [hU, hb]; exact heap_alloc_new _ _
  have hwU : Below w.heap.size w U := (uh HB1).trans (bU.mono (uh HB1).size)
  have hP10 := (uh HP).below hwU
  have hlt10 := (uh HP).lt
  have hsz1 := (uh HB1).size
  have HV9 := hide (value9 16 (Nat.le_refl _) j S _ b b [] U (by rw [uh HE]; exact hE0) (JV.keep (fun k hk => ⟨hk, hwU.block k (uh HS k hk)⟩) _ _ (uh HJ)) (fun k hk => by have := uh HS k hk; omega) (uh HZ) hP10 (by omega) hPr (by omega) (by simp))
  have rU : U.heap[V]? = some (.cells #[.int .i64 k, .int .i64 n, .string (str t), .slice a1 n1 c1, .slice a2 n2 c2] 44 (0, 0)) := (bU.block V (aI (uh HR1)).1).trans (uh HR1)
  obtain ⟨p0, p1, p2, p3, p4⟩ := cells5 rU
  have HwU := hide hwU
  have HsU : Hid (b ≤ U.heap.size ∧ w.heap.size ≤ b) := ⟨by omega, by omega⟩
  have HEE := hide hE0
  clear bU sU hPr hwU hP10 hlt10 hsz1 rU hE0
  go_upto_region 5 with fail
  rw [← hU, ← hb]
  clear hU hb
  go_wp2_with fail
  refine (uh HV9).mono ?_
  rintro e w2 ⟨rfl, l', k1, k2, k3, k4⟩
  clear HV9 p0 p1 p2 p3 p4
  have HB2 : Hid (Below w.heap.size w w2) := by
   have q := (uh k4).below (Nat.le_refl _) (uh HsU).1
   exact (uh HwU).trans (q.mono (uh HsU).2)
  have HFu := hide (full_any b b l' w2 (uh k1))
  have hLk : Lk l' (prN 16 j) := by have := uh k2; rwa [List.nil_append] at this
  by_cases hfl : 65536 < l'.length
  ·rw [decide_eq_true hfl] at HFu
   have hp9 : 65536 < (prN 16 j).length := by
    rcases hLk with e | e
    ·rw [← e]; exact hfl
    ·exact e.2
   have hpm : prM j = ([], 4) := by unfold prM; rw [if_neg (by rw [uh HE, uh HEE]; simp), if_pos hp9]
   have HO1 : Hid (OT = []) := by show _ = _; rw [uh HOT, hpm]
   have HO2 : Hid (OE = 4) := by show _ = _; rw [uh HOE, hpm]
   clear hLk hfl hp9 hpm
   go_wp2_with fail
   refine (uh HFu).mono ?_
   rintro e w9 ⟨rfl, hw9⟩
   subst hw9
   clear HFu
   go_wp2_with fail
   go_ret2
   rw [uh HO1, uh HO2]
   exact ⟨rfl, HB2⟩
  ·rw [decide_eq_false hfl] at HFu
   have hle : l' = prN 16 j := by
    rcases hLk with e | e
    ·exact e
    ·exact absurd e.1 hfl
   have hpm : prM j = (l', 0) := by unfold prM; rw [if_neg (by rw [uh HE, uh HEE]; simp), ← hle, if_neg hfl]
   have HO1 : Hid (OT = l') := by show _ = _; rw [uh HOT, hpm]
   have HO2 : Hid (OE = 0) := by show _ = _; rw [uh HOE, hpm]
   obtain ⟨_, a9, c9, hC9, hO9⟩ := uh k1
   have q0 := hC9.cell 0
   simp only [List.getElem?_cons_zero] at q0
   have kS := run_str w2 a9 _ c9 l' hO9.toBs.row rfl
   clear hLk hfl hle hpm hC9 hO9
   go_wp2_with fail
   refine (uh HFu).mono ?_
   rintro e w9 ⟨rfl, hw9⟩
   subst hw9
   clear HFu
   go_wp2_with fail
   go_ret2
   rw [uh HO1, uh HO2]
   exact ⟨rfl, HB2⟩
 ·have hEb : (((E : Nat) : Int) != 0) = true := by simp; omega
  have hpm : prM j = ([], E) := by unfold prM; rw [uh HE, if_pos hE0]
  have HO1 : Hid (OT = []) := by show _ = _; rw [uh HOT, hpm]
  have HO2 : Hid (OE = E) := by show _ = _; rw [uh HOE, hpm]
  clear hE0 hpm
  go_wp2_with fail
  go_ret2
  rw [uh HO1, uh HO2]
  exact ⟨rfl, HB1⟩
end Go.Proofs.YtmpjeahibfdehaaGreatDoor
end
section
set_option linter.unusedVariables false
set_option maxRecDepth 1000000
namespace Go.Proofs.YtmpjeahibfdehaaGreatDoor
open Go.RowKit

def awT : List UInt8 := [123, 34, 98, 34, 58, 49, 44, 34, 97, 34, 58, 91, 116, 114, 117, 101, 44, 110, 117, 108, 108, 93, 125]
def awP : List UInt8 := [123, 34, 97, 34, 58, 91, 116, 114, 117, 101, 44, 110, 117, 108, 108, 93, 44, 34, 98, 34, 58, 49, 125]
def awJ : Js := .mk 5 0 [] [[98], [97]] [.mk 2 1 [] [] [], .mk 4 0 [] [] [.mk 1 1 [] [] [], .mk 0 0 [] [] []]]
theorem aw_ps : psM awT = (awJ, 0, 0) := by kernel_rfl
theorem aw_no : psM [91, 49, 44, 93] = (Js.nul, 3, 40) := by kernel_rfl
theorem aw_pr : prM awJ = (awP, 0) := by kernel_rfl
theorem aw_sz : Sz awJ := by simp [awJ, Sz, Szs]
/-- What the statements of jsonx know of the world. -/
structure Env4 (w : World) : Prop where
 tb : Tb4 w
 et : Et4 w
 pt : P10 w
theorem Env4.below {w w' : World} (h : Env4 w) (hb : Below w.heap.size w w') : Env4 w' := ⟨h.tb.below hb, h.et.below hb, h.pt.below hb⟩
end Go.Proofs.YtmpjeahibfdehaaGreatDoor
end
section
set_option linter.unusedVariables false
namespace Go.Proofs.YtmpjeahibfdehaaGreatDoor
open Go.RowKit

/-- No number goes on with these. -/
def Ns (x : List UInt8) : Prop := ∀ c t, x = c :: t → dgB4 c = false ∧ fracB (c :: t) = false
theorem ns_nil : Ns [] := fun c t e => by cases e
theorem ns_cons {c : UInt8} {t : List UInt8} (h : dgB4 c = false) (k : fracB (c :: t) = false) : Ns (c :: t) := fun c' t' e => by cases e; exact ⟨h, k⟩
theorem tk_op (c : UInt8) (l x r : List UInt8) (u : Unit) (h : tkM c l = .ok u r) : tkM c (l ++ x) = .ok () (r ++ x) := by
 rw [tk_len c l r h]
 simp [tkM]
theorem wd_self : ∀ (u r : List UInt8), wdM u (u ++ r) = .ok () r
 | [], r => rfl
 | c :: u, r => by rw [List.cons_append, wdM, if_pos rfl]; exact wd_self u r
theorem wd_op (u l x r : List UInt8) (y : Unit) (h : wdM u l = .ok y r) : wdM u (l ++ x) = .ok () (r ++ x) := by
 rw [wd_len u l r h, List.append_assoc, wd_self]
theorem un_op (fit : Nat → Nat → Bool) (x : List UInt8) : ∀ (k n : Nat) (l : List UInt8) (m : Nat) (r : List UInt8), unM fit k n l = .ok m r → unM fit k n (l ++ x) = .ok m (r ++ x)
 | 0, n, l, m, r, h => by
  simp only [unM, Rs.ok.injEq] at h
  rw [unM, h.1, h.2]
 | k + 1, n, [], m, r, h => by simp [unM] at h
 | k + 1, n, c :: l, m, r, h => by
  rw [unM] at h
  rw [List.cons_append, unM]
  cases hx : hxB c with
  | none => rw [hx] at h; cases h
  | some d =>
   rw [hx] at h
   simp only at h ⊢
   split at h
   ·rename_i hf
    rw [if_pos hf]
    exact un_op fit x k _ l m r h
   ·cases h
theorem hc_op (l x : List UInt8) (n : Nat) (r : List UInt8) (h : hcM l = .ok n r) : hcM (l ++ x) = .ok n (r ++ x) := by
 unfold hcM at h ⊢
 cases h1 : unM fitH 4 0 l with
 | no r y => rw [h1] at h; cases h
 | ok hh r1 =>
  rw [h1] at h
  rw [un_op fitH x 4 0 l hh r1 h1]
  simp only at h ⊢
  split at h
  ·rename_i hc
   rw [if_pos hc]
   cases h2 : wdM [92, 117] r1 with
   | no r y => rw [h2] at h; cases h
   | ok u r2 =>
    rw [h2] at h
    rw [wd_op _ r1 x r2 u h2]
    simp only at h ⊢
    cases h3 : unM fitL 4 0 r2 with
    | no r y => rw [h3] at h; cases h
    | ok lo r3 =>
     rw [h3] at h
     rw [un_op fitL x 4 0 r2 lo r3 h3]
     simp only [Rs.ok.injEq] at h ⊢
     exact ⟨h.1, by rw [h.2]⟩
  ·rename_i hc
   rw [if_neg hc]
   simp only [Rs.ok.injEq] at h ⊢
   exact ⟨h.1, by rw [h.2]⟩
theorem es_op (l x : List UInt8) (n : Nat) (r : List UInt8) (h : esM l = .ok n r) : esM (l ++ x) = .ok n (r ++ x) := by
 unfold esM at h ⊢
 cases h1 : tkM 92 l with
 | no r y => rw [h1] at h; cases h
 | ok u r1 =>
  rw [h1] at h
  rw [tk_op 92 l x r1 u h1]
  cases r1 with
  | nil => cases h
  | cons c r2 =>
   simp only [List.cons_append] at h ⊢
   split at h
   ·rename_i hc
    rw [if_pos hc]
    exact hc_op r2 x n r h
   ·rename_i hc
    rw [if_neg hc]
    cases hv : escV c with
    | none => rw [hv] at h; cases h
    | some m =>
     rw [hv] at h
     simp only [Rs.ok.injEq] at h ⊢
     exact ⟨h.1, by rw [h.2]⟩
theorem chl_op (x : List UInt8) : ∀ (l p q r : List UInt8), chL p l = .ok q r → chL p (l ++ x) = .ok q (r ++ x)
 | [], p, q, r, h => by simp [chL] at h
 | c :: l, p, q, r, h => by
  simp only [chL] at h
  simp only [List.cons_append, chL]
  split at h
  ·rename_i h1
   rw [if_pos h1]
   split at h
   ·rename_i h2
    rw [if_pos h2]
    simp only [Rs.ok.injEq] at h ⊢
    exact ⟨h.1, by rw [h.2]⟩
   ·cases h
  ·rename_i h1
   rw [if_neg h1]
   exact chl_op x l _ q r h
theorem uql_op (x : List UInt8) : ∀ (f f' : Nat) (acc l t r : List UInt8), f ≤ f' → uqL f acc l = .ok t r → uqL f' acc (l ++ x) = .ok t (r ++ x)
 | 0, f', acc, l, t, r, hf, h => by simp [uqL] at h
 | f + 1, 0, acc, l, t, r, hf, h => by omega
 | f + 1, f' + 1, acc, [], t, r, hf, h => by simp [uqL] at h
 | f + 1, f' + 1, acc, c :: l, t, r, hf, h => by
  simp only [uqL] at h
  simp only [List.cons_append, uqL]
  split at h
  ·rename_i h1
   rw [if_pos h1]
   simp only [Rs.ok.injEq] at h ⊢
   exact ⟨h.1, by rw [← h.2]; rfl⟩
  ·rename_i h1
   rw [if_neg h1]
   split at h
   ·rename_i h2
    rw [if_pos h2]
    cases h3 : esM (c :: l) with
    | no r y => rw [h3] at h; cases h
    | ok n r1 =>
     have h4 := es_op (c :: l) x n r1 h3
     rw [List.cons_append] at h4
     rw [h3] at h
     rw [h4]
     exact uql_op x f f' _ r1 t r (by omega) h
   ·rename_i h2
    rw [if_neg h2]
    split at h
    ·cases h
    ·rename_i h5
     rw [if_neg h5]
     cases h3 : chM (c :: l) with
     | no r y => rw [h3] at h; cases h
     | ok n r1 =>
      have h4 : chM ((c :: l) ++ x) = .ok n (r1 ++ x) := chl_op x (c :: l) [] n r1 h3
      rw [List.cons_append] at h4
      rw [h3] at h
      rw [h4]
      exact uql_op x f f' _ r1 t r (by omega) h
theorem uq_op (l x t r : List UInt8) (h : uqM l = .ok t r) : uqM (l ++ x) = .ok t (r ++ x) := by
 unfold uqM at h ⊢
 cases h1 : tkM 34 l with
 | no r y => rw [h1] at h; cases h
 | ok u r1 =>
  rw [h1] at h
  rw [tk_op 34 l x r1 u h1]
  exact uql_op x _ _ [] r1 t r (by simp) h
theorem dgl_op (m : Nat) (x : List UInt8) (hx : Ns x) : ∀ (l : List UInt8) (n k : Nat) (r : List UInt8), dgL m n l = .ok k r → dgL m n (l ++ x) = .ok k (r ++ x)
 | [], n, k, r, h => by
  simp only [dgL, Rs.ok.injEq] at h
  obtain ⟨rfl, rfl⟩ := h
  cases x with
  | nil => rfl
  | cons c t =>
   rw [List.nil_append, dgL, if_neg (by rw [(hx c t rfl).1]; simp)]
 | c :: l, n, k, r, h => by
  simp only [dgL] at h
  simp only [List.cons_append, dgL]
  split at h
  ·rename_i h1
   rw [if_pos h1]
   split at h
   ·cases h
   ·rename_i h2
    rw [if_neg h2]
    exact dgl_op m x hx l _ k r h
  ·rename_i h1
   rw [if_neg h1]
   simp only [Rs.ok.injEq] at h ⊢
   exact ⟨h.1, by rw [← h.2]; rfl⟩
theorem dgm_op (m : Nat) (l x : List UInt8) (hx : Ns x) (k : Nat) (r : List UInt8) (h : dgM m l = .ok k r) : dgM m (l ++ x) = .ok k (r ++ x) := by
 cases l with
 | nil => simp [dgM] at h
 | cons c l =>
  simp only [dgM] at h
  simp only [List.cons_append, dgM]
  split at h
  ·rename_i h1
   rw [if_pos h1]
   cases l with
   | nil =>
    simp only [Rs.ok.injEq] at h
    obtain ⟨rfl, rfl⟩ := h
    cases x with
    | nil => rfl
    | cons c t =>
     simp only [List.nil_append]
     rw [if_neg (by rw [(hx c t rfl).1]; simp)]
   | cons y l =>
    simp only [List.cons_append] at h ⊢
    split at h
    ·cases h
    ·rename_i h2
     rw [if_neg h2]
     simp only [Rs.ok.injEq] at h ⊢
     exact ⟨h.1, by rw [← h.2]; rfl⟩
  ·rename_i h1
   rw [if_neg h1]
   split at h
   ·rename_i h2
    rw [if_pos h2]
    exact dgl_op m x hx (c :: l) 0 k r h
   ·cases h
theorem frac_op (x : List UInt8) (hx : Ns x) (r : List UInt8) : fracB (r ++ x) = fracB r := by
 cases r with
 | nil =>
  cases x with
  | nil => rfl
  | cons c t => exact (hx c t rfl).2
 | cons c r => rfl
theorem nu_op (l x : List UInt8) (hx : Ns x) (k : Int) (r : List UInt8) (h : nuM l = .ok k r) : nuM (l ++ x) = .ok k (r ++ x) := by
 cases l with
 | nil => exact absurd h (by unfold nuM; simp [dgM])
 | cons c l =>
  have key : ∀ (neg : Bool) (s : List UInt8), (match dgM (if neg then 9223372036854775808 else 9223372036854775807) s with | .no r y => .no r y | .ok n r => if fracB r then .no r 42 else .ok (if neg then -(n : Int) else (n : Int)) r) = Rs.ok k r → (match dgM (if neg then 9223372036854775808 else 9223372036854775807) (s ++ x) with | .no r y => .no r y | .ok n r => if fracB r then .no r 42 else .ok (if neg then -(n : Int) else (n : Int)) r) = Rs.ok k (r ++ x) := by
   intro neg s hs
   cases h1 : dgM (if neg then 9223372036854775808 else 9223372036854775807) s with
   | no r y => rw [h1] at hs; cases hs
   | ok n r1 =>
    rw [h1] at hs
    rw [dgm_op _ s x hx n r1 h1]
    simp only at hs ⊢
    rw [frac_op x hx r1]
    split at hs
    ·cases hs
    ·rename_i h2
     rw [if_neg h2]
     simp only [Rs.ok.injEq] at hs ⊢
     exact ⟨hs.1, by rw [hs.2]⟩
  by_cases hc : c = 45
  ·subst hc
   exact key true l h
  ·have e : (c == 45) = false := by simpa using hc
   unfold nuM at h ⊢
   simp only [List.cons_append, e] at h ⊢
   exact key false (c :: l) h
def kd : Js → Int
 | .mk k _ _ _ _ => k
/-- What is neither a list nor an object is read alike, however deep it stands, and whatever stands behind it. -/
theorem va_flat (V V' : Option (List UInt8 → Rs Js)) (l x : List UInt8) (hx : Ns x) (v : Js) (r : List UInt8) (h : vaF V l = .ok v r) (hk : kd v < 4) : vaF V' (l ++ x) = .ok v (r ++ x) ∧ ∃ k n t, v = .mk k n t [] [] := by
 cases l with
 | nil => simp [vaF] at h
 | cons c l =>
  unfold vaF at h ⊢
  simp only [List.cons_append] at h ⊢
  split at h
  ·exfalso
   cases V with
   | none => cases h
   | some Vf =>
    simp only at h
    split at h
    ·cases h
    ·simp only [Rs.ok.injEq] at h
     rw [← h.1] at hk
     simp only [kd] at hk
     omega
  ·rename_i h1
   rw [if_neg h1]
   split at h
   ·exfalso
    cases V with
    | none => cases h
    | some Vf =>
     simp only at h
     split at h
     ·cases h
     ·simp only [Rs.ok.injEq] at h
      rw [← h.1] at hk
      simp only [kd] at hk
      omega
   ·rename_i h2
    rw [if_neg h2]
    split at h
    ·rename_i h3
     rw [if_pos h3]
     cases h4 : uqM (c :: l) with
     | no r y => rw [h4] at h; cases h
     | ok t r1 =>
      have h5 := uq_op (c :: l) x t r1 h4
      rw [List.cons_append] at h5
      rw [h4] at h
      rw [h5]
      simp only at h ⊢
      cases h6 : tkM 34 r1 with
      | no r y => rw [h6] at h; cases h
      | ok u r2 =>
       rw [h6] at h
       rw [tk_op 34 r1 x r2 u h6]
       simp only [Rs.ok.injEq] at h ⊢
       exact ⟨⟨h.1, by rw [h.2]⟩, _, _, _, h.1.symm⟩
    ·rename_i h3
     rw [if_neg h3]
     split at h
     ·rename_i h4
      rw [if_pos h4]
      cases h5 : nuM (c :: l) with
      | no r y => rw [h5] at h; cases h
      | ok n r1 =>
       have h6 := nu_op (c :: l) x hx n r1 h5
       rw [List.cons_append] at h6
       rw [h5] at h
       rw [h6]
       simp only [Rs.ok.injEq] at h ⊢
       exact ⟨⟨h.1, by rw [h.2]⟩, _, _, _, h.1.symm⟩
     ·rename_i h4
      rw [if_neg h4]
      have wk : ∀ (u : List UInt8) (n k : Int), (match wdM u (c :: l) with | .no r2 y => .no r2 y | .ok _ r2 => .ok (Js.mk k n [] [] []) r2) = Rs.ok v r → (match wdM u (c :: (l ++ x)) with | .no r2 y => .no r2 y | .ok _ r2 => .ok (Js.mk k n [] [] []) r2) = Rs.ok v (r ++ x) ∧ ∃ k n t, v = .mk k n t [] [] := by
       intro u n k hw
       cases h6 : wdM u (c :: l) with
       | no r y => rw [h6] at hw; cases hw
       | ok y r2 =>
        have h7 := wd_op u (c :: l) x r2 y h6
        rw [List.cons_append] at h7
        rw [h6] at hw
        rw [h7]
        simp only [Rs.ok.injEq] at hw ⊢
        exact ⟨⟨hw.1, by rw [hw.2]⟩, _, _, _, hw.1.symm⟩
      split at h
      ·rename_i h5
       rw [if_pos h5]
       exact wk _ _ _ h
      ·rename_i h5
       rw [if_neg h5]
       split at h
       ·rename_i h6
        rw [if_pos h6]
        exact wk _ _ _ h
       ·rename_i h6
        rw [if_neg h6]
        split at h
        ·rename_i h7
         rw [if_pos h7]
         exact wk _ _ _ h
        ·cases h
theorem va_head (V : Option (List UInt8 → Rs Js)) (l : List UInt8) (v : Js) (r : List UInt8) (h : vaF V l = .ok v r) : ∃ c t, l = c :: t ∧ c ≠ 93 ∧ c ≠ 125 := by
 cases l with
 | nil => simp [vaF] at h
 | cons c l =>
  refine ⟨c, l, rfl, ?_, ?_⟩
  ·rintro rfl
   have e : vaF V (93 :: l) = .no (93 :: l) 40 := rfl
   rw [e] at h; cases h
  ·rintro rfl
   have e : vaF V (125 :: l) = .no (125 :: l) 40 := rfl
   rw [e] at h; cases h
theorem vaM_eq (n : Nat) : ∃ V, vaM n = vaF V := by
 cases n with
 | zero => exact ⟨none, rfl⟩
 | succ n => exact ⟨some (vaM n), rfl⟩
theorem sk_nil : ∀ l : List UInt8, skB l = [] → Bk l
 | [], _ => fun c hc => by cases hc
 | c :: l, h => by
  rw [skB_cons] at h
  split at h
  ·rename_i hc
   intro x hx
   rcases List.mem_cons.1 hx with rfl | hx
   ·exact hc
   ·exact sk_nil l h x hx
  ·cases h
/-- Lists around a value, brackets around its text. -/
def nsJ : Nat → Js → Js
 | 0, j => j
 | n + 1, j => .mk 4 0 [] [] [nsJ n j]
def tnL : Nat → List UInt8 → List UInt8
 | 0, s => s
 | n + 1, s => [91] ++ tnL n s ++ [93]
theorem tn_eq : ∀ (n : Nat) (s : List UInt8), tnL n s = List.replicate n 91 ++ (s ++ List.replicate n 93)
 | 0, s => by simp [tnL]
 | n + 1, s => by rw [tnL, tn_eq n s, List.replicate_succ (a := (91 : UInt8)), List.replicate_succ' (a := (93 : UInt8))]; simp
theorem tn_len (n : Nat) (s : List UInt8) : (tnL n s).length = s.length + 2 * n := by rw [tn_eq]; simp; omega
theorem ns93 (x : List UInt8) : Ns (93 :: x) := ns_cons (by decide) (by rfl)
theorem list_ok (n : Nat) (T x : List UInt8) (j : Js) (r : List UInt8) (hr : skB r = []) (h : vaM n (skB T) = .ok j (r ++ 93 :: x)) : vaM (n + 1) (91 :: T) = .ok (.mk 4 0 [] [] [j]) x := by
 obtain ⟨V, hV⟩ := vaM_eq n
 have h' := h
 rw [hV] at h'
 obtain ⟨c, t, hc, h93, _⟩ := va_head V _ _ _ h'
 have e1 : skB (r ++ 93 :: x) = 93 :: x := by rw [sk_pre r _ (sk_nil r hr)]; rfl
 have e2 : liL (vaM n) ((c :: t).length + 1) [] (c :: t) = .ok [j] (93 :: x) := by
  rw [liL, ← hc, h]
  simp only [e1]
  rw [if_neg (by decide)]
  rfl
 show vaF (some (vaM n)) (91 :: T) = _
 unfold vaF
 simp only
 rw [if_neg (by decide), if_pos trivial]
 unfold mmM
 rw [hc]
 simp only
 rw [if_neg h93, e2]
 simp [tkM]
theorem list_no (n : Nat) (T r : List UInt8) (y : Nat) (c : UInt8) (t : List UInt8) (hc : skB T = c :: t) (h93 : c ≠ 93) (h : vaM n (skB T) = .no r y) : vaM (n + 1) (91 :: T) = .no r y := by
 have e2 : liL (vaM n) ((c :: t).length + 1) [] (c :: t) = .no r y := by rw [liL, ← hc, h]
 show vaF (some (vaM n)) (91 :: T) = _
 unfold vaF
 simp only
 rw [if_neg (by decide), if_pos trivial]
 unfold mmM
 rw [hc]
 simp only
 rw [if_neg h93, e2]
theorem deep_ok (s : List UInt8) (v : Js) (r : List UInt8) (hr : skB r = []) (h : ∀ m x, Ns x → vaM m (skB (s ++ x)) = .ok v (r ++ x)) : ∀ k m, ∃ rk, skB rk = [] ∧ ∀ x, Ns x → vaM (k + m) (skB (tnL k s ++ x)) = .ok (nsJ k v) (rk ++ x)
 | 0, m => ⟨r, hr, fun x hx => by rw [Nat.zero_add]; exact h m x hx⟩
 | k + 1, m => by
  obtain ⟨rk, h1, h2⟩ := deep_ok s v r hr h k m
  refine ⟨[], rfl, fun x hx => ?_⟩
  have e : skB (tnL (k + 1) s ++ x) = 91 :: (tnL k s ++ 93 :: x) := by
   rw [tnL]
   simp only [List.append_assoc, List.cons_append, List.nil_append]
   rfl
  rw [e, show k + 1 + m = (k + m) + 1 by omega]
  exact list_ok _ _ _ _ rk h1 (h2 (93 :: x) (ns93 x))
theorem deep_no : ∀ (k : Nat) (T : List UInt8), vaM k (List.replicate k 91 ++ 91 :: T) = .no (91 :: T) 41
 | 0, T => rfl
 | k + 1, T => by
  rw [List.replicate_succ, List.cons_append]
  have h := deep_no k T
  have hh : ∃ t, List.replicate k 91 ++ 91 :: T = 91 :: t := by
   cases k with
   | zero => exact ⟨T, rfl⟩
   | succ k => exact ⟨_, rfl⟩
  obtain ⟨t, ht⟩ := hh
  have e : skB (List.replicate k 91 ++ 91 :: T) = 91 :: t := by rw [ht]; rfl
  exact list_no k _ _ _ 91 t e (by decide) (by rw [e, ← ht]; exact h)
theorem ck_deep (v : Js) (h : ∀ m, ck m v = 0) : ∀ k m, ck (k + m) (nsJ k v) = 0
 | 0, m => h _
 | k + 1, m => by
  rw [show k + 1 + m = (k + m) + 1 by omega]
  show ckF (some (ck (k + m))) (.mk 4 0 [] [] [nsJ k v]) = 0
  rw [ckF_eq, if_neg (by simp), if_neg (by rw [wfB]; simp), if_neg (by simp)]
  exact fsE_zero.2 (fun j hj => by rw [List.mem_singleton.1 hj]; exact ck_deep v h k m)
theorem ck_too (v : Js) : ∀ k m, ck k (nsJ (k + 1 + m) v) = 41
 | 0, m => by
  rw [show 0 + 1 + m = m + 1 by omega]
  show ckF none (.mk 4 0 [] [] [nsJ m v]) = 41
  rw [ckF_eq, if_pos ⟨.inl rfl, rfl⟩]
 | k + 1, m => by
  rw [show k + 1 + 1 + m = (k + 1 + m) + 1 by omega]
  show ckF (some (ck k)) (.mk 4 0 [] [] [nsJ (k + 1 + m) v]) = 41
  rw [ckF_eq, if_neg (by simp), if_neg (by rw [wfB]; simp), if_neg (by simp)]
  simp only [fsE]
  rw [ck_too v k m]
  simp
theorem sz_deep (v : Js) (h : Sz v) : ∀ k, Sz (nsJ k v)
 | 0 => h
 | k + 1 => by
  simp only [nsJ, Sz, Szs]
  exact ⟨by omega, by simp, by simp, by simp, (fun s hs => by cases hs), sz_deep v h k, trivial⟩
/-- Lists in one another, up to the limit and beyond it. -/
theorem deep_math (n : Nat) (s : List UInt8) (hs : s.length ≤ 1000) (hn : n < 40) (h0 : (psM s).2.2 = 0) (hk : kd (psM s).1 < 4) :
  (n ≤ 16 → psM (tnL n s) = (nsJ n (psM s).1, 0, 0) ∧ ck 16 (nsJ n (psM s).1) = 0) ∧ (16 < n → psM (tnL n s) = (Js.nul, 16, 41) ∧ ck 16 (nsJ n (psM s).1) = 41) := by
 have hlen : (tnL n s).length ≤ 65536 := by rw [tn_len]; omega
 have hg := psM_good s
 have hps : ∃ v r, vaM 16 (skB s) = .ok v r ∧ skB r = [] ∧ (psM s).1 = v := by
  have hb := vaM_q 16 [] (skB s) (skB s) (fun c hc => by cases hc) (by have := Tl.self [] (skB s); rwa [List.append_nil] at this)
  unfold psM at h0 ⊢
  rw [if_neg (by omega)] at h0 ⊢
  generalize vaM 16 (skB s) = x at h0 hb ⊢
  cases hb with
  | no r r' y k1 k2 k3 => exact absurd h0 k3
  | ok v r r' k1 k2 =>
   simp only at h0 ⊢
   cases hr : skB r with
   | nil => exact ⟨v, r, rfl, hr, rfl⟩
   | cons c t => rw [hr] at h0; simp at h0
 obtain ⟨v, r, h1, h2, h3⟩ := hps
 rw [h3] at hk hg ⊢
 obtain ⟨V, hV⟩ := vaM_eq 16
 rw [hV] at h1
 obtain ⟨k, i, t, hf⟩ := (va_flat V V _ [] ns_nil v r h1 hk).2
 have hck : ∀ m, ck m v = 0 := by
  have hw := (ck_zero 16 k i t [] [] (by rw [← hf]; exact hg.1)).1
  intro m
  rw [hf]
  refine ck_flat m k i t ?_ hw
  rw [hf] at hk
  simp only [kd] at hk
  omega
 constructor
 ·intro h16
  have hall : ∀ m x, Ns x → vaM m (skB (s ++ x)) = .ok v (r ++ x) := by
   intro m x hx
   obtain ⟨c, tt, hc, _, _⟩ := va_head V _ _ _ h1
   have e : skB (s ++ x) = skB s ++ x := by
    have gen : ∀ l : List UInt8, skB l ≠ [] → skB (l ++ x) = skB l ++ x := by
     intro l
     induction l with
     | nil => intro h; exact absurd rfl h
     | cons a l ih =>
      intro h
      rw [List.cons_append, skB_cons, skB_cons]
      rw [skB_cons] at h
      split
      ·rename_i ha; rw [if_pos ha] at h; exact ih h
      ·rfl
    exact gen s (by rw [hc]; simp)
   obtain ⟨V', hV'⟩ := vaM_eq m
   rw [e, hV']
   exact (va_flat V V' (skB s) x hx v r h1 hk).1
  obtain ⟨rk, k1, k2⟩ := deep_ok s v r h2 hall n (16 - n)
  have k3 := k2 [] ns_nil
  rw [List.append_nil, List.append_nil, show n + (16 - n) = 16 by omega] at k3
  constructor
  ·unfold psM
   rw [if_neg (by omega), k3]
   simp only [k1]
  ·have := ck_deep v hck n (16 - n)
   rwa [show n + (16 - n) = 16 by omega] at this
 ·intro h16
  constructor
  ·obtain ⟨m, rfl⟩ : ∃ m, n = 16 + 1 + m := ⟨n - 17, by omega⟩
   obtain ⟨T, hT⟩ : ∃ T, tnL (16 + 1 + m) s = List.replicate 16 91 ++ 91 :: T := by
    refine ⟨List.replicate m 91 ++ (s ++ List.replicate (16 + 1 + m) 93), ?_⟩
    have e : List.replicate (16 + 1 + m) (91 : UInt8) = List.replicate 16 91 ++ (91 :: List.replicate m 91) := by
     rw [← List.replicate_succ, List.replicate_append_replicate]
     congr 1
     omega
    rw [tn_eq, e, List.append_assoc, List.cons_append]
   have hl2 := congrArg List.length hT
   unfold psM
   rw [if_neg (by omega), hT]
   have e : skB (List.replicate 16 91 ++ 91 :: T) = List.replicate 16 91 ++ 91 :: T := rfl
   rw [e, deep_no 16 T]
   simp only
   have : (List.replicate 16 (91 : UInt8) ++ 91 :: T).length - (91 :: T).length = 16 := by simp
   rw [this]
  ·have := ck_too v 16 (n - 17)
   rwa [show 16 + 1 + (n - 17) = n by omega] at this
end Go.Proofs.YtmpjeahibfdehaaGreatDoor
end
section
set_option linter.unusedVariables false
namespace Go.Proofs.YtmpjeahibfdehaaGreatDoor
open Go.RowKit

theorem d10 {k : Nat} (h : k < 10) : dgB4 (UInt8.ofNat (48 + k)) = true ∧ (UInt8.ofNat (48 + k)).toNat = 48 + k := by
 have e : (UInt8.ofNat (48 + k)).toNat = 48 + k := by simp; omega
 refine ⟨?_, e⟩
 unfold dgB4
 rw [e]
 simp
 omega
/-- Digits in front of what is no digit, read on. -/
theorem dgl_dec (m : Nat) : ∀ (u : Nat) (n : Nat) (x : List UInt8), (n = 0 → True) → n * 10 ^ Lib.nDigits u + u ≤ m → dgL m n (Lib.decDigits u ++ x) = dgL m (n * 10 ^ Lib.nDigits u + u) x := by
 intro u
 induction u using Nat.strongRecOn with
 | ind u ih =>
  intro n x _ hm
  by_cases h : u < 10
  ·rw [Lib.nDigits_small h] at hm ⊢
   rw [Lib.decDigits_one h, List.singleton_append, dgL]
   obtain ⟨h1, h2⟩ := d10 h
   rw [if_pos h1, h2, if_neg (by omega)]
   congr 1
   omega
  ·have e1 := Lib.nDigits_big h
   have hmul : n * 10 ^ Lib.nDigits u = n * 10 ^ Lib.nDigits (u / 10) * 10 := by rw [e1, Nat.pow_succ, ← Nat.mul_assoc]
   rw [hmul] at hm ⊢
   rw [Lib.decDigits, dif_neg h, List.append_assoc, ih (u / 10) (by omega) n _ (fun _ => trivial) (by omega), List.singleton_append, dgL]
   obtain ⟨h1, h2⟩ := d10 (show u % 10 < 10 by omega)
   rw [if_pos h1, h2, if_neg (by omega)]
   congr 1
   omega
theorem dec_head : ∀ (u : Nat), ∃ k t, k < 10 ∧ Lib.decDigits u = UInt8.ofNat (48 + k) :: t ∧ (k = 0 → u = 0 ∧ t = []) := by
 intro u
 induction u using Nat.strongRecOn with
 | ind u ih =>
  by_cases h : u < 10
  ·exact ⟨u, [], h, Lib.decDigits_one h, fun e => ⟨e, rfl⟩⟩
  ·obtain ⟨k, t, h1, h2, h3⟩ := ih (u / 10) (by omega)
   refine ⟨k, t ++ [UInt8.ofNat (48 + u % 10)], h1, ?_, fun e => ?_⟩
   ·rw [Lib.decDigits, dif_neg h, h2]; rfl
   ·have := (h3 e).1; omega
theorem dgm_dec (m u : Nat) (x : List UInt8) (hx : Ns x) (hm : u ≤ m) : dgM m (Lib.decDigits u ++ x) = .ok u x := by
 obtain ⟨k, t, h1, h2, h3⟩ := dec_head u
 by_cases hk : k = 0
 ·obtain ⟨rfl, rfl⟩ := h3 hk
  rw [h2, hk]
  show dgM m (48 :: x) = _
  simp only [dgM]
  rw [if_pos trivial]
  cases x with
  | nil => rfl
  | cons c r =>
   simp only
   rw [if_neg (by rw [(hx c r rfl).1]; simp)]
 ·have e : UInt8.ofNat (48 + k) ≠ 48 := by
   intro e
   have e2 := congrArg UInt8.toNat e
   rw [(d10 h1).2] at e2
   have : (48 : UInt8).toNat = 48 := rfl
   omega
  have e3 := dgl_dec m u 0 x (fun _ => trivial) (by omega)
  rw [h2, List.cons_append] at e3 ⊢
  simp only [dgM]
  rw [if_neg e, if_pos (d10 h1).1, e3]
  rw [Nat.zero_mul, Nat.zero_add]
  cases x with
  | nil => rfl
  | cons c r => rw [dgL, if_neg (by rw [(hx c r rfl).1]; simp)]
theorem frac_ns (x : List UInt8) (hx : Ns x) : fracB x = false := by
 cases x with
 | nil => rfl
 | cons c t => exact (hx c t rfl).2
theorem nu_itoa (n : Int) (h0 : -9223372036854775808 ≤ n) (h1 : n ≤ 9223372036854775807) (x : List UInt8) (hx : Ns x) : nuM (Lib.itoa n ++ x) = .ok n x := by
 unfold Lib.itoa
 split
 ·rename_i hn
  have e := dgm_dec 9223372036854775808 n.natAbs x hx (by omega)
  rw [List.cons_append, nu_neg _ _ rfl, e]
  simp only
  rw [frac_ns x hx, if_neg (by simp)]
  congr 1
  omega
 ·rename_i hn
  have e := dgm_dec 9223372036854775807 n.toNat x hx (by omega)
  obtain ⟨k, t, k1, k2, _⟩ := dec_head n.toNat
  have e45 : nxI (Lib.decDigits n.toNat ++ x) ≠ 45 := by
   rw [k2, List.cons_append]
   show ((UInt8.ofNat (48 + k)).toNat : Int) ≠ 45
   rw [(d10 k1).2]
   omega
  rw [nu_pos _ e45, e]
  simp only
  rw [frac_ns x hx, if_neg (by simp)]
  congr 1
  omega
theorem itoa_head (n : Int) : ∃ c t, Lib.itoa n = c :: t ∧ (c = 45 ∨ dgB4 c = true) := by
 unfold Lib.itoa
 split
 ·exact ⟨_, _, rfl, .inl rfl⟩
 ·obtain ⟨k, t, k1, k2, _⟩ := dec_head n.toNat
  exact ⟨_, t, k2, .inr (d10 k1).1⟩
/-! ### Texts -/
/-- A character's bytes: read by themselves, whatever stands behind. -/
theorem chl_char : ∀ (q p x : List UInt8), (∀ a b, p ++ q = a ++ b → a ≠ [] → b ≠ [] → fuB a = false) → q ≠ [] → fuB (p ++ q) = true → chr (p ++ q) = none → chL p (q ++ x) = .ok (p ++ q) x
 | [], p, x, h, hq, hf, hc => absurd rfl hq
 | c :: q, p, x, h, hq, hf, hc => by
  rw [List.cons_append, chL]
  by_cases he : q = []
  ·subst he
   rw [if_pos hf, if_pos hc]
   rfl
  ·have h1 := h (p ++ [c]) q (by simp) (by simp) he
   rw [if_neg (by rw [h1]; simp)]
   have e : p ++ [c] ++ q = p ++ c :: q := by simp
   rw [← e] at h hf hc ⊢
   exact chl_char q (p ++ [c]) x h he hf hc
/-- The first character of a text: its bytes. -/
theorem char_one (t : List UInt8) (ht : t ≠ []) (hc : chr t = none) : ∃ p r, t = p ++ r ∧ p ≠ [] ∧ chr p = none ∧ chr r = none ∧ (∀ a b, p = a ++ b → a ≠ [] → b ≠ [] → fuB a = false) ∧ fuB p = true ∧ ((∃ c, p = [c] ∧ c.toNat < 128) ∨ ∀ c ∈ p, 128 ≤ c.toNat) := by
 have hb : d4 t ≠ (65533, 1) := fun e => by rw [chr_bad t ht e] at hc; cases hc
 have hs := d4_size t ht
 have hr : chr (t.drop (d4 t).2) = none := by
  rw [chr_go t ht hb] at hc
  cases h : chr (t.drop (d4 t).2) with
  | none => rfl
  | some y => rw [h] at hc; cases hc
 match t, ht with
 | a :: t1, _ =>
  by_cases ha : a.toNat < 128
  ·have e : d4 (a :: t1) = (a.toNat, 1) := by
    unfold d4 Lib.decodeN
    simp only [List.getD_cons_zero]
    rw [if_pos ha]
   rw [e] at hr
   refine ⟨[a], t1, rfl, by simp, ?_, hr, ?_, ?_, .inl ⟨a, rfl, ha⟩⟩
   ·rw [chr_go _ (by simp)]
    ·have : d4 [a] = (a.toNat, 1) := by
      unfold d4 Lib.decodeN
      simp only [List.getD_cons_zero]
      rw [if_pos ha]
     rw [this]
     simp [chr_nil]
    ·have : d4 [a] = (a.toNat, 1) := by
      unfold d4 Lib.decodeN
      simp only [List.getD_cons_zero]
      rw [if_pos ha]
     rw [this]
     intro e2
     have := congrArg Prod.fst e2
     simp only at this
     omega
   ·intro x y e h1 h2
    have := congrArg List.length e
    have := List.length_pos_iff.2 h1
    have := List.length_pos_iff.2 h2
    simp at *
    omega
   ·unfold fuB
    simp only
    rw [if_pos (by omega)]
  ·have hn1 : 1 < (a :: t1).length := by
    apply Classical.byContradiction
    intro h
    apply hb
    unfold d4 Lib.decodeN
    simp only [List.getD_cons_zero]
    rw [if_neg ha, if_neg (by omega), if_neg (by omega), if_neg (by omega)]
   match t1 with
   | b :: t2 =>
   have hB := b.toNat_lt
   have hA := a.toNat_lt
   have pre2 : ∀ x y : List UInt8, [a, b] = x ++ y → x ≠ [] → y ≠ [] → x = [a] := by
    intro x y e h1 h2
    match x, h1 with
    | [c], _ => simp only [List.singleton_append, List.cons.injEq] at e; rw [e.1]
    | c :: d :: x', _ =>
     have k1 := congrArg List.length e
     have k2 := List.length_pos_iff.2 h2
     simp only [List.length_cons, List.length_append, List.length_nil] at k1
     omega
   by_cases c2 : a.toNat / 32 = 6 ∧ b.toNat / 64 = 2
   ·have hv : a.toNat % 32 * 64 + b.toNat % 64 ≥ 128 := by
     apply Classical.byContradiction
     intro h
     apply hb
     unfold d4 Lib.decodeN
     simp only [List.getD_cons_zero, List.getD_cons_succ]
     rw [if_neg ha, if_pos ⟨c2.1, hn1, c2.2⟩, if_neg h]
    have e : d4 (a :: b :: t2) = (a.toNat % 32 * 64 + b.toNat % 64, 2) := by
     unfold d4 Lib.decodeN
     simp only [List.getD_cons_zero, List.getD_cons_succ]
     rw [if_neg ha, if_pos ⟨c2.1, hn1, c2.2⟩, if_pos hv]
    have e' : d4 [a, b] = (a.toNat % 32 * 64 + b.toNat % 64, 2) := by
     unfold d4 Lib.decodeN
     simp only [List.getD_cons_zero, List.getD_cons_succ]
     rw [if_neg ha, if_pos ⟨c2.1, by simp, c2.2⟩, if_pos hv]
    rw [e] at hr
    refine ⟨[a, b], t2, rfl, by simp, ?_, hr, ?_, ?_, .inr ?_⟩
    ·rw [chr_go _ (by simp) (by rw [e']; intro h; have := congrArg Prod.snd h; simp at this), e']
     simp [chr_nil]
    ·intro x y exy h1 h2
     rw [pre2 x y exy h1 h2]
     unfold fuB
     simp only
     rw [if_neg (by omega), if_pos (by omega)]
     rfl
    ·unfold fuB
     simp only
     rw [if_neg (by omega), if_pos (by omega)]
     rfl
    ·intro c hcm
     simp only [List.mem_cons, List.not_mem_nil, or_false] at hcm
     rcases hcm with rfl | rfl <;> omega
   ·have hn2 : 2 < (a :: b :: t2).length := by
     apply Classical.byContradiction
     intro h
     apply hb
     unfold d4 Lib.decodeN
     simp only [List.getD_cons_zero, List.getD_cons_succ]
     rw [if_neg ha, if_neg (fun h => c2 ⟨h.1, h.2.2⟩), if_neg (by omega), if_neg (by omega)]
    match t2 with
    | c :: t3 =>
    have hC := c.toNat_lt
    have pre3 : ∀ x y : List UInt8, [a, b, c] = x ++ y → x ≠ [] → y ≠ [] → x = [a] ∨ x = [a, b] := by
     intro x y e h1 h2
     match x, h1 with
     | [d], _ => simp only [List.singleton_append, List.cons.injEq] at e; rw [e.1]; exact .inl rfl
     | [d, f], _ => simp only [List.cons_append, List.nil_append, List.cons.injEq] at e; rw [e.1, e.2.1]; exact .inr rfl
     | d :: f :: g :: x', _ =>
      have k1 := congrArg List.length e
      have k2 := List.length_pos_iff.2 h2
      simp only [List.length_cons, List.length_append, List.length_nil] at k1
      omega
    by_cases c3 : a.toNat / 16 = 14 ∧ b.toNat / 64 = 2 ∧ c.toNat / 64 = 2
    ·have hv : a.toNat % 16 * 4096 + b.toNat % 64 * 64 + c.toNat % 64 ≥ 2048 ∧ (a.toNat % 16 * 4096 + b.toNat % 64 * 64 + c.toNat % 64 < 55296 ∨ (57344 ≤ a.toNat % 16 * 4096 + b.toNat % 64 * 64 + c.toNat % 64 ∧ a.toNat % 16 * 4096 + b.toNat % 64 * 64 + c.toNat % 64 ≤ 1114111)) := by
      apply Classical.byContradiction
      intro h
      apply hb
      unfold d4 Lib.decodeN
      simp only [List.getD_cons_zero, List.getD_cons_succ]
      rw [if_neg ha, if_neg (fun h => c2 ⟨h.1, h.2.2⟩), if_pos ⟨c3.1, ⟨hn1, c3.2.1⟩, hn2, c3.2.2⟩, if_neg h]
     have e : ∀ l : List UInt8, d4 (a :: b :: c :: l) = (a.toNat % 16 * 4096 + b.toNat % 64 * 64 + c.toNat % 64, 3) := by
      intro l
      unfold d4 Lib.decodeN
      simp only [List.getD_cons_zero, List.getD_cons_succ]
      rw [if_neg ha, if_neg (fun h => c2 ⟨h.1, h.2.2⟩), if_pos ⟨c3.1, ⟨by simp, c3.2.1⟩, by simp, c3.2.2⟩, if_pos hv]
     rw [e] at hr
     refine ⟨[a, b, c], t3, rfl, by simp, ?_, hr, ?_, ?_, .inr ?_⟩
     ·rw [chr_go _ (by simp) (by rw [e []]; intro h; have := congrArg Prod.snd h; simp at this), e []]
      simp [chr_nil]
     ·intro x y exy h1 h2
      have hlo : (if a.toNat = 224 then 160 else if a.toNat = 240 then 144 else 128) ≤ b.toNat := by
       split
       ·omega
       ·split <;> omega
      have hhi : b.toNat ≤ (if a.toNat = 237 then 159 else if a.toNat = 244 then 143 else 191) := by
       split
       ·omega
       ·split <;> omega
      rcases pre3 x y exy h1 h2 with rfl | rfl
      ·unfold fuB
       simp only
       rw [if_neg (by omega), if_neg (by omega), if_neg (by simp only [List.length_cons, List.length_nil]; split <;> omega)]
      ·unfold fuB
       simp only
       rw [if_neg (by omega), if_neg (by omega), if_neg (by simp only [List.length_cons, List.length_nil]; rw [if_pos (show a.toNat < 240 by omega)]; omega), if_neg (by omega)]
     ·unfold fuB
      simp only
      rw [if_neg (by omega), if_neg (by omega), if_pos (by rw [if_pos (show a.toNat < 240 by omega)]; simp)]
     ·intro d hd
      simp only [List.mem_cons, List.not_mem_nil, or_false] at hd
      rcases hd with rfl | rfl | rfl <;> omega
    ·have hn3 : 3 < (a :: b :: c :: t3).length := by
      apply Classical.byContradiction
      intro h
      apply hb
      unfold d4 Lib.decodeN
      simp only [List.getD_cons_zero, List.getD_cons_succ]
      rw [if_neg ha, if_neg (fun h => c2 ⟨h.1, h.2.2⟩), if_neg (fun h => c3 ⟨h.1, h.2.1.2, h.2.2.2⟩), if_neg (by omega)]
     match t3 with
     | d :: t4 =>
     have hD := d.toNat_lt
     have c4 : a.toNat / 8 = 30 ∧ b.toNat / 64 = 2 ∧ c.toNat / 64 = 2 ∧ d.toNat / 64 = 2 := by
      apply Classical.byContradiction
      intro h
      apply hb
      unfold d4 Lib.decodeN
      simp only [List.getD_cons_zero, List.getD_cons_succ]
      rw [if_neg ha, if_neg (fun h => c2 ⟨h.1, h.2.2⟩), if_neg (fun h => c3 ⟨h.1, h.2.1.2, h.2.2.2⟩), if_neg (fun k => h ⟨k.1, k.2.1.2, k.2.2.1.2, k.2.2.2.2⟩)]
     have hv : a.toNat % 8 * 262144 + b.toNat % 64 * 4096 + c.toNat % 64 * 64 + d.toNat % 64 ≥ 65536 ∧ (a.toNat % 8 * 262144 + b.toNat % 64 * 4096 + c.toNat % 64 * 64 + d.toNat % 64 < 55296 ∨ (57344 ≤ a.toNat % 8 * 262144 + b.toNat % 64 * 4096 + c.toNat % 64 * 64 + d.toNat % 64 ∧ a.toNat % 8 * 262144 + b.toNat % 64 * 4096 + c.toNat % 64 * 64 + d.toNat % 64 ≤ 1114111)) := by
      apply Classical.byContradiction
      intro h
      apply hb
      unfold d4 Lib.decodeN
      simp only [List.getD_cons_zero, List.getD_cons_succ]
      rw [if_neg ha, if_neg (fun h => c2 ⟨h.1, h.2.2⟩), if_neg (fun h => c3 ⟨h.1, h.2.1.2, h.2.2.2⟩), if_pos ⟨c4.1, ⟨hn1, c4.2.1⟩, ⟨hn2, c4.2.2.1⟩, hn3, c4.2.2.2⟩, if_neg h]
     have e : ∀ l : List UInt8, d4 (a :: b :: c :: d :: l) = (a.toNat % 8 * 262144 + b.toNat % 64 * 4096 + c.toNat % 64 * 64 + d.toNat % 64, 4) := by
      intro l
      unfold d4 Lib.decodeN
      simp only [List.getD_cons_zero, List.getD_cons_succ]
      rw [if_neg ha, if_neg (fun h => c2 ⟨h.1, h.2.2⟩), if_neg (fun h => c3 ⟨h.1, h.2.1.2, h.2.2.2⟩), if_pos ⟨c4.1, ⟨by simp, c4.2.1⟩, ⟨by simp, c4.2.2.1⟩, by simp, c4.2.2.2⟩, if_pos hv]
     rw [e] at hr
     have pre4 : ∀ x y : List UInt8, [a, b, c, d] = x ++ y → x ≠ [] → y ≠ [] → x = [a] ∨ x = [a, b] ∨ x = [a, b, c] := by
      intro x y e h1 h2
      match x, h1 with
      | [f], _ => simp only [List.singleton_append, List.cons.injEq] at e; rw [e.1]; exact .inl rfl
      | [f, g], _ => simp only [List.cons_append, List.nil_append, List.cons.injEq] at e; rw [e.1, e.2.1]; exact .inr (.inl rfl)
      | [f, g, k], _ => simp only [List.cons_append, List.nil_append, List.cons.injEq] at e; rw [e.1, e.2.1, e.2.2.1]; exact .inr (.inr rfl)
      | f :: g :: k :: m :: x', _ =>
       have k1 := congrArg List.length e
       have k2 := List.length_pos_iff.2 h2
       simp only [List.length_cons, List.length_append, List.length_nil] at k1
       omega
     have h240 : ¬ a.toNat < 240 := by omega
     have h244 : a.toNat ≤ 244 := by omega
     refine ⟨[a, b, c, d], t4, rfl, by simp, ?_, hr, ?_, ?_, .inr ?_⟩
     ·rw [chr_go _ (by simp) (by rw [e []]; intro h; have := congrArg Prod.snd h; simp at this), e []]
      simp [chr_nil]
     ·intro x y exy h1 h2
      have hlo : (if a.toNat = 224 then 160 else if a.toNat = 240 then 144 else 128) ≤ b.toNat := by
       split
       ·omega
       ·split <;> omega
      have hhi : b.toNat ≤ (if a.toNat = 237 then 159 else if a.toNat = 244 then 143 else 191) := by
       split
       ·omega
       ·split <;> omega
      rcases pre4 x y exy h1 h2 with rfl | rfl | rfl
      ·unfold fuB
       simp only
       rw [if_neg (by omega), if_neg (by omega), if_neg (by rw [if_neg h240]; simp)]
      ·unfold fuB
       simp only
       rw [if_neg (by omega), if_neg (by omega), if_neg (by rw [if_neg h240]; simp), if_neg (by omega)]
      ·unfold fuB
       simp only
       rw [if_neg (by omega), if_neg (by omega), if_neg (by rw [if_neg h240]; simp), if_neg (by omega)]
       exact decide_eq_false (by omega)
     ·unfold fuB
      simp only
      rw [if_neg (by omega), if_neg (by omega), if_pos (by rw [if_neg h240]; simp)]
     ·intro f hf
      simp only [List.mem_cons, List.not_mem_nil, or_false] at hf
      rcases hf with rfl | rfl | rfl | rfl <;> omega
theorem qc_high {c : UInt8} (h : 128 ≤ c.toNat) : qcB c = [c] := by
 have h1 : ¬ (c = 34 ∨ c = 92) := by
  rintro (rfl | rfl) <;> exact absurd h (by decide)
 unfold qcB
 rw [if_neg h1, if_neg (by omega)]
theorem qtA_high : ∀ p : List UInt8, (∀ c ∈ p, 128 ≤ c.toNat) → qtA p = p
 | [], _ => rfl
 | c :: p, h => by
  have e := qtA_high p (fun x hx => h x (List.mem_cons_of_mem _ hx))
  unfold qtA at e ⊢
  rw [List.flatMap_cons, qc_high (h c List.mem_cons_self), e]
  rfl
theorem hc_low : ∀ c : Fin 32, ∃ a b, qcB (UInt8.ofNat c.val) = [92, 117, 48, 48, a, b] ∧ ∀ x, hcM (48 :: 48 :: a :: b :: x) = .ok c.val x := by
 intro c
 have key : ∀ c : Fin 32, ∃ a b d e, qcB (UInt8.ofNat c.val) = [92, 117, 48, 48, a, b] ∧ hxB 48 = some 0 ∧ hxB a = some d ∧ hxB b = some e ∧ d * 16 + e = c.val ∧ fitH (0 * 16 ^ 3) (0 * 16 ^ 3 + (16 ^ 3 - 1)) = true ∧ fitH (0 * 16 ^ 2) (0 * 16 ^ 2 + (16 ^ 2 - 1)) = true ∧ fitH (d * 16 ^ 1) (d * 16 ^ 1 + (16 ^ 1 - 1)) = true ∧ fitH (d * 16 + e) (d * 16 + e) = true := by
  intro c
  refine ⟨((qcB (UInt8.ofNat c.val)).getD 4 0), ((qcB (UInt8.ofNat c.val)).getD 5 0), c.val / 16, c.val % 16, ?_⟩
  revert c
  decide +kernel
 obtain ⟨a, b, d, e, h1, h2, h3, h4, h5, h6, h7, h8, h9⟩ := key c
 refine ⟨a, b, h1, fun x => ?_⟩
 have e1 : unM fitH 4 0 (48 :: 48 :: a :: b :: x) = .ok c.val x := by
  rw [unM, h2]
  simp only [Nat.zero_mul, Nat.zero_add]
  rw [if_pos (by simpa using h6), unM, h2]
  simp only [Nat.zero_mul, Nat.zero_add]
  rw [if_pos (by simpa using h7), unM, h3]
  simp only [Nat.zero_mul, Nat.zero_add]
  rw [if_pos (by simpa using h8), unM, h4]
  simp only
  rw [if_pos (by simpa using h9), unM, h5]
 unfold hcM
 rw [e1]
 simp only
 rw [if_neg (by omega)]
theorem uql_quo : ∀ (N : Nat) (t acc x : List UInt8) (f : Nat), t.length ≤ N → chr t = none → (qtA t ++ 34 :: x).length ≤ f → uqL f acc (qtA t ++ 34 :: x) = .ok (acc ++ t) (34 :: x)
 | N, [], acc, x, f, hN, hc, hf => by
  cases f with
  | zero => simp [qtA] at hf
  | succ f =>
   show uqL (f + 1) acc (34 :: x) = _
   rw [uqL, if_pos rfl, List.append_nil]
 | 0, c :: t, acc, x, f, hN, hc, hf => by simp at hN
 | N + 1, c0 :: t0, acc, x, f, hN, hc, hf => by
  obtain ⟨p, r, e, hp, hpc, hrc, hpre, hfull, hk⟩ := char_one (c0 :: t0) (by simp) hc
  rw [e] at hN hf ⊢
  have hpl := List.length_pos_iff.2 hp
  have eq0 : qtA (p ++ r) = qtA p ++ qtA r := by unfold qtA; exact List.flatMap_append
  rw [eq0, List.append_assoc] at hf ⊢
  simp only [List.length_append] at hN
  rcases hk with ⟨c, rfl, hcl⟩ | hk
  ·have e1 : qtA [c] = qcB c := by unfold qtA; simp
   rw [e1] at hf ⊢
   by_cases h1 : c = 34 ∨ c = 92
   ·have e2 : qcB c = [92, c] := by unfold qcB; rw [if_pos h1]
    rw [e2] at hf ⊢
    simp only [List.length_append, List.length_cons, List.length_nil] at hf
    obtain ⟨f', rfl⟩ : ∃ f', f = f' + 1 := ⟨f - 1, by omega⟩
    have e3 : esM (92 :: c :: (qtA r ++ 34 :: x)) = .ok c.toNat (qtA r ++ 34 :: x) := by
     unfold esM
     simp only [tkM]
     rw [if_pos trivial]
     simp only
     rcases h1 with rfl | rfl <;> rfl
    have e4 : enB c.toNat = [c] := by unfold enB; rw [if_pos hcl]; simp
    simp only [List.cons_append, List.nil_append]
    rw [uqL, if_neg (by decide), if_pos rfl, e3]
    simp only
    rw [e4, uql_quo N r (acc ++ [c]) x f' (by simp at hN; omega) hrc (by simp only [List.length_append, List.length_cons]; omega)]
    simp
   ·by_cases h2 : c.toNat < 32
    ·obtain ⟨a, b, k1, k2⟩ := hc_low ⟨c.toNat, h2⟩
     simp only at k1 k2
     rw [show UInt8.ofNat c.toNat = c by simp] at k1
     rw [k1] at hf ⊢
     simp only [List.length_append, List.length_cons, List.length_nil] at hf
     obtain ⟨f', rfl⟩ : ∃ f', f = f' + 1 := ⟨f - 1, by omega⟩
     have e3 : esM (92 :: 117 :: 48 :: 48 :: a :: b :: (qtA r ++ 34 :: x)) = .ok c.toNat (qtA r ++ 34 :: x) := by
      unfold esM
      simp only [tkM]
      rw [if_pos trivial]
      simp only
      rw [if_pos trivial]
      exact k2 _
     have e4 : enB c.toNat = [c] := by unfold enB; rw [if_pos hcl]; simp
     simp only [List.cons_append, List.nil_append]
     rw [uqL, if_neg (by decide), if_pos rfl, e3]
     simp only
     rw [e4, uql_quo N r (acc ++ [c]) x f' (by simp at hN; omega) hrc (by simp only [List.length_append, List.length_cons]; omega)]
     simp
    ·have e2 : qcB c = [c] := by unfold qcB; rw [if_neg h1, if_neg h2]
     rw [e2] at hf ⊢
     simp only [List.length_append, List.length_cons, List.length_nil] at hf
     obtain ⟨f', rfl⟩ : ∃ f', f = f' + 1 := ⟨f - 1, by omega⟩
     have e3 : chM ([c] ++ (qtA r ++ 34 :: x)) = .ok [c] (qtA r ++ 34 :: x) := chl_char [c] [] _ hpre (by simp) hfull hpc
     simp only [List.cons_append, List.nil_append] at e3 ⊢
     rw [uqL, if_neg (fun e => h1 (.inl e)), if_neg (fun e => h1 (.inr e)), if_neg h2, e3]
     simp only
     rw [uql_quo N r (acc ++ [c]) x f' (by simp at hN; omega) hrc (by simp only [List.length_append, List.length_cons]; omega)]
     simp
  ·rw [qtA_high p hk] at hf ⊢
   obtain ⟨c, p', rfl⟩ : ∃ c p', p = c :: p' := by
    cases p with
    | nil => exact absurd rfl hp
    | cons c p' => exact ⟨c, p', rfl⟩
   have hc8 := hk c List.mem_cons_self
   have n34 : c ≠ 34 := fun e => by rw [e] at hc8; exact absurd hc8 (by decide)
   have n92 : c ≠ 92 := fun e => by rw [e] at hc8; exact absurd hc8 (by decide)
   have e3 : chM ((c :: p') ++ (qtA r ++ 34 :: x)) = .ok (c :: p') (qtA r ++ 34 :: x) := chl_char (c :: p') [] _ hpre (by simp) hfull hpc
   simp only [List.length_append, List.length_cons] at hf
   obtain ⟨f', rfl⟩ : ∃ f', f = f' + 1 := ⟨f - 1, by omega⟩
   simp only [List.cons_append] at e3 ⊢
   rw [uqL, if_neg n34, if_neg n92, if_neg (by omega), e3]
   simp only
   rw [uql_quo N r (acc ++ (c :: p')) x f' (by simp at hN; omega) hrc (by simp only [List.length_append, List.length_cons]; omega)]
   simp
theorem uq_quo (t x : List UInt8) (hc : chr t = none) : uqM (quo t ++ x) = .ok t (34 :: x) := by
 have e : quo t ++ x = 34 :: (qtA t ++ 34 :: x) := by unfold quo; simp
 rw [e]
 unfold uqM
 simp only [tkM]
 rw [if_pos trivial]
 simp only
 exact uql_quo _ t [] x _ (Nat.le_refl _) hc (by omega)
end Go.Proofs.YtmpjeahibfdehaaGreatDoor
end
section
set_option linter.unusedVariables false
namespace Go.Proofs.YtmpjeahibfdehaaGreatDoor
open Go.RowKit

def srF (S : Js → Js) : Js → Js
 | .mk k n t ns is => if k = 5 then .mk k n t ((ordS ns).map (nmA ns)) ((ordS ns).map fun i => S (is.getD i Js.nul)) else .mk k n t ns (is.map S)
def srN : Nat → Js → Js
 | 0, j => j
 | n + 1, j => srF (srN n) j
theorem srF_eq (S : Js → Js) (k n : Int) (t : List UInt8) (ns : List (List UInt8)) (is : List Js) : srF S (.mk k n t ns is) = if k = 5 then .mk k n t ((ordS ns).map (nmA ns)) ((ordS ns).map fun i => S (is.getD i Js.nul)) else .mk k n t ns (is.map S) := rfl
theorem prF_eq (P : Js → List UInt8) (k n : Int) (t : List UInt8) (ns : List (List UInt8)) (is : List Js) : prF P (.mk k n t ns is) =
  if k = 0 then [110, 117, 108, 108]
  else if k = 1 then (if n = 1 then [116, 114, 117, 101] else [102, 97, 108, 115, 101])
  else if k = 2 then Lib.itoa n
  else if k = 3 then quo t
  else if k = 4 then [91] ++ joF true (is.map P) ++ [93]
  else if k = 5 then [123] ++ joF true ((ordS ns).map (memP P ns is)) ++ [125]
  else [] := rfl
theorem pr4 (P : Js → List UInt8) (n : Int) (t : List UInt8) (ns : List (List UInt8)) (is : List Js) : prF P (.mk 4 n t ns is) = [91] ++ joF true (is.map P) ++ [93] := by
 rw [prF_eq, if_neg (by decide), if_neg (by decide), if_neg (by decide), if_neg (by decide), if_pos rfl]
theorem pr5 (P : Js → List UInt8) (n : Int) (t : List UInt8) (ns : List (List UInt8)) (is : List Js) : prF P (.mk 5 n t ns is) = [123] ++ joF true ((ordS ns).map (memP P ns is)) ++ [125] := by
 rw [prF_eq, if_neg (by decide), if_neg (by decide), if_neg (by decide), if_neg (by decide), if_neg (by decide), if_pos rfl]
theorem wf_flat {k n : Int} {t : List UInt8} {ns : List (List UInt8)} {is : List Js} (h : wfB (.mk k n t ns is) = true) (hk : k < 4) : ns = [] ∧ is = [] ∧ ((k = 0 ∧ n = 0 ∧ t = []) ∨ (k = 1 ∧ (n = 0 ∨ n = 1) ∧ t = []) ∨ (k = 2 ∧ t = []) ∨ (k = 3 ∧ n = 0 ∧ chr t = none)) := by
 obtain ⟨hkk, _⟩ := wf_kind h
 rw [wfB] at h
 rcases hkk with rfl | rfl | rfl | rfl | rfl | rfl
 ·simp at h; exact ⟨h.1.2, h.2, .inl ⟨rfl, h.1.1.1, h.1.1.2⟩⟩
 ·simp at h; exact ⟨h.1.2, h.2, .inr (.inl ⟨rfl, h.1.1.1, h.1.1.2⟩)⟩
 ·simp at h; exact ⟨h.1.2, h.2, .inr (.inr (.inl ⟨rfl, h.1.1⟩))⟩
 ·simp at h; exact ⟨h.1.2, h.2, .inr (.inr (.inr ⟨rfl, h.1.1.1, h.1.1.2⟩))⟩
 ·omega
 ·omega
theorem va_fl (V : Option (List UInt8 → Rs Js)) (P : Js → List UInt8) (k n : Int) (t : List UInt8) (ns : List (List UInt8)) (is : List Js) (h : wfB (.mk k n t ns is) = true) (hk : k < 4) (hz : -9223372036854775808 ≤ n ∧ n ≤ 9223372036854775807) (x : List UInt8) (hx : Ns x) :
  vaF V (prF P (.mk k n t ns is) ++ x) = .ok (.mk k n t ns is) x := by
 obtain ⟨rfl, rfl, hh⟩ := wf_flat h hk
 rw [prF_eq]
 rcases hh with ⟨rfl, rfl, rfl⟩ | ⟨rfl, hn, rfl⟩ | ⟨rfl, rfl⟩ | ⟨rfl, rfl, hc⟩
 ·rfl
 ·rcases hn with rfl | rfl <;> rfl
 ·rw [if_neg (by decide), if_neg (by decide), if_pos rfl]
  obtain ⟨c, r, e, hc⟩ := itoa_head n
  have e2 := nu_itoa n hz.1 hz.2 x hx
  rw [e, List.cons_append] at e2 ⊢
  unfold vaF
  simp only
  have hd : c ≠ 123 ∧ c ≠ 91 ∧ c ≠ 34 := by
   rcases hc with rfl | hc
   ·decide
   ·refine ⟨?_, ?_, ?_⟩ <;> (rintro rfl; exact absurd hc (by decide))
  rw [if_neg hd.1, if_neg hd.2.1, if_neg hd.2.2, if_pos hc, e2]
 ·rw [if_neg (by decide), if_neg (by decide), if_neg (by decide), if_pos rfl]
  have e2 := uq_quo t x hc
  have e : quo t ++ x = 34 :: (qtA t ++ 34 :: x) := by unfold quo; simp
  rw [e] at e2 ⊢
  unfold vaF
  simp only
  rw [if_neg (by decide), if_neg (by decide), if_pos trivial, e2]
  simp [tkM]
theorem qs_head (t : List UInt8) : ∃ r, quo t = 34 :: r := ⟨_, rfl⟩
/-- With what a print begins. -/
theorem pr_head (n : Nat) (j : Js) (h : ck n j = 0) : ∃ c t, prN n j = c :: t ∧ blB4 c = false ∧ c ≠ 93 := by
 cases j with
 | mk k i t ns is =>
 obtain ⟨hw, _, _⟩ := ck_zero n k i t ns is h
 obtain ⟨hkk, _⟩ := wf_kind hw
 obtain ⟨P, hP, _⟩ := prN_eq n (.mk k i t ns is)
 rw [hP, prF_eq]
 rcases hkk with rfl | rfl | rfl | rfl | rfl | rfl
 ·exact ⟨_, _, rfl, by decide, by decide⟩
 ·rw [if_neg (by decide), if_pos rfl]
  split
  ·exact ⟨_, _, rfl, by decide, by decide⟩
  ·exact ⟨_, _, rfl, by decide, by decide⟩
 ·rw [if_neg (by decide), if_neg (by decide), if_pos rfl]
  obtain ⟨c, r, e, hc⟩ := itoa_head i
  refine ⟨c, r, e, ?_, ?_⟩
  ·rcases hc with rfl | hc
   ·decide
   ·cases hb : blB4 c with
    | false => rfl
    | true => rw [bl_dg hb] at hc; cases hc
  ·rcases hc with rfl | hc
   ·decide
   ·rintro rfl; exact absurd hc (by decide)
 ·exact ⟨_, _, rfl, by decide, by decide⟩
 ·exact ⟨_, _, rfl, by decide, by decide⟩
 ·exact ⟨_, _, rfl, by decide, by decide⟩
theorem sk_head {c : UInt8} {t : List UInt8} (h : blB4 c = false) : skB (c :: t) = c :: t := by rw [skB_cons, if_neg (by rw [h]; simp)]
theorem sk_pr (n : Nat) (j : Js) (h : ck n j = 0) (x : List UInt8) : skB (prN n j ++ x) = prN n j ++ x := by
 obtain ⟨c, t, e, hb, _⟩ := pr_head n j h
 rw [e, List.cons_append, sk_head hb]
theorem joF_false : ∀ (x : List UInt8) (l : List (List UInt8)), joF false (x :: l) = 44 :: joF true (x :: l)
 | x, l => by simp [joF]
theorem joF_len (l : List (List UInt8)) : ∀ f, (∀ x ∈ l, x ≠ []) → l.length ≤ (joF f l).length := by
 induction l with
 | nil => intro f _; simp
 | cons x r ih =>
  intro f h
  have h1 := ih false (fun y hy => h y (List.mem_cons_of_mem _ hy))
  have h2 := List.length_pos_iff.2 (h x List.mem_cons_self)
  rw [joF]
  simp only [List.length_append, List.length_cons]
  omega
theorem ns44 (x : List UInt8) : Ns (44 :: x) := ns_cons (by decide) rfl
theorem ns125 (x : List UInt8) : Ns (125 :: x) := ns_cons (by decide) rfl
/-- Values that are printed at a depth are read at it. -/
def PrR (n : Nat) : Prop := ∀ (j : Js) (x : List UInt8), ck n j = 0 → Sz j → Ns x → vaM n (prN n j ++ x) = .ok (srN n j) x
theorem li_print (n : Nat) (hn : PrR n) (x : List UInt8) : ∀ (is : List Js) (acc : List Js) (f : Nat), is ≠ [] → (∀ j ∈ is, ck n j = 0 ∧ Sz j) → is.length ≤ f → liL (vaM n) f acc (joF true (is.map (prN n)) ++ 93 :: x) = .ok (acc ++ is.map (srN n)) (93 :: x)
 | [], acc, f, h, _, _ => absurd rfl h
 | j :: r, acc, 0, _, _, hf => by simp at hf
 | [j], acc, f + 1, _, hj, hf => by
  obtain ⟨h1, h2⟩ := hj j List.mem_cons_self
  have e : joF true ([j].map (prN n)) ++ 93 :: x = prN n j ++ 93 :: x := by simp [joF]
  rw [e, liL, hn j _ h1 h2 (ns93 x)]
  simp only
  rw [sk_head (show blB4 93 = false by decide)]
  simp only
  rw [if_neg (by decide)]
  rfl
 | j :: j2 :: r, acc, f + 1, _, hj, hf => by
  obtain ⟨h1, h2⟩ := hj j List.mem_cons_self
  have e : joF true ((j :: j2 :: r).map (prN n)) ++ 93 :: x = prN n j ++ 44 :: (joF true ((j2 :: r).map (prN n)) ++ 93 :: x) := by
   rw [List.map_cons, joF]
   have := joF_false (prN n j2) (r.map (prN n))
   rw [List.map_cons, this]
   simp
  have hh : ∀ y, skB (joF true ((j2 :: r).map (prN n)) ++ y) = joF true ((j2 :: r).map (prN n)) ++ y := by
   intro y
   have := sk_pr n j2 (hj j2 (by simp)).1 (joF false (r.map (prN n)) ++ y)
   rw [List.map_cons, joF]
   simpa using this
  rw [e, liL, hn j _ h1 h2 (ns44 _)]
  simp only
  rw [sk_head (show blB4 44 = false by decide)]
  simp only
  rw [if_pos trivial, hh, li_print n hn x (j2 :: r) (acc ++ [srN n j]) f (by simp) (fun y hy => hj y (List.mem_cons_of_mem _ hy)) (by simp at hf ⊢; omega)]
  simp
theorem getD_mem {is : List Js} {i : Nat} (h : i < is.length) : is.getD i Js.nul ∈ is := by
 rw [List.getD_eq_getElem?_getD, List.getElem?_eq_getElem h]
 exact List.getElem_mem h
theorem mb_print (n : Nat) (hn : PrR n) (ns : List (List UInt8)) (is : List Js) (seen : List (List UInt8)) (i : Nat) (y : List UInt8) (hc : chr (nmA ns i) = none) (hs : nmA ns i ∉ seen) (hj : ck n (is.getD i Js.nul) = 0) (hz : Sz (is.getD i Js.nul)) (hy : Ns y) :
  mbM (vaM n) seen (memP (prN n) ns is i ++ y) = .ok (nmA ns i, srN n (is.getD i Js.nul)) y := by
 have e : memP (prN n) ns is i ++ y = quo (nmA ns i) ++ (58 :: (prN n (is.getD i Js.nul) ++ y)) := by unfold memP; simp
 unfold mbM
 rw [e, uq_quo _ _ hc]
 simp only
 rw [if_neg hs]
 simp only [tkM]
 rw [if_pos trivial]
 simp only
 rw [sk_head (show blB4 58 = false by decide)]
 simp only
 rw [if_pos trivial]
 simp only
 rw [sk_pr n _ hj, hn _ _ hj hz hy]
theorem ob_print (n : Nat) (hn : PrR n) (ns : List (List UInt8)) (is : List Js) (hc : ∀ s ∈ ns, chr s = none) (hl : ns.length = is.length) (hj : ∀ j ∈ is, ck n j = 0 ∧ Sz j) (x : List UInt8) :
  ∀ (o : List Nat) (an : List (List UInt8)) (ai : List Js) (f : Nat), o ≠ [] → (∀ i ∈ o, i < ns.length ∧ nmA ns i ∉ an) → (o.map (nmA ns)).Nodup → o.length ≤ f →
   obL (vaM n) f an ai (joF true (o.map (memP (prN n) ns is)) ++ 125 :: x) = .ok (an ++ o.map (nmA ns), ai ++ o.map (fun i => srN n (is.getD i Js.nul))) (125 :: x)
 | [], an, ai, f, h, _, _, _ => absurd rfl h
 | i :: r, an, ai, 0, _, _, _, hf => by simp at hf
 | [i], an, ai, f + 1, _, ho, _, hf => by
  obtain ⟨h1, h2⟩ := ho i List.mem_cons_self
  obtain ⟨k1, k2⟩ := hj _ (getD_mem (show i < is.length by omega))
  have hci : chr (nmA ns i) = none := by rw [nmA_get h1]; exact hc _ (List.getElem_mem h1)
  have e : joF true ([i].map (memP (prN n) ns is)) ++ 125 :: x = memP (prN n) ns is i ++ 125 :: x := by simp [joF]
  rw [e, obL, mb_print n hn ns is an i _ hci h2 k1 k2 (ns125 x)]
  simp only
  rw [sk_head (show blB4 125 = false by decide)]
  simp only
  rw [if_neg (by decide)]
  rfl
 | i :: i2 :: r, an, ai, f + 1, _, ho, hd, hf => by
  obtain ⟨h1, h2⟩ := ho i List.mem_cons_self
  obtain ⟨k1, k2⟩ := hj _ (getD_mem (show i < is.length by omega))
  have hci : chr (nmA ns i) = none := by rw [nmA_get h1]; exact hc _ (List.getElem_mem h1)
  have e : joF true ((i :: i2 :: r).map (memP (prN n) ns is)) ++ 125 :: x = memP (prN n) ns is i ++ 44 :: (joF true ((i2 :: r).map (memP (prN n) ns is)) ++ 125 :: x) := by
   rw [List.map_cons, joF]
   have := joF_false (memP (prN n) ns is i2) (r.map (memP (prN n) ns is))
   rw [List.map_cons, this]
   simp
  have hh : ∀ y, skB (joF true ((i2 :: r).map (memP (prN n) ns is)) ++ y) = joF true ((i2 :: r).map (memP (prN n) ns is)) ++ y := by
   intro y
   obtain ⟨q, hq⟩ := qs_head (nmA ns i2)
   rw [List.map_cons, joF]
   unfold memP
   rw [hq]
   exact sk_head (by decide)
  rw [List.map_cons, List.nodup_cons] at hd
  rw [e, obL, mb_print n hn ns is an i _ hci h2 k1 k2 (ns44 _)]
  simp only
  rw [sk_head (show blB4 44 = false by decide)]
  simp only
  rw [if_pos trivial, hh, ob_print n hn ns is hc hl hj x (i2 :: r) (an ++ [nmA ns i]) (ai ++ [srN n (is.getD i Js.nul)]) f (by simp) (fun y hy => ⟨(ho y (List.mem_cons_of_mem _ hy)).1, fun hm => by
   rcases List.mem_append.1 hm with hm | hm
   ·exact (ho y (List.mem_cons_of_mem _ hy)).2 hm
   ·rw [List.mem_singleton] at hm
    exact hd.1 (List.mem_map.2 ⟨y, hy, hm⟩)⟩) hd.2 (by simp at hf ⊢; omega)]
  simp
theorem ris_names {ns : List (List UInt8)} {o : List Nat} (h : RisO ns o) : (o.map (nmA ns)).Perm ns := by
 have := h.1.map (nmA ns)
 rw [map_nmA] at this
 exact this
theorem wf5 {k n : Int} {t : List UInt8} {ns : List (List UInt8)} {is : List Js} (h : wfB (.mk k n t ns is) = true) (hk : k = 5) : n = 0 ∧ t = [] ∧ ns.length = is.length ∧ ∀ s ∈ ns, chr s = none := by
 subst hk
 rw [wfB] at h
 simp at h
 exact ⟨h.1.1.1, h.1.1.2, h.1.2, h.2⟩
theorem wf4 {k n : Int} {t : List UInt8} {ns : List (List UInt8)} {is : List Js} (h : wfB (.mk k n t ns is) = true) (hk : k = 4) : n = 0 ∧ t = [] ∧ ns = [] := by
 subst hk
 rw [wfB] at h
 simp at h
 exact ⟨h.1.1, h.1.2, h.2⟩
theorem pr_read : ∀ n, PrR n := by
 intro n
 induction n with
 | zero =>
  intro j x hck hz hx
  cases j with
  | mk k i t ns is =>
  obtain ⟨hw, hnd, h45⟩ := ck_zero 0 k i t ns is hck
  obtain ⟨hkk, _⟩ := wf_kind hw
  have hk : k < 4 := by
   rcases hkk with h | h | h | h | h | h
   ·omega
   ·omega
   ·omega
   ·omega
   ·obtain ⟨m, e, _⟩ := h45 (.inl h); cases e
   ·obtain ⟨m, e, _⟩ := h45 (.inr h); cases e
  simp only [Sz] at hz
  exact va_fl none _ k i t ns is hw hk hz.1 x hx
 | succ n ih =>
  intro j x hck hz hx
  cases j with
  | mk k i t ns is =>
  obtain ⟨hw, hnd, h45⟩ := ck_zero (n + 1) k i t ns is hck
  obtain ⟨hkk, _⟩ := wf_kind hw
  simp only [Sz] at hz
  obtain ⟨hz1, hz2, hz3, hz4, hz5, hz6⟩ := hz
  show vaF (some (vaM n)) (prF (prN n) (.mk k i t ns is) ++ x) = .ok (srF (srN n) (.mk k i t ns is)) x
  by_cases hk4 : k < 4
  ·obtain ⟨e1, e2, _⟩ := wf_flat hw hk4
   rw [va_fl _ _ k i t ns is hw hk4 hz1 x hx, srF_eq, if_neg (by omega), e2]
   rfl
  ·have hit : ∀ j ∈ is, ck n j = 0 ∧ Sz j := by
    obtain ⟨m, e, h⟩ := h45 (by omega)
    cases e
    exact fun j hj => ⟨h j hj, (szs_iff is).1 hz6 j hj⟩
   have hpne : ∀ j ∈ is, prN n j ≠ [] := fun j hj => by
    obtain ⟨c, t, e, _⟩ := pr_head n j (hit j hj).1
    rw [e]; simp
   by_cases hk : k = 4
   ·obtain ⟨rfl, rfl, rfl⟩ := wf4 hw hk
    subst hk
    rw [prF_eq, srF_eq]
    rw [if_neg (by decide), if_neg (by decide), if_neg (by decide), if_neg (by decide), if_pos rfl, if_neg (by decide)]
    have e : [91] ++ joF true (is.map (prN n)) ++ [93] ++ x = 91 :: (joF true (is.map (prN n)) ++ 93 :: x) := by simp
    rw [e]
    unfold vaF
    simp only
    rw [if_neg (by decide), if_pos trivial]
    unfold mmM
    cases is with
    | nil =>
     simp only [List.map_nil, joF, List.nil_append]
     rw [sk_head (show blB4 93 = false by decide)]
     simp [tkM]
    | cons j r =>
     obtain ⟨c, tt, hc, hb, h93⟩ := pr_head n j (hit j List.mem_cons_self).1
     have e2 : ∃ T, joF true ((j :: r).map (prN n)) ++ 93 :: x = c :: T := by
      rw [List.map_cons, joF, hc]
      exact ⟨_, rfl⟩
     obtain ⟨T, hT⟩ := e2
     have hl := li_print n ih x (j :: r) [] ((c :: T).length + 1) (by simp) hit (by
      rw [← hT]
      have := joF_len ((j :: r).map (prN n)) true (fun y hy => by
       obtain ⟨z, hz, rfl⟩ := List.mem_map.1 hy
       exact hpne z hz)
      rw [List.length_map] at this
      rw [List.length_append]
      omega)
     rw [hT] at hl ⊢
     rw [sk_head hb]
     simp only
     rw [if_neg h93, hl]
     simp [tkM]
   ·have hk5 : k = 5 := by omega
    obtain ⟨rfl, rfl, hnl, hch⟩ := wf5 hw hk5
    subst hk5
    rw [prF_eq, srF_eq]
    rw [if_neg (by decide), if_neg (by decide), if_neg (by decide), if_neg (by decide), if_neg (by decide), if_pos rfl, if_pos rfl]
    have e : [123] ++ joF true ((ordS ns).map (memP (prN n) ns is)) ++ [125] ++ x = 123 :: (joF true ((ordS ns).map (memP (prN n) ns is)) ++ 125 :: x) := by simp
    rw [e]
    unfold vaF
    simp only
    rw [if_pos trivial]
    unfold mmM
    have hris := ordS_ris ns
    have hnod : ((ordS ns).map (nmA ns)).Nodup := (ris_names hris).nodup_iff.2 hnd
    generalize ordS ns = o at hris hnod ⊢
    cases o with
    | nil =>
     simp only [List.map_nil, joF, List.nil_append]
     rw [sk_head (show blB4 125 = false by decide)]
     simp [tkM]
    | cons j r =>
     obtain ⟨q, hq⟩ := qs_head (nmA ns j)
     have e2 : ∃ T, joF true ((j :: r).map (memP (prN n) ns is)) ++ 125 :: x = 34 :: T := by
      rw [List.map_cons, joF]
      unfold memP
      rw [hq]
      exact ⟨_, rfl⟩
     obtain ⟨T, hT⟩ := e2
     have hl := ob_print n ih ns is hch hnl hit x (j :: r) [] [] (((34 : UInt8) :: T).length + 1) (by simp) (fun i hi => ⟨hris.lt i hi, by simp⟩) hnod (by
      rw [← hT]
      have := joF_len ((j :: r).map (memP (prN n) ns is)) true (fun y hy => by
       obtain ⟨z, hz, rfl⟩ := List.mem_map.1 hy
       unfold memP quo
       simp)
      rw [List.length_map] at this
      rw [List.length_append]
      omega)
     rw [hT] at hl ⊢
     rw [sk_head (show blB4 34 = false by decide)]
     simp only
     rw [if_neg (by decide), hl]
     simp [tkM]
theorem ps_print (j : Js) (h : ck 16 j = 0) (hz : Sz j) (hl : (prN 16 j).length ≤ 65536) : psM (prN 16 j) = (srN 16 j, 0, 0) := by
 have e := pr_read 16 j [] h hz ns_nil
 have e2 := sk_pr 16 j h []
 rw [List.append_nil] at e e2
 unfold psM
 rw [if_neg (by omega), e2, e]
 rfl
/-- Two values with one print are one. -/
theorem sr_of_pr (n : Nat) (a b : Js) (ha : ck n a = 0) (hb : ck n b = 0) (za : Sz a) (zb : Sz b) (h : prN n a = prN n b) : srN n a = srN n b := by
 have e1 := pr_read n a [] ha za ns_nil
 have e2 := pr_read n b [] hb zb ns_nil
 rw [h, e2] at e1
 simp only [Rs.ok.injEq, and_true] at e1
 exact e1.symm
/-- Sorted names, and their places. -/
theorem ord_sorted {ns : List (List UInt8)} (hd : ns.Nodup) : ordS ((ordS ns).map (nmA ns)) = List.range ns.length := by
 have hr := ordS_ris ns
 generalize ordS ns = o at hr ⊢
 have hlen : (o.map (nmA ns)).length = ns.length := by rw [List.length_map, hr.len]
 have hnd : (o.map (nmA ns)).Nodup := (ris_names hr).nodup_iff.2 hd
 rw [← hlen]
 refine (RisO.eq hnd (ordS_ris _) ⟨List.Perm.refl _, ?_⟩)
 rw [List.pairwise_iff_getElem]
 intro i j hi hj hij
 simp only [List.length_range] at hi hj
 simp only [List.getElem_range]
 have h1 := List.pairwise_iff_getElem.1 hr.2 i j (by rw [List.length_map] at hi; exact hi) (by rw [List.length_map] at hj; exact hj) hij
 unfold leN at h1 ⊢
 rw [nmA_get hi, nmA_get hj]
 simp only [List.getElem_map]
 exact h1
theorem pr_sr : ∀ (n : Nat) (j : Js), ck n j = 0 → prN n (srN n j) = prN n j
 | 0, j, h => rfl
 | n + 1, .mk k i t ns is, h => by
  obtain ⟨hw, hnd, h45⟩ := ck_zero (n + 1) k i t ns is h
  show prF (prN n) (srF (srN n) (.mk k i t ns is)) = prF (prN n) (.mk k i t ns is)
  by_cases hk4 : k < 4
  ·obtain ⟨e1, e2, _⟩ := wf_flat hw hk4
   rw [srF_eq, if_neg (by omega), e2]
   rfl
  ·by_cases hk : k = 4 ∨ k = 5
   ·obtain ⟨m, e, hit⟩ := h45 hk
    cases e
    rcases hk with rfl | rfl
    ·rw [srF_eq, if_neg (by decide), pr4, pr4]
     have e2 : (is.map (srN n)).map (prN n) = is.map (prN n) := by
      rw [List.map_map]
      exact List.map_congr_left (fun y hy => pr_sr n y (hit y hy))
     rw [e2]
    ·obtain ⟨rfl, rfl, hnl, hch⟩ := wf5 hw rfl
     rw [srF_eq, if_pos rfl, pr5, pr5]
     have e2 : (ordS ((ordS ns).map (nmA ns))).map (memP (prN n) ((ordS ns).map (nmA ns)) ((ordS ns).map fun i => srN n (is.getD i Js.nul))) = (ordS ns).map (memP (prN n) ns is) := by
      rw [ord_sorted hnd]
      have hr := ordS_ris ns
      have hlen := hr.len
      generalize ordS ns = o at hr hlen ⊢
      apply List.ext_getElem
      ·simp [hlen]
      ·intro q h1 h2
       simp only [List.length_map] at h2
       simp only [List.getElem_map, List.getElem_range]
       unfold memP
       have q1 : nmA (o.map (nmA ns)) q = nmA ns o[q] := by
        rw [nmA_get (by rw [List.length_map]; exact h2), List.getElem_map]
       have q2 : (o.map fun i => srN n (is.getD i Js.nul)).getD q Js.nul = srN n (is.getD o[q] Js.nul) := by
        rw [List.getD_eq_getElem?_getD, List.getElem?_map, List.getElem?_eq_getElem h2]
        rfl
       have hol := hr.lt o[q] (List.getElem_mem h2)
       rw [q1, q2, pr_sr n _ (hit _ (getD_mem (by omega)))]
     rw [e2]
   ·obtain ⟨hkk, _⟩ := wf_kind hw
    omega
theorem ck_sr : ∀ (n : Nat) (j : Js), ck n j = 0 → Sz j → ck n (srN n j) = 0 ∧ Sz (srN n j)
 | 0, j, h, hz => ⟨h, hz⟩
 | n + 1, .mk k i t ns is, h, hz => by
  obtain ⟨hw, hnd, h45⟩ := ck_zero (n + 1) k i t ns is h
  have hz0 := hz
  simp only [Sz] at hz
  obtain ⟨hz1, hz2, hz3, hz4, hz5, hz6⟩ := hz
  show ck (n + 1) (srF (srN n) (.mk k i t ns is)) = 0 ∧ Sz (srF (srN n) (.mk k i t ns is))
  by_cases hk4 : k < 4
  ·obtain ⟨e1, e2, _⟩ := wf_flat hw hk4
   subst e2
   rw [srF_eq, if_neg (by omega)]
   exact ⟨h, hz0⟩
  ·by_cases hk : k = 4 ∨ k = 5
   ·obtain ⟨m, e, hit⟩ := h45 hk
    cases e
    have hall : ∀ y ∈ is, ck n (srN n y) = 0 ∧ Sz (srN n y) := fun y hy => ck_sr n y (hit y hy) ((szs_iff is).1 hz6 y hy)
    rcases hk with rfl | rfl
    ·obtain ⟨rfl, rfl, rfl⟩ := wf4 hw rfl
     rw [srF_eq, if_neg (by decide)]
     refine ⟨?_, ?_⟩
     ·show ckF (some (ck n)) _ = 0
      rw [ckF_eq, if_neg (by simp), if_neg (by rw [wfB]; simp), if_neg (by simp)]
      refine fsE_zero.2 (fun y hy => ?_)
      obtain ⟨z, hz, rfl⟩ := List.mem_map.1 hy
      exact (hall z hz).1
     ·simp only [Sz]
      refine ⟨hz1, hz2, by simp, by rw [List.length_map]; exact hz4, (fun s hs => by cases hs), (szs_iff _).2 (fun y hy => ?_)⟩
      obtain ⟨z, hz, rfl⟩ := List.mem_map.1 hy
      exact (hall z hz).2
    ·obtain ⟨rfl, rfl, hnl, hch⟩ := wf5 hw rfl
     rw [srF_eq, if_pos rfl]
     have hr := ordS_ris ns
     have hp := ris_names hr
     have hlen := hr.len
     have hgo : ∀ q ∈ ordS ns, is.getD q Js.nul ∈ is := fun q hq => getD_mem (by have := hr.lt q hq; omega)
     refine ⟨?_, ?_⟩
     ·show ckF (some (ck n)) _ = 0
      rw [ckF_eq, if_neg (by simp), if_neg, if_neg (by simpa using hp.nodup_iff.2 hnd)]
      ·refine fsE_zero.2 (fun y hy => ?_)
       obtain ⟨z, hz, rfl⟩ := List.mem_map.1 hy
       exact (hall _ (hgo z hz)).1
      ·rw [wfB]
       simp
       intro a ha
       have := hr.lt a ha
       rw [nmA_get this]
       exact hch _ (List.getElem_mem this)
     ·simp only [Sz]
      refine ⟨hz1, hz2, by rw [List.length_map, hlen]; exact hz3, by rw [List.length_map, hlen]; omega, (fun s hs => ?_), (szs_iff _).2 (fun y hy => ?_)⟩
      ·exact hz5 s (hp.mem_iff.1 hs)
      ·obtain ⟨z, hz, rfl⟩ := List.mem_map.1 hy
       exact (hall _ (hgo z hz)).2
   ·obtain ⟨hkk, _⟩ := wf_kind hw
    omega
theorem sr_sr (n : Nat) (j : Js) (h : ck n j = 0) (hz : Sz j) : srN n (srN n j) = srN n j := by
 obtain ⟨h1, h2⟩ := ck_sr n j h hz
 exact sr_of_pr n _ _ h1 h h2 hz (pr_sr n j h)
end Go.Proofs.YtmpjeahibfdehaaGreatDoor
end
