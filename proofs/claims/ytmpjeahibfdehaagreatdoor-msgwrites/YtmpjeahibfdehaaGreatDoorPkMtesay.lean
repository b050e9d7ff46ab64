/-
  jsonx: the printer: values, lists, objects.; jsonx: the printer: objects.; jsonx: the printer: a value of any kind; Print.; jsonx: Print.; jsonx: the statements' awake.; jsonx's parser as mathematics: what is read of a text is read of it with more behind it; lists in lists.; jsonx as mathematics: what is printed is read: numbers, texts.; jsonx as mathematics: what is printed is read as the same value, its members by rising names.; jsonx as mathematics: which values are alike.; for all texts and numbers JsonxBlanks answers true: blanks ahead of a text and behind it.; jsonx: slices.EqualFunc by alike; sameMembers; alike; Same.; jsonx's statements: a value in memory of its own (own): a value in the midst of being copied; slices.Clone of names.; jsonx: sameMembers.; jsonx: alike; Same.; for all pairs of texts JsonxOne answers true.
-/
import Derived.Test.YtmpjeahibfdehaaGreatDoorPkMtesaw
import Derived.Test.YtmpjeahibfdehaaGreatDoorPkMtesax
import Derived.Lib.ConvBytes
import Derived.Test.YtmpjeahibfdehaaGreatDoorPkMtesas
import Derived.Test.YtmpjeahibfdehaaGreatDoorPkMtesat
import Derived.Test.YtmpjeahibfdehaaGreatDoorPkMtesaq
import Derived.BigQuiet
import Derived.Deep.RegionHeld3
section
set_option linter.unusedVariables false
set_option maxRecDepth 1000000
namespace Go.Proofs.YtmpjeahibfdehaaGreatDoor
open Go.RowKit

theorem P10.lt {w : World} (h : P10 w) : 1 < w.heap.size := by
 have hgn : Tryz.prog.globalNamed "internal/strconv.uint64pow10" = some 1 := by kernel_rfl
 unfold P10 Lib.TabIs World.var? at h
 rw [hgn] at h
 simp only [Option.bind_some] at h
 rcases Nat.lt_or_ge 1 w.heap.size with h' | h'
 ·exact h'
 ·rw [Array.getElem?_eq_none h'] at h; cases h
theorem P10.keep {w w' : World} (h : P10 w) (e : w'.heap[1]? = w.heap[1]?) : P10 w' := by
 have hgn : Tryz.prog.globalNamed "internal/strconv.uint64pow10" = some 1 := by kernel_rfl
 unfold P10 Lib.TabIs World.var? at h ⊢
 rw [hgn] at h ⊢
 simp only [Option.bind_some] at h ⊢
 rw [e]
 exact h
theorem P10.pk {w w' : World} {base b : Nat} (h : P10 w) (k : Pk w w' base b) (hg : 1 < base) (hb : base ≤ b) : P10 w' := h.keep (k.block _ h.lt (by omega) (.inl hg))
theorem Pr.lt {w : World} {base b : Nat} {l : List UInt8} (h : Pr w base b l) : b < w.heap.size := by
 obtain ⟨_, a, cap, hC, _⟩ := h
 exact hC.lt
theorem nB_of {w : World} {k : Nat} {cs : Array Value} {T : TypeId} {m : Nat × Nat} (h : w.heap[k]? = some (.cells cs T m)) (hT : T ≠ 5) : nB w k := by
 intro c e
 rw [h] at e
 simp only [Option.some.injEq, Obj.cells.injEq] at e
 exact hT e.2.1
theorem Pk.row {w w' : World} {base b k : Nat} {cs : Array Value} {T : TypeId} {m : Nat × Nat} (h : Pk w w' base b) (hr : w.heap[k]? = some (.cells cs T m)) (hT : T ≠ 5) (hk : k ≠ b) : w'.heap[k]? = some (.cells cs T m) :=
 (h.block k (aI hr).1 hk (.inr (nB_of hr hT))).trans hr
theorem Pr.drew {w : World} {base b : Nat} {l : List UInt8} (h : Pr w base b l) : Pr w.drew base b l := h
theorem Pk.drew {w w' : World} {base b : Nat} (h : Pk w.drew w' base b) : Pk w w' base b := ⟨h.os, h.tape, h.output, h.size, h.block⟩
theorem OrR.pk {w w' : World} {lo base b : Nat} {a : Option Addr} {o : List Nat} (h : OrR w lo a o) (k : Pk w w' base b) (hb : b < lo) : OrR w' lo a o := by
 intro hne
 obtain ⟨G, cur, h1, h2, h3, h4⟩ := h hne
 have e := k.row h3 (by decide) (by omega)
 refine ⟨G, cur, h1, h2, e, fun i q hq => ?_⟩
 rw [cR6 e, ← cR6 h3]
 exact h4 i q hq
/-- A value that Check takes is printed. -/
def PvC (n : Nat) : Prop := ∀ (j : Js) (S : Nat → Prop) (v : Value) (base b : Nat) (l : List UInt8) (w : World), ck n j = 0 → JV w S v j → (∀ k, S k → k < base) → Sz j → P10 w → 1 < base → Pr w base b l → base ≤ w.heap.size → l.length ≤ 70000000 →
 Calls Tryz.prog 55 #[.pointer (some ⟨b, 0, none⟩), v] w fun e w' => e = .returned (.tuple #[]) ∧ ∃ l', Hid (Pr w' base b l') ∧ Hid (Lk l' (l ++ prN n j)) ∧ Hid (l'.length ≤ max l.length 65536 + 100 * (n + 1)) ∧ Hid (Pk w w' base b)
set_option maxHeartbeats 8000000 in
theorem plist_any (n : Nat) (hrec : PvC n) (hn9 : n ≤ 16) (k i : Int) (t : List UInt8) (ns : List (List UInt8)) (is : List Js) (S : Nat → Prop) (v : Value) (base b : Nat) (l : List UInt8) (w : World) (hck : ∀ j ∈ is, ck n j = 0) (hJ : JV w S v (.mk k i t ns is)) (hS : ∀ k, S k → k < base) (hz : Sz (.mk k i t ns is)) (hP : P10 w) (hg : 1 < base) (hPr : Pr w base b l) (hb : base ≤ w.heap.size) (hl : l.length ≤ 70000000) :
  Calls Tryz.prog 94 #[.pointer (some ⟨b, 0, none⟩), v] w fun e w' => e = .returned (.tuple #[]) ∧ ∃ l', Hid (Pr w' base b l') ∧ Hid (Lk l' (l ++ ([91] ++ joF true (is.map (prN n)) ++ [93]))) ∧ Hid (l'.length ≤ max l.length 65536 + 100 * (n + 2)) ∧ Hid (Pk w w' base b) := by
 simp only [JV] at hJ
 obtain ⟨a1, c1, a2, c2, rfl, hN, hnc, _, _, hic, _, _, hIt⟩ := hJ
 simp only [Sz] at hz
 obtain ⟨hz1, hz2, hz3, hz4, hz5, hz6⟩ := hz
 obtain ⟨V, hV⟩ : ∃ V, V = w.heap.size := ⟨_, rfl⟩
 obtain ⟨W, hW⟩ : ∃ W, W = w.alloc (.cells #[.int .i64 k, .int .i64 i, .string (str t), .slice a1 ns.length c1, .slice a2 is.length c2] 44) := ⟨_, rfl⟩
 have bW : Below w.heap.size w W := by rw [hW]; exact bA _
 have sW : W.heap.size = V + 1 := by rw [hW, hV]; simp
 have rW : W.heap[V]? = some (.cells #[.int .i64 k, .int .i64 i, .string (str t), .slice a1 ns.length c1, .slice a2 is.length c2] 44 (0, 0)) := by rw [hW, hV]; exact heap_alloc_new _ _
 have hbV : b ≠ V := by have := hPr.lt; omega
 have HP1 := hide (put_any base b l [91] W (hPr.below bW) (by simp; omega) (by omega))
 have HKV : Hid (∀ u, Pk W u base b → u.heap[V]? = some (.cells #[.int .i64 k, .int .i64 i, .string (str t), .slice a1 ns.length c1, .slice a2 is.length c2] 44 (0, 0))) := fun u hu => hu.row rW (by decide) (fun e => hbV e.symm)
 have HbW := hide bW
 have HBS : Hid (base ≤ W.heap.size) := by show _ ≤ _; omega
 have HP := hide (hP.below bW)
 have HBB := hide hPr.1
 have HS := hide hS
 have HZ6 := hide hz6
 have HI : Hid (JVs W S a2 0 is) := JVs.keep (fun k hk => ⟨hk, bW.block k (by have := hS k hk; omega)⟩) _ _ _ hIt
 have HCKI := hide hck
 have HREC := hide hrec
 have HPk0 : Hid (Pk w W base b) := Pk.ofB bW
 obtain ⟨m, hm⟩ : ∃ m, m = is.length := ⟨_, rfl⟩
 have HM := hide hm
 have HF : Hid (joF true ((is.map (prN n)).take m) = joF true (is.map (prN n))) := by show _ = _; rw [List.take_of_length_le (by rw [List.length_map]; omega)]
 rw [← hm] at HKV
 rw [← hm]
 have hm9 : m ≤ 100000 := by omega
 obtain ⟨FIN, hFIN⟩ : ∃ FIN, FIN = l ++ ([91] ++ joF true (is.map (prN n)) ++ [93]) := ⟨_, rfl⟩
 rw [← hFIN]
 have HFIN := hide hFIN
 rw [← hm] at hW
 clear hN hIt hz6 hz5 bW sW rW hP hS hck hrec hm hFIN hPr
 go_enter Tryz.func94, Tryz.ntmps94
 go_upto_region 1 with fail
 rw [← hW, ← hV]
 clear hW hV
 go_wp2_with fail
 refine (uh HP1).mono ?_
 rintro e w1 ⟨rfl, h1, h2⟩
 clear HP1
 go_wp2_with fail
 go_loopw [4] (fun v wr => ∃ (q : Nat) (acc : List UInt8), q ≤ m ∧ v = .int .i64 (q : Int) ∧ Hid (acc.length ≤ max l.length 65536 + 100 * (n + 1) + 10) ∧ Hid (Pr wr base b acc) ∧ Hid (Pk W wr base b) ∧ Hid (Lk acc (l ++ [91] ++ joF true ((is.map (prN n)).take q)))) (fun v _ => m - (intOf v).toNat)
 case atStart => exact ⟨0, _, Nat.zero_le _, rfl, by show _ ≤ _; simp; omega, h1, h2, by show Lk _ _; simp [joF]; exact Lk.refl _⟩
 case round =>
  clear h1 h2
  obtain ⟨q, acc, hq, rfl, HL, H1, H2, HLK⟩ := hrel
  obtain ⟨p0, p1, p2, p3, p4⟩ := cells5 (uh HKV wr (uh H2))
  have HBr : Hid (base ≤ wr.heap.size) := Nat.le_trans (uh HBS) (uh H2).size
  have hal : acc.length ≤ 80000000 := by have := uh HL; omega
  by_cases hlt : q < m
  ·have hlt' : (q : Int) < (m : Int) := by omega
   have HFu := hide (full_any base b acc wr (uh H1))
   by_cases hfl : 65536 < acc.length
   ·rw [decide_eq_true hfl] at HFu
    have HQ := hide (put_any base b acc [93] wr (uh H1) (by simp; omega) (uh HBr))
    have HE : Hid (Lk (acc ++ [93]) FIN) := by
     have h3 := Lk.full (z := l ++ [91] ++ joF true (is.map (prN n))) (uh HLK) hfl (by have := joF_le (is.map (prN n)) q; simp only [List.length_append]; omega)
     have h4 := h3.app [93]
     show Lk _ _
     rw [uh HFIN]
     simpa [List.append_assoc] using h4
    clear p0 p1 p2 p3
    go_wp2_with fail
    refine (uh HFu).mono ?_
    rintro e w2 ⟨rfl, hw2⟩
    subst hw2
    clear HFu p4
    go_wp2_with fail
    refine (uh HQ).mono ?_
    rintro e w3 ⟨rfl, h3, h4⟩
    clear HQ
    go_wp2_with fail
    go_end0
    refine ⟨rfl, _, h3, HE, ?_, hide ((uh HPk0).trans ((uh H2).trans (uh h4)))⟩
    show _ ≤ _
    have := uh HL
    simp; omega
   ·rw [decide_eq_false hfl] at HFu
    obtain ⟨jj, hjj⟩ : ∃ jj, is[q]? = some jj := ⟨_, List.getElem?_eq_getElem (by rw [← uh HM]; exact hlt)⟩
    have HCo := hide (comma_any base b q acc wr (uh H1) (by omega) (uh HBr))
    have hel := (jvs_iff W S a2 is 0).1 (uh HI) q jj hjj
    rw [Nat.zero_add] at hel
    have HEL := hide hel
    have HJJ := hide hjj
    obtain ⟨acc1, hacc1⟩ : ∃ acc1, acc1 = acc ++ (if q = 0 then [] else [44]) := ⟨_, rfl⟩
    rw [← hacc1] at HCo
    have hal1 : acc1.length ≤ 65537 := by rw [hacc1]; split <;> simp <;> omega
    have HAC := hide hacc1
    clear hel hjj hacc1 p0 p1 p2 p3
    go_wp2_with fail
    refine (uh HFu).mono ?_
    rintro e w2 ⟨rfl, hw2⟩
    subst hw2
    clear HFu p4
    go_wp2_with fail
    refine (uh HCo).mono ?_
    rintro e w3 ⟨rfl, h3, h4⟩
    clear HCo
    have HPk3 : Hid (Pk W w3 base b) := (uh H2).trans (uh h4)
    have hel3 := (uh HEL).keep (w' := w3) (S' := S) (fun k hk => ⟨hk, (uh HPk3).block k (by have := uh HS k hk; have := uh HBS; omega) (by have := uh HS k hk; have := uh HBB; omega) (.inl (uh HS k hk))⟩)
    obtain ⟨bb, off, v0, v1, v2, v3, v4, rfl, hSb, g0, g1, g2, g3, g4, hj⟩ := hel3
    obtain ⟨jk, jn, jt, ja1, jn1, jc1, ja2, jn2, jc2, e⟩ := hj.form
    simp only [Value.agg.injEq, Array.mk.injEq, List.cons.injEq, and_true] at e
    obtain ⟨rfl, rfl, rfl, rfl, rfl⟩ := e
    obtain ⟨p0, p1, p2, p3, p4⟩ := cells5 (uh HKV w3 (uh HPk3))
    have hmem := List.mem_of_getElem? (uh HJJ)
    have HV9 := hide (uh HREC jj S _ base b acc1 w3 (uh HCKI jj hmem) hj (uh HS) ((szs_iff is).1 (uh HZ6) jj hmem) ((uh HP).pk (uh HPk3) hg (uh HBB)) hg (uh h3) (Nat.le_trans (uh HBS) (uh HPk3).size) (by omega))
    clear hj hmem p0 p1 p2 p3 hSb
    go_wp2_with fail
    refine (uh HV9).mono ?_
    rintro e w5 ⟨rfl, acc2, k1, k2, k3, k4⟩
    clear HV9 g0 g1 g2 g3 g4 p4
    have HPk5 : Hid (Pk W w5 base b) := (uh HPk3).trans (uh k4)
    have HLK5 : Hid (Lk acc2 (l ++ [91] ++ joF true ((is.map (prN n)).take (q + 1)))) := by
     show Lk _ _
     rw [joF_take (is.map (prN n)) q (prN n jj) (by rw [List.getElem?_map, uh HJJ]; rfl)]
     have h5 := ((uh HLK).app (if q = 0 then [] else [44])).app (prN n jj)
     rw [← uh HAC] at h5
     have h6 := (uh k2).trans h5
     simpa [List.append_assoc] using h6
    have HL5 : Hid (acc2.length ≤ max l.length 65536 + 100 * (n + 1) + 10) := by show _ ≤ _; have := uh k3; omega
    clear k2 k3 k4
    go_wp2_with fail
    go_roundw
    case rel => exact ⟨q + 1, acc2, by omega, by go_num, HL5, k1, HPk5, HLK5⟩
    case measure => simp [intOf]; omega
  ·have hqm : q = m := by omega
   subst hqm
   have hlt' : ¬ (q : Int) < (q : Int) := by omega
   have HQ := hide (put_any base b acc [93] wr (uh H1) (by simp; omega) (uh HBr))
   have HE : Hid (Lk (acc ++ [93]) FIN) := by
    have h4 := (uh HLK).app [93]
    rw [uh HF] at h4
    show Lk _ _
    rw [uh HFIN]
    simpa [List.append_assoc] using h4
   clear p0 p1 p2 p3
   go_wp2_with fail
   refine (uh HQ).mono ?_
   rintro e w3 ⟨rfl, h3, h4⟩
   clear HQ p4
   go_wp2_with fail
   go_end0
   refine ⟨rfl, _, h3, HE, ?_, hide ((uh HPk0).trans ((uh H2).trans (uh h4)))⟩
   show _ ≤ _
   have := uh HL
   simp; omega
end Go.Proofs.YtmpjeahibfdehaaGreatDoor
end
section
set_option linter.unusedVariables false
set_option maxRecDepth 1000000
namespace Go.Proofs.YtmpjeahibfdehaaGreatDoor
open Go.RowKit

set_option maxHeartbeats 8000000 in
theorem pobj_any (n : Nat) (hrec : PvC n) (hn9 : n ≤ 16) (k i : Int) (t : List UInt8) (ns : List (List UInt8)) (is : List Js) (S : Nat → Prop) (v : Value) (base b : Nat) (l : List UInt8) (w : World) (hck : ∀ j ∈ is, ck n j = 0) (hnd : ns.Nodup) (hnl : ns.length = is.length) (hJ : JV w S v (.mk k i t ns is)) (hS : ∀ k, S k → k < base) (hz : Sz (.mk k i t ns is)) (hP : P10 w) (hg : 1 < base) (hPr : Pr w base b l) (hb : base ≤ w.heap.size) (hl : l.length ≤ 70000000) :
  Calls Tryz.prog 95 #[.pointer (some ⟨b, 0, none⟩), v] w fun e w' => e = .returned (.tuple #[]) ∧ ∃ l', Hid (Pr w' base b l') ∧ Hid (Lk l' (l ++ ([123] ++ joF true ((ordS ns).map (memP (prN n) ns is)) ++ [125]))) ∧ Hid (l'.length ≤ max l.length 65536 + 100 * (n + 2)) ∧ Hid (Pk w w' base b) := by
 simp only [JV] at hJ
 obtain ⟨a1, ca, a2, c2, rfl, hN, hnc, _, _, hic, _, _, hIt⟩ := hJ
 simp only [Sz] at hz
 obtain ⟨hz1, hz2, hz3, hz4, hz5, hz6⟩ := hz
 obtain ⟨V, hV⟩ : ∃ V, V = w.heap.size := ⟨_, rfl⟩
 obtain ⟨W, hW⟩ : ∃ W, W = w.alloc (.cells #[.int .i64 k, .int .i64 i, .string (str t), .slice a1 ns.length ca, .slice a2 is.length c2] 44) := ⟨_, rfl⟩
 have bW : Below w.heap.size w W := by rw [hW]; exact bA _
 have sW : W.heap.size = V + 1 := by rw [hW, hV]; simp
 have rW : W.heap[V]? = some (.cells #[.int .i64 k, .int .i64 i, .string (str t), .slice a1 ns.length ca, .slice a2 is.length c2] 44 (0, 0)) := by rw [hW, hV]; exact heap_alloc_new _ _
 have hbV : b ≠ V := by have := hPr.lt; omega
 have HP1 := hide (put_any base b l [123] W (hPr.below bW) (by simp; omega) (by omega))
 have HKV : Hid (∀ u, Pk W u base b → u.heap[V]? = some (.cells #[.int .i64 k, .int .i64 i, .string (str t), .slice a1 ns.length ca, .slice a2 is.length c2] 44 (0, 0))) := fun u hu => hu.row rW (by decide) (fun e => hbV e.symm)
 have HbW := hide bW
 have HBS : Hid (base ≤ W.heap.size) := by show _ ≤ _; omega
 have HP := hide (hP.below bW)
 have HBB := hide hPr.1
 have HBW : Hid (b < W.heap.size) := by show _ < _; have := hPr.lt; omega
 have HS := hide hS
 have HZ6 := hide hz6
 have HZ5 := hide hz5
 have HI : Hid (JVs W S a2 0 is) := JVs.keep (fun k hk => ⟨hk, bW.block k (by have := hS k hk; omega)⟩) _ _ _ hIt
 have HN : Hid (NsF W S a1 ns) := hN.keep (fun k hk => ⟨hk, bW.block k (by have := hS k hk; omega)⟩)
 have HCKI := hide hck
 have HREC := hide hrec
 have HPk0 : Hid (Pk w W base b) := Pk.ofB bW
 have HSK : Hid (∀ u, Pk W u base b → ∀ k, S k → S k ∧ u.heap[k]? = W.heap[k]?) := fun u hu k hk => ⟨hk, hu.block k (by have := hS k hk; omega) (by have := hS k hk; have := hPr.1; omega) (.inl (hS k hk))⟩
 obtain ⟨m, hm⟩ : ∃ m, m = is.length := ⟨_, rfl⟩
 have hmn : m = ns.length := by omega
 have HM := hide hm
 have HMN := hide hmn
 have HND := hide hnd
 obtain ⟨MS, hMS⟩ : ∃ MS, MS = (ordS ns).map (memP (prN n) ns is) := ⟨_, rfl⟩
 rw [← hMS]
 have HMS := hide hMS
 have HF : Hid (joF true (MS.take m) = joF true MS) := by show _ = _; rw [List.take_of_length_le (by rw [hMS, List.length_map, (ordS_ris ns).len]; omega)]
 rw [← hm, ← hmn] at HKV
 rw [← hm, ← hmn]
 have hm9 : m ≤ 100000 := by omega
 obtain ⟨FIN, hFIN⟩ : ∃ FIN, FIN = l ++ ([123] ++ joF true MS ++ [125]) := ⟨_, rfl⟩
 rw [← hFIN]
 have HFIN := hide hFIN
 rw [← hm, ← hmn] at hW
 clear hN hIt hz6 hz5 bW sW rW hP hS hck hrec hFIN hPr hMS hnd hm hmn hnl hnc hic
 go_enter Tryz.func95, Tryz.ntmps95
 go_upto_region 1 with fail
 rw [← hW, ← hV]
 clear hW hV
 go_wp2_with fail
 refine (uh HP1).mono ?_
 rintro e w1 ⟨rfl, h1, h2⟩
 clear HP1
 obtain ⟨p0, p1, p2, p3, p4⟩ := cells5 (uh HKV w1 (uh h2))
 have HRI := hide (rising_any a1 ca ns S w1 ((uh HN).keep (uh HSK w1 (uh h2))) (by omega))
 rw [← uh HMN] at HRI
 clear p0 p1 p2 p4 hz3 hz4
 go_wp2_with fail
 refine (uh HRI).mono ?_
 rintro e w2 ⟨hB2, ao, o, rfl, hO, hR⟩
 rw [← uh HMN]
 have hoS : o = ordS ns := hO.eq (uh HND) (ordS_ris ns)
 subst hoS
 have HPk2 : Hid (Pk W w2 base b) := (uh h2).trans (Pk.ofB hB2)
 have HPr2 : Hid (Pr w2 base b (l ++ [123])) := (uh h1).below hB2
 have HOR := hide hR
 have HLO : Hid (b < w1.heap.size) := by show _ < _; have := uh HBW; have := (uh h2).size; omega
 clear hB2 hO hR HRI h1 h2 p3
 go_wp2_with fail
 go_loopw [5] (fun v wr => ∃ (q : Nat) (acc : List UInt8), q ≤ m ∧ v = .int .i64 (q : Int) ∧ Hid (acc.length ≤ max l.length 65536 + 100 * (n + 1) + 20) ∧ Hid (Pr wr base b acc) ∧ Hid (Pk w2 wr base b) ∧ Hid (Lk acc (l ++ [123] ++ joF true (MS.take q)))) (fun v _ => m - (intOf v).toNat)
 case atStart => exact ⟨0, _, Nat.zero_le _, rfl, by show _ ≤ _; simp; omega, HPr2, hide (Pk.refl _ _ _), by show Lk _ _; simp [joF]; exact Lk.refl _⟩
 case round =>
  obtain ⟨q, acc, hq, rfl, HL, H1, H2, HLK⟩ := hrel
  have HPkr : Hid (Pk W wr base b) := (uh HPk2).trans (uh H2)
  have HBr : Hid (base ≤ wr.heap.size) := Nat.le_trans (uh HBS) (uh HPkr).size
  have hal : acc.length ≤ 80000000 := by have := uh HL; omega
  by_cases hlt : q < m
  ·have hlt' : (q : Int) < (m : Int) := by omega
   have HFu := hide (full_any base b acc wr (uh H1))
   by_cases hfl : 65536 < acc.length
   ·rw [decide_eq_true hfl] at HFu
    have HQ := hide (put_any base b acc [125] wr (uh H1) (by simp; omega) (uh HBr))
    have HE : Hid (Lk (acc ++ [125]) FIN) := by
     have h3 := Lk.full (z := l ++ [123] ++ joF true MS) (uh HLK) hfl (by have := joF_le MS q; simp only [List.length_append]; omega)
     have h4 := h3.app [125]
     show Lk _ _
     rw [uh HFIN]
     simpa [List.append_assoc] using h4
    go_wp2_with fail
    refine (uh HFu).mono ?_
    rintro e w9 ⟨rfl, hw9⟩
    subst hw9
    clear HFu
    go_wp2_with fail
    refine (uh HQ).mono ?_
    rintro e w3 ⟨rfl, h3, h4⟩
    clear HQ
    go_wp2_with fail
    go_end0
    refine ⟨rfl, _, h3, HE, ?_, hide ((uh HPk0).trans ((uh HPkr).trans (uh h4)))⟩
    show _ ≤ _
    have := uh HL
    simp; omega
   ·rw [decide_eq_false hfl] at HFu
    have hol : (ordS ns).length = m := by rw [(ordS_ris ns).len, uh HMN]
    obtain ⟨p, hp⟩ : ∃ p, (ordS ns)[q]? = some p := ⟨_, List.getElem?_eq_getElem (by rw [hol]; exact hlt)⟩
    have hpm : p < m := by rw [uh HMN]; exact (ordS_ris ns).lt p (List.mem_of_getElem? hp)
    have hpm' : (p : Int) < (m : Int) := by omega
    obtain ⟨jj, hjj⟩ : ∃ jj, is[p]? = some jj := ⟨_, List.getElem?_eq_getElem (by rw [← uh HM]; exact hpm)⟩
    have HCo := hide (comma_any base b q acc wr (uh H1) (by omega) (uh HBr))
    have hel := (jvs_iff W S a2 is 0).1 (uh HI) p jj hjj
    rw [Nat.zero_add] at hel
    have HEL := hide hel
    have HJJ := hide hjj
    obtain ⟨nm, hnm⟩ : ∃ nm, nm = nmA ns p := ⟨_, rfl⟩
    have hne : ns ≠ [] := fun e => by rw [uh HMN, e] at hpm; simp at hpm
    have hone : ordS ns ≠ [] := fun e => by rw [e] at hp; simp at hp
    have hpn : p < ns.length := by rw [← uh HMN]; exact hpm
    have hnmg : ns[p]? = some nm := by rw [hnm, nmA_get hpn, List.getElem?_eq_getElem]
    have HNL : Hid (nm.length ≤ 100000) := uh HZ5 nm (List.mem_of_getElem? hnmg)
    have HMQ : Hid (MS[q]? = some (quo nm ++ [58] ++ prN n jj)) := by
     show _ = _
     rw [uh HMS, List.getElem?_map, hp]
     simp only [Option.map_some, memP]
     rw [← hnm, List.getD_eq_getElem?_getD, hjj]
     rfl
    have HNG := hide hnmg
    have HPQ := hide hp
    have HNE := hide hne
    have HONE := hide hone
    obtain ⟨acc1, hacc1⟩ : ∃ acc1, acc1 = acc ++ (if q = 0 then [] else [44]) := ⟨_, rfl⟩
    rw [← hacc1] at HCo
    have hal1 : acc1.length ≤ 65537 := by rw [hacc1]; split <;> simp <;> omega
    have HAC := hide hacc1
    clear hel hjj hacc1 hol hp hpm hnm hne hone hpn hnmg
    go_wp2_with fail
    refine (uh HFu).mono ?_
    rintro e w9 ⟨rfl, hw9⟩
    subst hw9
    clear HFu
    go_wp2_with fail
    refine (uh HCo).mono ?_
    rintro e w3 ⟨rfl, h3, h4⟩
    clear HCo
    have HPk3 : Hid (Pk w2 w3 base b) := (uh H2).trans (uh h4)
    have HPkW3 : Hid (Pk W w3 base b) := (uh HPk2).trans (uh HPk3)
    obtain ⟨p0, p1, p2, p3, p4⟩ := cells5 (uh HKV w3 (uh HPkW3))
    obtain ⟨G, cur, rfl, hlo, hrow, hcell⟩ := ((uh HOR).pk (uh HPk3) (uh HLO)) (uh HONE)
    obtain ⟨B, ob, rfl, hSB, hBc⟩ := ((uh HN).keep (uh HSK w3 (uh HPkW3))) (uh HNE)
    have c1 : w3.cell? ⟨G, q, none⟩ = some (.int .i64 (p : Int)) := hcell q p (uh HPQ)
    have c2 : w3.cell? ⟨B, ob + p, none⟩ = some (.string (str nm)) := hBc p nm (uh HNG)
    have HQT := hide (quoted_any base b acc1 nm w3.drew (uh h3).drew (by omega) (by have := uh HNL; omega) (by show _ ≤ w3.heap.size; exact Nat.le_trans (uh HBS) (uh HPkW3).size))
    obtain ⟨acc3, hacc3⟩ : ∃ acc3, acc3 = qtL (acc1 ++ [34]) nm ++ [34] := ⟨_, rfl⟩
    have HLK3 : Hid (Lk acc3 (acc1 ++ quo nm)) := by show Lk _ _; rw [hacc3]; exact quo_lk acc1 nm
    have hal3 : acc3.length ≤ 65546 := by rw [hacc3]; have := quo_len acc1 nm; omega
    rw [← hacc3] at HQT
    have HS5 : Hid (∀ u, Pk w3.drew u base b → u.cell? ⟨V, 3, none⟩ = some (.slice (some ⟨B, ob, none⟩) m ca) ∧ u.cell? ⟨G, q, none⟩ = some (.int .i64 (p : Int)) ∧ u.cell? ⟨B, ob + p, none⟩ = some (.string (str nm))) := by
     intro u hu
     have hu3 := (uh HPk3).trans hu.drew
     have huW := (uh HPk2).trans hu3
     obtain ⟨_, _, _, r3, _⟩ := cells5 (uh HKV u huW)
     obtain ⟨G', cur', e', _, _, hcell'⟩ := ((uh HOR).pk hu3 (uh HLO)) (uh HONE)
     cases e'
     have eb := (uh HSK u huW B hSB).2.trans (uh HSK w3 (uh HPkW3) B hSB).2.symm
     exact ⟨r3, hcell' q p (uh HPQ), cell_keep eb c2⟩
    clear hacc3 hrow hcell hBc hSB p0 p1 p2 p4 hlo
    go_wp2_with fail
    go_region_held3 (fun w' => w'.cell? ⟨V, 3, none⟩ = some (.slice (some ⟨B, ob, none⟩) m ca) ∧ w'.cell? ⟨G, q, none⟩ = some (.int .i64 (p : Int)) ∧ w'.cell? ⟨B, ob + p, none⟩ = some (.string (str nm))) (first | exact ⟨p3, c1, c2⟩ | assumption | go_keep) ((first | (go_at_call 93; refine (uh HQT).mono ?_; rintro e w4 ⟨rfl, h5, h6⟩; have S5 : w4.cell? ⟨V, 3, none⟩ = some (.slice (some ⟨B, ob, none⟩) m ca) ∧ w4.cell? ⟨G, q, none⟩ = some (.int .i64 (p : Int)) ∧ w4.cell? ⟨B, ob + p, none⟩ = some (.string (str nm)) := uh HS5 w4 (uh h6))))
    all_goals
     have HPk4 : Hid (Pk w2 w4 base b) := (uh HPk3).trans (uh h6).drew
     have HPkW4 : Hid (Pk W w4 base b) := (uh HPk2).trans (uh HPk4)
     clear HQT h6 p3 c1 c2
     have HQ2 := hide (put_any base b acc3 [58] w4 (uh h5) (by simp; omega) (Nat.le_trans (uh HBS) (uh HPkW4).size))
     go_wp2_with fail
     refine (uh HQ2).mono ?_
     rintro e w5 ⟨rfl, h7, h8⟩
     clear HQ2 h5
     have HPk5 : Hid (Pk w2 w5 base b) := (uh HPk4).trans (uh h8)
     have HPkW5 : Hid (Pk W w5 base b) := (uh HPk2).trans (uh HPk5)
     clear h8
     have hel5 := (uh HEL).keep (w' := w5) (S' := S) (uh HSK w5 (uh HPkW5))
     obtain ⟨bb, off, v0, v1, v2, v3, v4, rfl, hSb, g0, g1, g2, g3, g4, hj⟩ := hel5
     obtain ⟨jk, jn, jt, ja1, jn1, jc1, ja2, jn2, jc2, e⟩ := hj.form
     simp only [Value.agg.injEq, Array.mk.injEq, List.cons.injEq, and_true] at e
     obtain ⟨rfl, rfl, rfl, rfl, rfl⟩ := e
     obtain ⟨p0, p1, p2, p3, p4⟩ := cells5 (uh HKV w5 (uh HPkW5))
     obtain ⟨G', cur', e', _, _, hcell'⟩ := ((uh HOR).pk (uh HPk5) (uh HLO)) (uh HONE)
     cases e'
     have c1' : w5.cell? ⟨G, q, none⟩ = some (.int .i64 (p : Int)) := hcell' q p (uh HPQ)
     have hmem := List.mem_of_getElem? (uh HJJ)
     obtain ⟨acc4, hacc4⟩ : ∃ acc4, acc4 = acc3 ++ [58] := ⟨_, rfl⟩
     rw [← hacc4] at h7
     have hal4 : acc4.length ≤ 65547 := by rw [hacc4]; simp; omega
     have HV9 := hide (uh HREC jj S _ base b acc4 w5.drew (uh HCKI jj hmem) (JV.keep (w := w5) (w' := w5.drew) (fun k hk => ⟨hk, rfl⟩) _ _ hj) (uh HS) ((szs_iff is).1 (uh HZ6) jj hmem) (((uh HP).pk (uh HPkW5) hg (uh HBB)).keep rfl) hg (uh h7).drew (Nat.le_trans (uh HBS) (uh HPkW5).size) (by omega))
     have HA4 := hide hacc4
     have HS6 : Hid (∀ u, Pk w5.drew u base b → u.cell? ⟨V, 4, none⟩ = some (.slice (some ⟨bb, off, none⟩) m c2) ∧ u.cell? ⟨G, q, none⟩ = some (.int .i64 (p : Int)) ∧ u.cell? ⟨bb, off + p * 5, none⟩ = some (.int .i64 jk) ∧ u.cell? ⟨bb, off + p * 5 + 1, none⟩ = some (.int .i64 jn) ∧ u.cell? ⟨bb, off + p * 5 + 2, none⟩ = some (.string (str jt)) ∧ u.cell? ⟨bb, off + p * 5 + 3, none⟩ = some (.slice ja1 jn1 jc1) ∧ u.cell? ⟨bb, off + p * 5 + 4, none⟩ = some (.slice ja2 jn2 jc2)) := by
      intro u hu
      have hu5 := (uh HPk5).trans hu.drew
      have huW := (uh HPk2).trans hu5
      obtain ⟨_, _, _, _, r4⟩ := cells5 (uh HKV u huW)
      obtain ⟨G', cur', e', _, _, hcell'⟩ := ((uh HOR).pk hu5 (uh HLO)) (uh HONE)
      cases e'
      have eb := (uh HSK u huW bb hSb).2.trans (uh HSK w5 (uh HPkW5) bb hSb).2.symm
      exact ⟨r4, hcell' q p (uh HPQ), cell_keep eb g0, cell_keep eb g1, cell_keep eb g2, cell_keep eb g3, cell_keep eb g4⟩
     clear hj hmem p0 p1 p2 p3 hSb hcell' hacc4 h7
     go_wp2_with fail
     go_region_held3 (fun w' => w'.cell? ⟨V, 4, none⟩ = some (.slice (some ⟨bb, off, none⟩) m c2) ∧ w'.cell? ⟨G, q, none⟩ = some (.int .i64 (p : Int)) ∧ w'.cell? ⟨bb, off + p * 5, none⟩ = some (.int .i64 jk) ∧ w'.cell? ⟨bb, off + p * 5 + 1, none⟩ = some (.int .i64 jn) ∧ w'.cell? ⟨bb, off + p * 5 + 2, none⟩ = some (.string (str jt)) ∧ w'.cell? ⟨bb, off + p * 5 + 3, none⟩ = some (.slice ja1 jn1 jc1) ∧ w'.cell? ⟨bb, off + p * 5 + 4, none⟩ = some (.slice ja2 jn2 jc2)) (first | exact ⟨p4, c1', g0, g1, g2, g3, g4⟩ | assumption | go_keep) ((first | (go_at_call 55; refine (uh HV9).mono ?_; rintro e w6 ⟨rfl, acc5, k1, k2, k3, k4⟩; have S6 : w6.cell? ⟨V, 4, none⟩ = some (.slice (some ⟨bb, off, none⟩) m c2) ∧ w6.cell? ⟨G, q, none⟩ = some (.int .i64 (p : Int)) ∧ w6.cell? ⟨bb, off + p * 5, none⟩ = some (.int .i64 jk) ∧ w6.cell? ⟨bb, off + p * 5 + 1, none⟩ = some (.int .i64 jn) ∧ w6.cell? ⟨bb, off + p * 5 + 2, none⟩ = some (.string (str jt)) ∧ w6.cell? ⟨bb, off + p * 5 + 3, none⟩ = some (.slice ja1 jn1 jc1) ∧ w6.cell? ⟨bb, off + p * 5 + 4, none⟩ = some (.slice ja2 jn2 jc2) := uh HS6 w6 (uh k4))))
     all_goals
      have HPk6 : Hid (Pk w2 w6 base b) := (uh HPk5).trans (uh k4).drew
      have HLK6 : Hid (Lk acc5 (l ++ [123] ++ joF true (MS.take (q + 1)))) := by
       show Lk _ _
       rw [joF_take MS q _ (uh HMQ)]
       have j1 := ((uh HLK).app (if q = 0 then [] else [44])).app (quo nm)
       rw [← uh HAC] at j1
       have j2 := (((uh HLK3).trans j1).app [58]).app (prN n jj)
       rw [← uh HA4] at j2
       have j3 := (uh k2).trans j2
       simpa [List.append_assoc] using j3
      have HL6 : Hid (acc5.length ≤ max l.length 65536 + 100 * (n + 1) + 20) := by show _ ≤ _; have := uh k3; omega
      clear HV9 HS6 g0 g1 g2 g3 g4 p4 c1' k2 k3 k4 S6
      go_wp2_with fail
      go_roundw
      case rel => exact ⟨q + 1, acc5, by omega, by go_num, HL6, k1, HPk6, HLK6⟩
      case measure => simp [intOf]; omega
  ·have hqm : q = m := by omega
   subst hqm
   have hlt' : ¬ (q : Int) < (q : Int) := by omega
   have HQ := hide (put_any base b acc [125] wr (uh H1) (by simp; omega) (uh HBr))
   have HE : Hid (Lk (acc ++ [125]) FIN) := by
    have h4 := (uh HLK).app [125]
    rw [uh HF] at h4
    show Lk _ _
    rw [uh HFIN]
    simpa [List.append_assoc] using h4
   go_wp2_with fail
   refine (uh HQ).mono ?_
   rintro e w3 ⟨rfl, h3, h4⟩
   clear HQ
   go_wp2_with fail
   go_end0
   refine ⟨rfl, _, h3, HE, ?_, hide ((uh HPk0).trans ((uh HPkr).trans (uh h4)))⟩
   show _ ≤ _
   have := uh HL
   simp; omega
end Go.Proofs.YtmpjeahibfdehaaGreatDoor
end
section
set_option linter.unusedVariables false
set_option maxRecDepth 1000000
namespace Go.Proofs.YtmpjeahibfdehaaGreatDoor
open Go.RowKit

theorem ck_zero (n : Nat) (k i : Int) (t : List UInt8) (ns : List (List UInt8)) (is : List Js) (h : ck n (.mk k i t ns is) = 0) : wfB (.mk k i t ns is) = true ∧ ns.Nodup ∧ ((k = 4 ∨ k = 5) → ∃ m, n = m + 1 ∧ ∀ x ∈ is, ck m x = 0) := by
 have key : ∀ C : Option (Js → Nat), ckF C (.mk k i t ns is) = 0 → wfB (.mk k i t ns is) = true ∧ ns.Nodup ∧ ((k = 4 ∨ k = 5) → ∃ C', C = some C' ∧ ∀ x ∈ is, C' x = 0) := by
  intro C hC
  rw [ckF_eq] at hC
  split at hC
  ·cases hC
  ·split at hC
   ·cases hC
   ·split at hC
    ·cases hC
    ·rename_i h1 h2 h3
     refine ⟨by simpa using h2, by simpa using h3, fun hk => ?_⟩
     cases C with
     | none => exact absurd ⟨hk, rfl⟩ h1
     | some C => exact ⟨C, rfl, fsE_zero.1 hC⟩
 cases n with
 | zero =>
  obtain ⟨h1, h2, h3⟩ := key none h
  exact ⟨h1, h2, fun hk => by obtain ⟨C', e, _⟩ := h3 hk; cases e⟩
 | succ m =>
  obtain ⟨h1, h2, h3⟩ := key (some (ck m)) h
  exact ⟨h1, h2, fun hk => by obtain ⟨C', e, h⟩ := h3 hk; cases e; exact ⟨m, rfl, h⟩⟩
theorem wf_kind {k i : Int} {t : List UInt8} {ns : List (List UInt8)} {is : List Js} (h : wfB (.mk k i t ns is) = true) : (k = 0 ∨ k = 1 ∨ k = 2 ∨ k = 3 ∨ k = 4 ∨ k = 5) ∧ (k = 5 → ns.length = is.length) := by
 rw [wfB] at h
 by_cases h0 : k = 0
 ·exact ⟨.inl h0, fun e => by omega⟩
 by_cases h1 : k = 1
 ·exact ⟨.inr (.inl h1), fun e => by omega⟩
 by_cases h2 : k = 2
 ·exact ⟨.inr (.inr (.inl h2)), fun e => by omega⟩
 by_cases h3 : k = 3
 ·exact ⟨.inr (.inr (.inr (.inl h3))), fun e => by omega⟩
 by_cases h4 : k = 4
 ·exact ⟨.inr (.inr (.inr (.inr (.inl h4)))), fun e => by omega⟩
 by_cases h5 : k = 5
 ·refine ⟨.inr (.inr (.inr (.inr (.inr h5)))), fun _ => ?_⟩
  rw [if_neg h0, if_neg h1, if_neg h2, if_neg h3, if_neg h4, if_pos h5] at h
  simp only [Bool.and_eq_true, beq_iff_eq] at h
  exact h.1.2
 ·rw [if_neg h0, if_neg h1, if_neg h2, if_neg h3, if_neg h4, if_neg h5] at h
  cases h
theorem prN_eq (n : Nat) (j : Js) : ∃ P, prN n j = prF P j ∧ ∀ m, n = m + 1 → P = prN m := by
 cases n with
 | zero => exact ⟨fun _ => [], rfl, fun m e => by cases e⟩
 | succ m => exact ⟨prN m, rfl, fun m' e => by cases e; rfl⟩
set_option maxHeartbeats 8000000 in
theorem value_core (n : Nat) (hn9 : n ≤ 16) (hrec : ∀ m, n = m + 1 → PvC m) : PvC n := by
 intro j S v base b l w hck hJ hS hz hP hg hPr hb hl
 cases j with
 | mk k i t ns is =>
 obtain ⟨hwf, hnd, hit⟩ := ck_zero n k i t ns is hck
 obtain ⟨hkk, hnl⟩ := wf_kind hwf
 obtain ⟨P, hPN, hPm⟩ := prN_eq n (.mk k i t ns is)
 have hJ0 := hJ
 simp only [JV] at hJ
 obtain ⟨a1, ca, a2, c2, rfl, _⟩ := hJ
 have hz0 := hz
 simp only [Sz] at hz
 obtain ⟨hz1, hz2, _⟩ := hz
 obtain ⟨V, hV⟩ : ∃ V, V = w.heap.size := ⟨_, rfl⟩
 obtain ⟨W, hW⟩ : ∃ W, W = w.alloc (.cells #[.int .i64 k, .int .i64 i, .string (str t), .slice a1 ns.length ca, .slice a2 is.length c2] 44) := ⟨_, rfl⟩
 have bW : Below w.heap.size w W := by rw [hW]; exact bA _
 have sW : W.heap.size = V + 1 := by rw [hW, hV]; simp
 have rW : W.heap[V]? = some (.cells #[.int .i64 k, .int .i64 i, .string (str t), .slice a1 ns.length ca, .slice a2 is.length c2] 44 (0, 0)) := by rw [hW, hV]; exact heap_alloc_new _ _
 obtain ⟨p0, p1, p2, p3, p4⟩ := cells5 rW
 have hPW := hPr.below bW
 have hbWs : base ≤ W.heap.size := by omega
 have hPk0 : Pk w W base b := Pk.ofB bW
 have hJW : JV W S (.agg #[.int .i64 k, .int .i64 i, .string (str t), .slice a1 ns.length ca, .slice a2 is.length c2]) (.mk k i t ns is) := JV.keep (fun k hk => ⟨hk, bW.block k (by have := hS k hk; omega)⟩) _ _ hJ0
 have hP10 := hP.below bW
 rw [hPN]
 have HPk0 := hide hPk0
 obtain ⟨OUT, hOUT⟩ : ∃ OUT, OUT = prF P (.mk k i t ns is) := ⟨_, rfl⟩
 rw [← hOUT]
 rw [prF] at hOUT
 clear hck hJ0 hwf hPr bW sW rW hP hPk0 hPN hb
 rcases hkk with rfl | rfl | rfl | rfl | rfl | rfl
 ·rw [if_pos rfl] at hOUT
  have HQ := hide (put_any base b l [110, 117, 108, 108] W hPW (by simp; omega) hbWs)
  have HOUT := hide hOUT
  clear hOUT hJW hP10 hPW hbWs hrec hS hit hz0 hnd hnl hPm
  go_enter Tryz.func55, Tryz.ntmps55
  go_upto_region 1 with fail
  rw [← hW, ← hV]
  clear hW hV
  go_wp2_with fail
  refine (uh HQ).mono ?_
  rintro e w1 ⟨rfl, h1, h2⟩
  clear HQ p0 p1 p2 p3 p4
  go_wp2_with fail
  go_end0
  refine ⟨rfl, _, h1, by rw [uh HOUT]; exact hide (Lk.refl _), by show _ ≤ _; simp; omega, hide ((uh HPk0).trans (uh h2))⟩
 ·rw [if_neg (by decide), if_pos rfl] at hOUT
  have HFB := hide (fmtBool_any (i == 1) W)
  have hOUT2 : OUT = if (i == 1) = true then [116, 114, 117, 101] else [102, 97, 108, 115, 101] := by rw [hOUT]; simp
  have hol : OUT.length ≤ 5 := by rw [hOUT2]; split <;> simp
  rw [← hOUT2] at HFB
  have HQ := hide (put_any base b l OUT W hPW (by omega) hbWs)
  clear hOUT hOUT2 hJW hP10 hPW hbWs hrec hS hit hz0 hnd hnl hPm
  go_enter Tryz.func55, Tryz.ntmps55
  go_upto_region 1 with fail
  rw [← hW, ← hV]
  clear hW hV
  go_wp2_with fail
  refine (uh HFB).mono ?_
  rintro e w9 ⟨rfl, hw9⟩
  subst hw9
  clear HFB
  go_wp2_with fail
  refine (uh HQ).mono ?_
  rintro e w1 ⟨rfl, h1, h2⟩
  clear HQ p0 p1 p2 p3 p4
  go_wp2_with fail
  go_end0
  refine ⟨rfl, _, h1, hide (Lk.refl _), by show _ ≤ _; simp; omega, hide ((uh HPk0).trans (uh h2))⟩
 ·rw [if_neg (by decide), if_neg (by decide), if_pos rfl] at hOUT
  have HFI := hide (fmtInt_any i hz1.1 hz1.2 W hP10)
  have hol : OUT.length ≤ 21 := by rw [hOUT]; exact Lib.itoa_length_le i hz1.1 hz1.2
  rw [← hOUT] at HFI
  have HPW := hide hPW
  have HBW := hide hbWs
  clear hOUT hJW hP10 hPW hbWs hrec hS hit hz0 hnd hnl hPm
  go_enter Tryz.func55, Tryz.ntmps55
  go_upto_region 1 with fail
  rw [← hW, ← hV]
  clear hW hV
  go_wp2_with fail
  refine (uh HFI).mono ?_
  rintro e w9 ⟨rfl, hb9⟩
  have HQ := hide (put_any base b l OUT w9 ((uh HPW).below (uh hb9)) (by omega) (Nat.le_trans (uh HBW) (uh hb9).size))
  have HPk9 : Hid (Pk w w9 base b) := (uh HPk0).trans (Pk.ofB (uh hb9))
  clear HFI hb9
  go_wp2_with fail
  refine (uh HQ).mono ?_
  rintro e w1 ⟨rfl, h1, h2⟩
  clear HQ p0 p1 p2 p3 p4
  go_wp2_with fail
  go_end0
  refine ⟨rfl, _, h1, hide (Lk.refl _), by show _ ≤ _; simp; omega, hide ((uh HPk9).trans (uh h2))⟩
 ·rw [if_neg (by decide), if_neg (by decide), if_neg (by decide), if_pos rfl] at hOUT
  have HQ := hide (quoted_any base b l t W hPW (by omega) (by omega) hbWs)
  have HLK := hide (quo_lk l t)
  have HLN := hide (quo_len l t)
  rw [← hOUT] at HLK
  clear hOUT hJW hP10 hPW hbWs hrec hS hit hz0 hnd hnl hPm
  go_enter Tryz.func55, Tryz.ntmps55
  go_upto_region 1 with fail
  rw [← hW, ← hV]
  clear hW hV
  go_wp2_with fail
  refine (uh HQ).mono ?_
  rintro e w1 ⟨rfl, h1, h2⟩
  clear HQ p0 p1 p2 p3 p4
  go_wp2_with fail
  go_end0
  refine ⟨rfl, _, h1, HLK, by show _ ≤ _; have := uh HLN; omega, hide ((uh HPk0).trans (uh h2))⟩
 ·obtain ⟨m, rfl, him⟩ := hit (.inl rfl)
  rw [if_neg (by decide), if_neg (by decide), if_neg (by decide), if_neg (by decide), if_pos rfl, hPm m rfl] at hOUT
  have HQ := hide (plist_any m (hrec m rfl) (by omega) 4 i t ns is S _ base b l W him hJW hS hz0 hP10 hg hPW hbWs hl)
  rw [← hOUT] at HQ
  clear hOUT hJW hP10 hPW hbWs hrec hS hit hz0 hnd hnl hPm him
  go_enter Tryz.func55, Tryz.ntmps55
  go_upto_region 1 with fail
  rw [← hW, ← hV]
  clear hW hV
  go_wp2_with fail
  refine (uh HQ).mono ?_
  rintro e w1 ⟨rfl, l', h1, h2, h3, h4⟩
  clear HQ p0 p1 p2 p3 p4
  go_wp2_with fail
  go_end0
  exact ⟨rfl, l', h1, h2, h3, hide ((uh HPk0).trans (uh h4))⟩
 ·obtain ⟨m, rfl, him⟩ := hit (.inr rfl)
  rw [if_neg (by decide), if_neg (by decide), if_neg (by decide), if_neg (by decide), if_neg (by decide), if_pos rfl, hPm m rfl] at hOUT
  have HQ := hide (pobj_any m (hrec m rfl) (by omega) 5 i t ns is S _ base b l W him hnd (hnl rfl) hJW hS hz0 hP10 hg hPW hbWs hl)
  rw [← hOUT] at HQ
  clear hOUT hJW hP10 hPW hbWs hrec hS hit hz0 hnd hnl hPm him
  go_enter Tryz.func55, Tryz.ntmps55
  go_upto_region 1 with fail
  rw [← hW, ← hV]
  clear hW hV
  go_wp2_with fail
  refine (uh HQ).mono ?_
  rintro e w1 ⟨rfl, l', h1, h2, h3, h4⟩
  clear HQ p0 p1 p2 p3 p4
  go_wp2_with fail
  go_end0
  exact ⟨rfl, l', h1, h2, h3, hide ((uh HPk0).trans (uh h4))⟩
theorem value9 : ∀ n, n ≤ 16 → PvC n
 | 0, h => value_core 0 h (fun m e => by cases e)
 | n + 1, h => value_core (n + 1) h (fun m e => by cases e; exact value9 n (by omega))
end Go.Proofs.YtmpjeahibfdehaaGreatDoor
end
section
set_option linter.unusedVariables false
set_option maxRecDepth 1000000
namespace Go.Proofs.YtmpjeahibfdehaaGreatDoor
open Go.RowKit

set_option maxHeartbeats 4000000 in
theorem print_any (j : Js) (S : Nat → Prop) (v : Value) (w : World) (hT : Tb4 w) (hP : P10 w) (hJ : JV w S v j) (hS : ∀ k, S k → k < w.heap.size) (hz : Sz j) :
  Calls Tryz.prog 26 #[v] w fun e w' => e = .returned (.tuple #[.string (str (prM j).1), .int .i64 ((prM j).2 : Int)]) ∧ Hid (Below w.heap.size w w') := by
 obtain ⟨k, n, t, a1, n1, c1, a2, n2, c2, rfl⟩ := hJ.form
 obtain ⟨W, hW⟩ : ∃ W, W = w.alloc (.cells #[.int .i64 k, .int .i64 n, .string (str t), .slice a1 n1 c1, .slice a2 n2 c2] 44) := ⟨_, rfl⟩
 obtain ⟨V, hV⟩ : ∃ V, V = w.heap.size := ⟨_, rfl⟩
 have bW : Below w.heap.size w W := by rw [hW]; exact bA _
 have sW : W.heap.size = V + 1 := by rw [hW, hV]; simp
 have rW : W.heap[V]? = some (.cells #[.int .i64 k, .int .i64 n, .string (str t), .slice a1 n1 c1, .slice a2 n2 c2] 44 (0, 0)) := by rw [hW, hV]; exact heap_alloc_new _ _
 obtain ⟨p0, p1, p2, p3, p4⟩ := cells5 rW
 have HC := hide (checkJ_any j S _ W (hT.below bW) (JV.keep (fun k hk => ⟨hk, bW.block k (hS k hk)⟩) _ _ hJ) (fun k hk => Nat.lt_of_lt_of_le (hS k hk) bW.size) hz)
 obtain ⟨OT, hOT⟩ : ∃ OT, OT = (prM j).1 := ⟨_, rfl⟩
 obtain ⟨OE, hOE⟩ : ∃ OE, OE = (prM j).2 := ⟨_, rfl⟩
 rw [← hOT, ← hOE]
 have HOT := hide hOT
 have HOE := hide hOE
 generalize hE : ck 16 j = E at HC
 have HE := hide hE
 have HB := hide bW
 have HRW := hide rW
 have HsW := hide sW
 have HJ := hide hJ
 have HS := hide hS
 have HZ := hide hz
 have HP := hide hP
 clear hT hJ hS hz rW bW sW hOT hOE hE hP
 go_enter Tryz.func26, Tryz.ntmps26
 go_upto_region 1 with fail
 rw [← hW, ← hV]
 have HVV := hide hV
 clear hW hV
 go_wp2_with fail
 refine (uh HC).mono ?_
 rintro e w1 ⟨rfl, h1⟩
 have HB1 : Hid (Below w.heap.size w w1) := (uh HB).trans ((uh h1).mono (uh HB).size)
 have HR1 : Hid (w1.heap[V]? = some (.cells #[.int .i64 k, .int .i64 n, .string (str t), .slice a1 n1 c1, .slice a2 n2 c2] 44 (0, 0))) := ((uh h1).block V (by rw [uh HsW]; omega)).trans (uh HRW)
 clear HC h1 p0 p1 p2 p3 p4
 by_cases hE0 : E = 0
 ·have hEb : (((E : Nat) : Int) != 0) = false := by rw [hE0]; rfl
  obtain ⟨b, hb⟩ : ∃ b, b = w1.heap.size := ⟨_, rfl⟩
  obtain ⟨U, hU⟩ : ∃ U, U = w1.alloc (.cells #[.slice none 0 0] 82) := ⟨_, rfl⟩
  have bU : Below w1.heap.size w1 U := by rw [hU]; exact bA _
  have sU : U.heap.size = b + 1 := by rw [hU, hb]; simp
  have hPr : Pr U b b [] := by
   refine ⟨Nat.le_refl _, none, 0, ?_, OwnB.nil _ _⟩
   rw [hU, hb]; exact heap_alloc_new _ _
  have hwU : Below w.heap.size w U := (uh HB1).trans (bU.mono (uh HB1).size)
  have hP10 := (uh HP).below hwU
  have hlt10 := (uh HP).lt
  have hsz1 := (uh HB1).size
  have HV9 := hide (value9 16 (Nat.le_refl _) j S _ b b [] U (by rw [uh HE]; exact hE0) (JV.keep (fun k hk => ⟨hk, hwU.block k (uh HS k hk)⟩) _ _ (uh HJ)) (fun k hk => by have := uh HS k hk; omega) (uh HZ) hP10 (by omega) hPr (by omega) (by simp))
  have rU : U.heap[V]? = some (.cells #[.int .i64 k, .int .i64 n, .string (str t), .slice a1 n1 c1, .slice a2 n2 c2] 44 (0, 0)) := (bU.block V (aI (uh HR1)).1).trans (uh HR1)
  obtain ⟨p0, p1, p2, p3, p4⟩ := cells5 rU
  have HwU := hide hwU
  have HsU : Hid (b ≤ U.heap.size ∧ w.heap.size ≤ b) := ⟨by omega, by omega⟩
  have HEE := hide hE0
  clear bU sU hPr hwU hP10 hlt10 hsz1 rU hE0
  go_upto_region 5 with fail
  rw [← hU, ← hb]
  clear hU hb
  go_wp2_with fail
  refine (uh HV9).mono ?_
  rintro e w2 ⟨rfl, l', k1, k2, k3, k4⟩
  clear HV9 p0 p1 p2 p3 p4
  have HB2 : Hid (Below w.heap.size w w2) := by
   have q := (uh k4).below (Nat.le_refl _) (uh HsU).1
   exact (uh HwU).trans (q.mono (uh HsU).2)
  have HFu := hide (full_any b b l' w2 (uh k1))
  have hLk : Lk l' (prN 16 j) := by have := uh k2; rwa [List.nil_append] at this
  by_cases hfl : 65536 < l'.length
  ·rw [decide_eq_true hfl] at HFu
   have hp9 : 65536 < (prN 16 j).length := by
    rcases hLk with e | e
    ·rw [← e]; exact hfl
    ·exact e.2
   have hpm : prM j = ([], 4) := by unfold prM; rw [if_neg (by rw [uh HE, uh HEE]; simp), if_pos hp9]
   have HO1 : Hid (OT = []) := by show _ = _; rw [uh HOT, hpm]
   have HO2 : Hid (OE = 4) := by show _ = _; rw [uh HOE, hpm]
   clear hLk hfl hp9 hpm
   go_wp2_with fail
   refine (uh HFu).mono ?_
   rintro e w9 ⟨rfl, hw9⟩
   subst hw9
   clear HFu
   go_wp2_with fail
   go_ret2
   rw [uh HO1, uh HO2]
   exact ⟨rfl, HB2⟩
  ·rw [decide_eq_false hfl] at HFu
   have hle : l' = prN 16 j := by
    rcases hLk with e | e
    ·exact e
    ·exact absurd e.1 hfl
   have hpm : prM j = (l', 0) := by unfold prM; rw [if_neg (by rw [uh HE, uh HEE]; simp), ← hle, if_neg hfl]
   have HO1 : Hid (OT = l') := by show _ = _; rw [uh HOT, hpm]
   have HO2 : Hid (OE = 0) := by show _ = _; rw [uh HOE, hpm]
   obtain ⟨_, a9, c9, hC9, hO9⟩ := uh k1
   have q0 := hC9.cell 0
   simp only [List.getElem?_cons_zero] at q0
   have kS := run_str w2 a9 _ c9 l' hO9.toBs.row rfl
   clear hLk hfl hle hpm hC9 hO9
   go_wp2_with fail
   refine (uh HFu).mono ?_
   rintro e w9 ⟨rfl, hw9⟩
   subst hw9
   clear HFu
   go_wp2_with fail
   go_ret2
   rw [uh HO1, uh HO2]
   exact ⟨rfl, HB2⟩
 ·have hEb : (((E : Nat) : Int) != 0) = true := by simp; omega
  have hpm : prM j = ([], E) := by unfold prM; rw [uh HE, if_pos hE0]
  have HO1 : Hid (OT = []) := by show _ = _; rw [uh HOT, hpm]
  have HO2 : Hid (OE = E) := by show _ = _; rw [uh HOE, hpm]
  clear hE0 hpm
  go_wp2_with fail
  go_ret2
  rw [uh HO1, uh HO2]
  exact ⟨rfl, HB1⟩
end Go.Proofs.YtmpjeahibfdehaaGreatDoor
end
section
set_option linter.unusedVariables false
set_option maxRecDepth 1000000
namespace Go.Proofs.YtmpjeahibfdehaaGreatDoor
open Go.RowKit

/-- What the statements of jsonx know of the world. -/
structure Env4 (w : World) : Prop where
 tb : Tb4 w
 et : Et4 w
 pt : P10 w
theorem Env4.below {w w' : World} (h : Env4 w) (hb : Below w.heap.size w w') : Env4 w' := ⟨h.tb.below hb, h.et.below hb, h.pt.below hb⟩
end Go.Proofs.YtmpjeahibfdehaaGreatDoor
end
section
set_option linter.unusedVariables false
namespace Go.Proofs.YtmpjeahibfdehaaGreatDoor
open Go.RowKit

def kd : Js → Int
 | .mk k _ _ _ _ => k
end Go.Proofs.YtmpjeahibfdehaaGreatDoor
end
section
set_option linter.unusedVariables false
namespace Go.Proofs.YtmpjeahibfdehaaGreatDoor
open Go.RowKit

theorem d10 {k : Nat} (h : k < 10) : dgB4 (UInt8.ofNat (48 + k)) = true ∧ (UInt8.ofNat (48 + k)).toNat = 48 + k := by
 have e : (UInt8.ofNat (48 + k)).toNat = 48 + k := by simp; omega
 refine ⟨?_, e⟩
 unfold dgB4
 rw [e]
 simp
 omega
/-! ### Texts -/
end Go.Proofs.YtmpjeahibfdehaaGreatDoor
end
section
set_option linter.unusedVariables false
namespace Go.Proofs.YtmpjeahibfdehaaGreatDoor
open Go.RowKit

def srF (S : Js → Js) : Js → Js
 | .mk k n t ns is => if k = 5 then .mk k n t ((ordS ns).map (nmA ns)) ((ordS ns).map fun i => S (is.getD i Js.nul)) else .mk k n t ns (is.map S)
def srN : Nat → Js → Js
 | 0, j => j
 | n + 1, j => srF (srN n) j
theorem prF_eq (P : Js → List UInt8) (k n : Int) (t : List UInt8) (ns : List (List UInt8)) (is : List Js) : prF P (.mk k n t ns is) =
  if k = 0 then [110, 117, 108, 108]
  else if k = 1 then (if n = 1 then [116, 114, 117, 101] else [102, 97, 108, 115, 101])
  else if k = 2 then Lib.itoa n
  else if k = 3 then quo t
  else if k = 4 then [91] ++ joF true (is.map P) ++ [93]
  else if k = 5 then [123] ++ joF true ((ordS ns).map (memP P ns is)) ++ [125]
  else [] := rfl
theorem pr4 (P : Js → List UInt8) (n : Int) (t : List UInt8) (ns : List (List UInt8)) (is : List Js) : prF P (.mk 4 n t ns is) = [91] ++ joF true (is.map P) ++ [93] := by
 rw [prF_eq, if_neg (by decide), if_neg (by decide), if_neg (by decide), if_neg (by decide), if_pos rfl]
theorem pr5 (P : Js → List UInt8) (n : Int) (t : List UInt8) (ns : List (List UInt8)) (is : List Js) : prF P (.mk 5 n t ns is) = [123] ++ joF true ((ordS ns).map (memP P ns is)) ++ [125] := by
 rw [prF_eq, if_neg (by decide), if_neg (by decide), if_neg (by decide), if_neg (by decide), if_neg (by decide), if_pos rfl]
theorem wf_flat {k n : Int} {t : List UInt8} {ns : List (List UInt8)} {is : List Js} (h : wfB (.mk k n t ns is) = true) (hk : k < 4) : ns = [] ∧ is = [] ∧ ((k = 0 ∧ n = 0 ∧ t = []) ∨ (k = 1 ∧ (n = 0 ∨ n = 1) ∧ t = []) ∨ (k = 2 ∧ t = []) ∨ (k = 3 ∧ n = 0 ∧ chr t = none)) := by
 obtain ⟨hkk, _⟩ := wf_kind h
 rw [wfB] at h
 rcases hkk with rfl | rfl | rfl | rfl | rfl | rfl
 ·simp at h; exact ⟨h.1.2, h.2, .inl ⟨rfl, h.1.1.1, h.1.1.2⟩⟩
 ·simp at h; exact ⟨h.1.2, h.2, .inr (.inl ⟨rfl, h.1.1.1, h.1.1.2⟩)⟩
 ·simp at h; exact ⟨h.1.2, h.2, .inr (.inr (.inl ⟨rfl, h.1.1⟩))⟩
 ·simp at h; exact ⟨h.1.2, h.2, .inr (.inr (.inr ⟨rfl, h.1.1.1, h.1.1.2⟩))⟩
 ·omega
 ·omega
theorem wf5 {k n : Int} {t : List UInt8} {ns : List (List UInt8)} {is : List Js} (h : wfB (.mk k n t ns is) = true) (hk : k = 5) : n = 0 ∧ t = [] ∧ ns.length = is.length ∧ ∀ s ∈ ns, chr s = none := by
 subst hk
 rw [wfB] at h
 simp at h
 exact ⟨h.1.1.1, h.1.1.2, h.1.2, h.2⟩
end Go.Proofs.YtmpjeahibfdehaaGreatDoor
end
section
set_option linter.unusedVariables false
namespace Go.Proofs.YtmpjeahibfdehaaGreatDoor
open Go.RowKit

def eqA (A : Js → Js → Bool) : List Js → List Js → Bool
 | x :: r, y :: s => A x y && eqA A r s
 | _, _ => true
def smA (A : Js → Js → Bool) (ns ms : List (List UInt8)) (is js : List Js) : List Nat → List Nat → Bool
 | i :: o, j :: p => (decide (nmA ns i = nmA ms j) && A (is.getD i Js.nul) (js.getD j Js.nul)) && smA A ns ms is js o p
 | _, _ => true
def alF (A : Js → Js → Bool) : Js → Js → Bool
 | .mk k n t ns is, .mk k' n' t' ns' is' => (decide (k = k') && decide (n = n') && decide (t = t') && decide (is.length = is'.length)) && (if k = 5 then smA A ns ns' is is' (ordS ns) (ordS ns') else eqA A is is')
theorem alF_eq (A : Js → Js → Bool) (k n : Int) (t : List UInt8) (ns : List (List UInt8)) (is : List Js) (k' n' : Int) (t' : List UInt8) (ns' : List (List UInt8)) (is' : List Js) : alF A (.mk k n t ns is) (.mk k' n' t' ns' is') = ((decide (k = k') && decide (n = n') && decide (t = t') && decide (is.length = is'.length)) && (if k = 5 then smA A ns ns' is is' (ordS ns) (ordS ns') else eqA A is is')) := rfl
def alN : Nat → Js → Js → Bool
 | 0 => alF (fun _ _ => true)
 | n + 1 => alF (alN n)
/-- Same. -/
def saM (a b : Js) : Bool := decide (ck 16 a = 0) && (decide (ck 16 b = 0) && alN 16 a b)
end Go.Proofs.YtmpjeahibfdehaaGreatDoor
end
section
set_option linter.unusedVariables false
set_option maxRecDepth 1000000
namespace Go.Proofs.YtmpjeahibfdehaaGreatDoor
open Go.RowKit

end Go.Proofs.YtmpjeahibfdehaaGreatDoor
end
section
set_option linter.unusedVariables false
set_option maxRecDepth 1000000
namespace Go.Proofs.YtmpjeahibfdehaaGreatDoor
open Go.RowKit Go.Extern.Stop Go.Stop Go.Extern

/-- Two values are held against each other. -/
def AlP (C : Js → Js → Bool) (x y : Js) : Prop := ∀ (S : Nat → Prop) (v v' : Value) (w : World), JV w S v x → JV w S v' y → (∀ k, S k → k < w.heap.size) → Calls Tryz.prog 35 #[v, v'] w fun e w' => e = .returned (.bool (C x y)) ∧ Hid (Below w.heap.size w w')
set_option maxHeartbeats 8000000 in
theorem eqf_any (C : Js → Js → Bool) (is js : List Js) (hlen : is.length = js.length) (a b : Option Addr) (c d : Nat) (S : Nat → Prop) (w : World) (hI : JVs w S a 0 is) (hJ : JVs w S b 0 js) (hS : ∀ k, S k → k < w.heap.size) (hm : is.length ≤ 100000) (hC : ∀ x ∈ is, ∀ y ∈ js, AlP C x y) :
  Calls Tryz.prog 82 #[.slice a is.length c, .slice b js.length d, .func (.func 35) #[] #[]] w fun e w' => e = .returned (.bool (eqA C is js)) ∧ Hid (Below w.heap.size w w') := by
 rw [← hlen]
 obtain ⟨m, hm'⟩ : ∃ m, m = is.length := ⟨_, rfl⟩
 obtain ⟨R, hR⟩ : ∃ R, R = eqA C is js := ⟨_, rfl⟩
 rw [← hm', ← hR]
 have HR : Hid (R = eqA C (is.drop 0) (js.drop 0)) := by show _ = _; rw [hR, List.drop_zero, List.drop_zero]
 have HM : Hid (is.length = m ∧ js.length = m) := ⟨hm'.symm, by omega⟩
 have HI := hide hI
 have HJ := hide hJ
 have HS := hide hS
 have HC := hide hC
 have hm9 : m ≤ 100000 := by omega
 clear hI hJ hS hC hlen hm' hR hm
 go_enter Tryz.func82, Tryz.ntmps82
 go_wp2_with fail
 go_loopw [17] (fun v wr => ∃ i : Nat, i ≤ m ∧ v = .int .i64 (i : Int) ∧ Hid (R = eqA C (is.drop i) (js.drop i)) ∧ Hid (Below w.heap.size w wr)) (fun v _ => m - (intOf v).toNat)
 case atStart => exact ⟨0, Nat.zero_le _, rfl, HR, hide (Below.refl _ _)⟩
 case round =>
  obtain ⟨i, hi, rfl, HQ, HB⟩ := hrel
  by_cases hlt : i < m
  ·have hlt' : (i : Int) < (m : Int) := by omega
   obtain ⟨x, hx⟩ : ∃ x, is[i]? = some x := ⟨_, List.getElem?_eq_getElem (by rw [(uh HM).1]; exact hlt)⟩
   obtain ⟨y, hy⟩ : ∃ y, js[i]? = some y := ⟨_, List.getElem?_eq_getElem (by rw [(uh HM).2]; exact hlt)⟩
   have ex := ((jvs_iff w S a is 0).1 (uh HI) i x hx).keep (S' := S) (w' := wr) (fun k hk => ⟨hk, (uh HB).block k (uh HS k hk)⟩)
   have ey := ((jvs_iff w S b js 0).1 (uh HJ) i y hy).keep (S' := S) (w' := wr) (fun k hk => ⟨hk, (uh HB).block k (uh HS k hk)⟩)
   rw [Nat.zero_add] at ex ey
   obtain ⟨B, off, v0, v1, v2, v3, v4, rfl, hSb, g0, g1, g2, g3, g4, hj⟩ := ex
   obtain ⟨D, od, x0, x1, x2, x3, x4, rfl, hSd, f0, f1, f2, f3, f4, hj'⟩ := ey
   obtain ⟨jk, jn, jt, ja1, jn1, jc1, ja2, jn2, jc2, e⟩ := hj.form
   simp only [Value.agg.injEq, Array.mk.injEq, List.cons.injEq, and_true] at e
   obtain ⟨rfl, rfl, rfl, rfl, rfl⟩ := e
   obtain ⟨ik, inn, it, ia1, in1, ic1, ia2, in2, ic2, e⟩ := hj'.form
   simp only [Value.agg.injEq, Array.mk.injEq, List.cons.injEq, and_true] at e
   obtain ⟨rfl, rfl, rfl, rfl, rfl⟩ := e
   have HXM : Hid (x ∈ is ∧ y ∈ js) := ⟨List.mem_of_getElem? hx, List.mem_of_getElem? hy⟩
   have HQ2 : Hid (R = (C x y && eqA C (is.drop (i + 1)) (js.drop (i + 1)))) := by
    show _ = _
    have e1 : is.drop i = x :: is.drop (i + 1) := by
     have hl2 := (List.getElem?_eq_some_iff.1 hx).1
     rw [List.drop_eq_getElem_cons hl2]; congr 1; exact (List.getElem?_eq_some_iff.1 hx).2
    have e2 : js.drop i = y :: js.drop (i + 1) := by
     have hl2 := (List.getElem?_eq_some_iff.1 hy).1
     rw [List.drop_eq_getElem_cons hl2]; congr 1; exact (List.getElem?_eq_some_iff.1 hy).2
    rw [uh HQ, e1, e2]
    rfl
   obtain ⟨U, hU⟩ : ∃ U, U = (wr.alloc (.cells #[.int .i64 jk, .int .i64 jn, .string (str jt), .slice ja1 jn1 jc1, .slice ja2 jn2 jc2] 44)).alloc (.cells #[.int .i64 ik, .int .i64 inn, .string (str it), .slice ia1 in1 ic1, .slice ia2 in2 ic2] 44) := ⟨_, rfl⟩
   obtain ⟨V, hV⟩ : ∃ V, V = wr.heap.size := ⟨_, rfl⟩
   obtain ⟨X, hX⟩ : ∃ X, X = wr.heap.size + 1 := ⟨_, rfl⟩
   have bU : Below wr.heap.size wr U := by rw [hU]; exact below2 wr _ _
   have hbU := (uh HB).trans (bU.mono (uh HB).size)
   have rV : U.heap[V]? = some (.cells #[.int .i64 jk, .int .i64 jn, .string (str jt), .slice ja1 jn1 jc1, .slice ja2 jn2 jc2] 44 (0, 0)) := by rw [hU, hV, heap_alloc_old _ _ (by simp)]; exact heap_alloc_new _ _
   have rX : U.heap[X]? = some (.cells #[.int .i64 ik, .int .i64 inn, .string (str it), .slice ia1 in1 ic1, .slice ia2 in2 ic2] 44 (0, 0)) := by rw [hU, hX]; exact heap_alloc2_new _ _ _
   have HA := hide (uh HC x (uh HXM).1 y (uh HXM).2 S _ _ U (JV.keep (fun k hk => ⟨hk, bU.block k (Nat.lt_of_lt_of_le (uh HS k hk) (uh HB).size)⟩) _ _ hj) (JV.keep (fun k hk => ⟨hk, bU.block k (Nat.lt_of_lt_of_le (uh HS k hk) (uh HB).size)⟩) _ _ hj') (fun k hk => Nat.lt_of_lt_of_le (uh HS k hk) hbU.size))
   have HBU := hide hbU
   generalize C x y = E at HA HQ2
   obtain ⟨p0, p1, p2, p3, p4⟩ := cells5 rV
   obtain ⟨q0, q1, q2, q3, q4⟩ := cells5 rX
   clear hx hy hSb hSd hj hj' bU hbU rV rX HQ
   obtain ⟨U1, hU1⟩ : ∃ U1, U1 = wr.alloc (.cells #[.int .i64 jk, .int .i64 jn, .string (str jt), .slice ja1 jn1 jc1, .slice ja2 jn2 jc2] 44) := ⟨_, rfl⟩
   have kk : ∀ (o : Nat) (z : Value), wr.cell? ⟨D, o, none⟩ = some z → U1.cell? ⟨D, o, none⟩ = some z := fun o z h => by
    rw [hU1]
    have hd := World.block_lt_of_cell? wr _ h
    rw [World.cell?_alloc_old]
    ·exact h
    ·exact Nat.ne_of_lt hd
   replace f0 := kk _ _ f0
   replace f1 := kk _ _ f1
   replace f2 := kk _ _ f2
   replace f3 := kk _ _ f3
   replace f4 := kk _ _ f4
   rw [← hU1] at hU
   have hX1 : X = U1.heap.size := by rw [hX, hU1]; simp
   clear kk hX
   go_upto_region 6 with fail
   rw [← hU1, ← hV]
   clear hU1 hV g0 g1 g2 g3 g4
   go_upto_region 7 with fail
   rw [← hU, ← hX1]
   clear hU hX1 f0 f1 f2 f3 f4
   go_wp2_with fail
   refine (uh HA).mono ?_
   rintro e w5 ⟨rfl, h5⟩
   have HB5 : Hid (Below w.heap.size w w5) := (uh HBU).trans ((uh h5).mono (uh HBU).size)
   clear HA h5 p0 p1 p2 p3 p4 q0 q1 q2 q3 q4
   cases E with
   | true =>
    have HQ3 : Hid (R = eqA C (is.drop (i + 1)) (js.drop (i + 1))) := by show _ = _; rw [uh HQ2, Bool.true_and]
    go_wp2_with fail
    go_roundw
    case rel => exact ⟨i + 1, by omega, by go_num, HQ3, HB5⟩
    case measure => simp [intOf]; omega
   | false =>
    have HQ3 : Hid (R = false) := by show _ = _; rw [uh HQ2, Bool.false_and]
    go_wp2_with fail
    go_ret
    rw [uh HQ3]
    exact ⟨rfl, HB5⟩
  ·have him : i = m := by omega
   subst him
   have hlt' : ¬ (i : Int) < (i : Int) := by omega
   have HQ3 : Hid (R = true) := by show _ = _; rw [uh HQ, List.drop_eq_nil_of_le (by rw [(uh HM).1]; omega)]; rfl
   go_wp2_with fail
   go_ret
   rw [uh HQ3]
   exact ⟨rfl, HB⟩
end Go.Proofs.YtmpjeahibfdehaaGreatDoor
end
section
set_option linter.unusedVariables false
set_option maxRecDepth 1000000
namespace Go.Proofs.YtmpjeahibfdehaaGreatDoor
open Go.RowKit

/-- slices.Clone of names. -/
theorem nclone_any (a : Option Addr) (cp : Nat) (l : List (List UInt8)) (S : Nat → Prop) (w : World) (hr : NsF w S a l) (ha : a = none → cp = 0) (hlc : l.length ≤ cp) (hl : l.length ≤ 1000000) :
  Calls Tryz.prog 135 #[.slice a l.length cp] w fun e w' => ∃ a' c', e = .returned (.slice a' l.length c') ∧ Hid (OwnT w' w.heap.size a' c' l) ∧ Hid (Below w.heap.size w w') := by
 have hq := fun (wx : World) (a : Option Addr) (n c : Nat) => Lib.run_eql_slice_nil (P := Tryz.prog) wx 41 9 a n c 0 0 Tryz.underlying41
 cases a with
 | none =>
  have hc0 := ha rfl
  have hl0 : l = [] := List.eq_nil_of_length_eq_zero (by omega)
  subst hl0
  subst hc0
  have HO : Hid (OwnT w w.heap.size none 0 []) := ⟨rfl, .inl ⟨rfl, rfl⟩⟩
  go_enter Tryz.func135, Tryz.ntmps135
  go_wp2
  go_ret
  exact ⟨none, 0, rfl, HO, Below.refl _ _⟩
 | some ad =>
  have HSR : Hid (∀ o j u, (nsv l)[j]? = some u → (w.alloc o).cell? (ad.add j) = some u) := fun o j u hu => by
   obtain ⟨b, off, hh, _, hc⟩ := hr (by intro e; subst e; simp [nsv] at hu)
   obtain rfl : ad = ⟨b, off, none⟩ := by simpa using hh
   rw [addr_add]
   obtain ⟨s, hs, rfl⟩ : ∃ s, l[j]? = some s ∧ u = .string (str s) := by
    simp only [nsv, List.getElem?_map] at hu
    cases hx : l[j]? with
    | none => rw [hx] at hu; cases hu
    | some s => rw [hx] at hu; simp at hu; exact ⟨s, rfl, hu.symm⟩
   exact Lib.cell?_alloc_some o (hc j s hs)
  obtain ⟨i, hi, hz0, hz1, hz2⟩ := info_parts Tryz.infoT4
  have hnl : (nsv l).length = l.length := by simp [nsv]
  have HEM : Hid ((w.alloc (.cells #[] 9)).ownsRow w.heap.size 9 1 (.slice (some ⟨w.heap.size, 0, none⟩) 0 0) 0 []) := World.ownsRow_made w #[] 0 (Nat.le_refl _) (by unfold maxLen; omega) rfl
  clear hr ha
  go_enter Tryz.func135, Tryz.ntmps135
  go_wp2_with (at_builtin; refine wpList_append_own _ rfl _ _ 41 rfl w.heap.size 9 i (.string ByteArray.empty) 1 16 Tryz.underlying41 hi hz0 hz1 hz2 rfl (by decide) _ _ _ rfl (uh HEM) ad l.length cp (nsv l) rfl (by rw [hnl]; omega) (uh HSR _) (nsv_one l) ?k1 ?k2 ?k3 ?_)
  case k1 => unfold maxLen; omega
  case k2 => omega
  case k3 => simp
  intro v2 w2 ho2 hg2 _
  have HB : Hid (Below w.heap.size w w2) := below_grown (a := some ⟨w.heap.size, 0, none⟩) (bA _) hg2 (Nat.le_refl _) (fun k hk => by simp [blk] at hk; omega)
  obtain ⟨a', c', rfl⟩ : ∃ a' c', v2 = .slice a' l.length c' := by
   rcases ho2.2 with ⟨hv, hn⟩ | ⟨g, cap, cur, hv, _⟩
   ·have : l.length = 0 := by omega
    exact ⟨none, 0, by rw [hv, this]⟩
   ·exact ⟨some ⟨g, 0, none⟩, cap, by rw [hv]⟩
  have HO : Hid (OwnT w2 w.heap.size a' c' l) := by show OwnT _ _ _ _ _; simpa [OwnT] using ho2
  clear ho2 hg2
  go_wp2
  go_ret
  exact ⟨a', c', rfl, HO, HB⟩
/-! ### A value in the midst of being copied -/
structure Bw (w : World) (V lo : Nat) (k n : Int) (t : List UInt8) (ns : List (List UInt8)) (is : List Js) (a1 : Option Addr) (c1 : Nat) (a2 : Option Addr) (c2 : Nat) (xs : List Value) : Prop where
 row : w.heap[V]? = some (.cells #[.int .i64 k, .int .i64 n, .string (str t), .slice a1 ns.length c1, .slice a2 is.length c2] 44 (0, 0))
 nm : OwnT w lo a1 c1 ns
 it : OwnJ w lo a2 c2 is.length xs
 el : ∀ m j, is[m]? = some j → ∃ v, At5 xs m v ∧ JV w (Fp lo w.heap.size V a1 a2) v j
 v1 : blk a1 ≠ some V
 v2 : blk a2 ≠ some V
 v3 : ∀ k, blk a1 = some k → blk a2 ≠ some k
theorem Bw.lt {w : World} {V lo : Nat} {k n : Int} {t : List UInt8} {ns : List (List UInt8)} {is : List Js} {a1 : Option Addr} {c1 : Nat} {a2 : Option Addr} {c2 : Nat} {xs : List Value} (h : Bw w V lo k n t ns is a1 c1 a2 c2 xs) : V < w.heap.size := (aI h.row).1
theorem Bw.cells {w : World} {V lo : Nat} {k n : Int} {t : List UInt8} {ns : List (List UInt8)} {is : List Js} {a1 : Option Addr} {c1 : Nat} {a2 : Option Addr} {c2 : Nat} {xs : List Value} (h : Bw w V lo k n t ns is a1 c1 a2 c2 xs) : w.cell? ⟨V, 3, none⟩ = some (.slice a1 ns.length c1) ∧ w.cell? ⟨V, 4, none⟩ = some (.slice a2 is.length c2) ∧ (∀ j, w.frozen? ⟨V, j, none⟩ = false) :=
 ⟨cR6 h.row, cR6 h.row, fun j => frozen_of_row _ _ _ _ _ h.row⟩
/-- All from lo on stays. -/
theorem Bw.keep {w w' : World} {V lo : Nat} {k n : Int} {t : List UInt8} {ns : List (List UInt8)} {is : List Js} {a1 : Option Addr} {c1 : Nat} {a2 : Option Addr} {c2 : Nat} {xs : List Value} (h : Bw w V lo k n t ns is a1 c1 a2 c2 xs) (e : ∀ k, lo ≤ k ∨ k = V → k < w.heap.size → w'.heap[k]? = w.heap[k]?) (hs : w.heap.size ≤ w'.heap.size) : Bw w' V lo k n t ns is a1 c1 a2 c2 xs :=
 { h with
  row := (e V (.inr rfl) h.lt).trans h.row
  nm := owns_same h.nm (fun k hk => e k (.inl (owns_lt h.nm k hk).1) (owns_lt h.nm k hk).2)
  it := owns_same h.it (fun k hk => e k (.inl (owns_lt h.it k hk).1) (owns_lt h.it k hk).2)
  el := fun m j hj => by
   obtain ⟨v, h1, h2⟩ := h.el m j hj
   exact ⟨v, h1, JV.keep (fun k hk => ⟨⟨hk.1, by have := hk.2.1; omega, hk.2.2⟩, e k (.inl hk.1) hk.2.1⟩) j v h2⟩ }
theorem Bw.below {w w' : World} {V lo : Nat} {k n : Int} {t : List UInt8} {ns : List (List UInt8)} {is : List Js} {a1 : Option Addr} {c1 : Nat} {a2 : Option Addr} {c2 : Nat} {xs : List Value} (h : Bw w V lo k n t ns is a1 c1 a2 c2 xs) (m : Below w.heap.size w w') : Bw w' V lo k n t ns is a1 c1 a2 c2 xs :=
 h.keep (fun k hk hl => m.block k hl) m.size
/-- One item more. -/
theorem Bw.push {u w2 w4 : World} {V lo old : Nat} {k n : Int} {t : List UInt8} {ns : List (List UInt8)} {is : List Js} {a1 : Option Addr} {c1 : Nat} {a2 : Option Addr} {c2 : Nat} {xs : List Value} (h : Bw u V lo k n t ns is a1 c1 a2 c2 xs) {v0 v1 v2 v3 v4 : Value} {j : Js} (hj : JV u (fun k => old ≤ k ∧ k < u.heap.size) (.agg #[v0, v1, v2, v3, v4]) j) (hold : lo ≤ old) (hV : V < old) (h1 : ∀ k, blk a1 = some k → k < old) (h2 : ∀ k, blk a2 = some k → k < old)
  {g cap : Nat} (hg : u.grownBy w2 (blk a2)) (hat : blk a2 = some g ∨ g = u.heap.size) (hgl : g < w2.heap.size)
  (hr : w4.heap[V]? = some (.cells #[.int .i64 k, .int .i64 n, .string (str t), .slice a1 ns.length c1, .slice (some ⟨g, 0, none⟩) (is.length + 1) cap] 44 (0, 0)))
  (ho : OwnJ w4 lo (some ⟨g, 0, none⟩) cap (is.length + 1) (xs ++ [v0, v1, v2, v3, v4])) (hk : ∀ k, k ≠ V → k ≠ g → w4.heap[k]? = w2.heap[k]?) (hs : w4.heap.size = w2.heap.size) :
  Bw w4 V lo k n t ns (is ++ [j]) a1 c1 (some ⟨g, 0, none⟩) cap (xs ++ [v0, v1, v2, v3, v4]) := by
 have hxl : xs.length = is.length * 5 := h.it.1
 have hbg : blk (some (⟨g, 0, none⟩ : Addr)) = some g := rfl
 have hgV : g ≠ V := by
  rintro rfl
  rcases hat with e | e
  ·exact h.v2 e
  ·have := h.lt; omega
 have hg1 : ∀ m, blk a1 = some m → m ≠ g := by
  rintro m hm rfl
  rcases hat with e | e
  ·exact h.v3 m hm e
  ·have := (owns_lt h.nm m hm).2; omega
 have blkU : ∀ m, m < u.heap.size → m ≠ V → m ≠ g → blk a2 ≠ some m → w4.heap[m]? = u.heap[m]? := fun m hm n1 n2 n3 => (hk m n1 n2).trans (hg.block m hm (fun e => n3 e.symm))
 refine ⟨by rw [List.length_append]; exact hr, owns_same h.nm (fun m hm => blkU m (owns_lt h.nm m hm).2 (fun e => h.v1 (by rw [hm, e])) (hg1 m hm) (h.v3 m hm)), ?_, ?_, h.v1, by rw [hbg]; exact fun e => hgV (Option.some.inj e), fun m hm e => hg1 m hm (Option.some.inj (hbg.symm.trans e)).symm⟩
 ·rw [List.length_append]; exact ho
 ·intro m x hx
  have sz : u.heap.size ≤ w4.heap.size := by rw [hs]; exact hg.size
  by_cases hm : m < is.length
  ·rw [List.getElem?_append_left hm] at hx
   obtain ⟨v, ⟨z0, z1, z2, z3, z4, e0, q0, q1, q2, q3, q4⟩, hv⟩ := h.el m x hx
   refine ⟨v, ⟨z0, z1, z2, z3, z4, e0, ?_, ?_, ?_, ?_, ?_⟩, JV.keep (fun b hb => ?_) x v hv⟩
   ·rw [List.getElem?_append_left (by omega)]; exact q0
   ·rw [List.getElem?_append_left (by omega)]; exact q1
   ·rw [List.getElem?_append_left (by omega)]; exact q2
   ·rw [List.getElem?_append_left (by omega)]; exact q3
   ·rw [List.getElem?_append_left (by omega)]; exact q4
   ·have hbn : b ≠ g := by
     rintro rfl
     rcases hat with e | e
     ·exact hb.2.2.2.2 e
     ·have := hb.2.1; omega
    exact ⟨⟨hb.1, by have := hb.2.1; omega, hb.2.2.1, hb.2.2.2.1, by rw [hbg]; exact fun e => hbn (Option.some.inj e).symm⟩, blkU b hb.2.1 hb.2.2.1 hbn hb.2.2.2.2⟩
  ·have hlt := (List.getElem?_eq_some_iff.1 hx).1
   simp at hlt
   obtain rfl : m = is.length := by omega
   simp at hx
   subst hx
   refine ⟨_, ⟨v0, v1, v2, v3, v4, rfl, ?_, ?_, ?_, ?_, ?_⟩, JV.keep (fun b hb => ?_) j _ hj⟩
   ·rw [List.getElem?_append_right (by omega), show is.length * 5 - xs.length = 0 by omega]; rfl
   ·rw [List.getElem?_append_right (by omega), show is.length * 5 + 1 - xs.length = 1 by omega]; rfl
   ·rw [List.getElem?_append_right (by omega), show is.length * 5 + 2 - xs.length = 2 by omega]; rfl
   ·rw [List.getElem?_append_right (by omega), show is.length * 5 + 3 - xs.length = 3 by omega]; rfl
   ·rw [List.getElem?_append_right (by omega), show is.length * 5 + 4 - xs.length = 4 by omega]; rfl
   ·have n2 : blk a2 ≠ some b := fun e => by have := h2 b e; omega
    have n1 : blk a1 ≠ some b := fun e => by have := h1 b e; omega
    have hbn : b ≠ g := by
     rintro rfl
     rcases hat with e | e
     ·exact n2 e
     ·omega
    exact ⟨⟨by omega, by omega, by omega, n1, by rw [hbg]; exact fun e => hbn (Option.some.inj e).symm⟩, blkU b hb.2 (by omega) hbn n2⟩
/-- Blocks of what lies in a value, none of them its own two rows. -/
def Fq (lo hi : Nat) (a1 a2 : Option Addr) (k : Nat) : Prop := lo ≤ k ∧ k < hi ∧ blk a1 ≠ some k ∧ blk a2 ≠ some k
/-- A copy: its rows its own. -/
def CpJ (lo : Nat) (w : World) (v : Value) : Js → Prop
 | .mk k n t ns is => ∃ a1 c1 a2 c2 xs, v = .agg #[.int .i64 k, .int .i64 n, .string (str t), .slice a1 ns.length c1, .slice a2 is.length c2] ∧ OwnT w lo a1 c1 ns ∧ OwnJ w lo a2 c2 is.length xs ∧ (∀ m j, is[m]? = some j → ∃ v, At5 xs m v ∧ JV w (Fq lo w.heap.size a1 a2) v j) ∧ (∀ k, blk a1 = some k → blk a2 ≠ some k)
theorem CpJ.jv {lo : Nat} {w : World} {v : Value} {j : Js} (h : CpJ lo w v j) {S : Nat → Prop} (hS : ∀ k, lo ≤ k → k < w.heap.size → S k) : JV w S v j := by
 cases j with
 | mk k n t ns is =>
 obtain ⟨a1, c1, a2, c2, xs, rfl, hT, hJ, hel, _⟩ := h
 simp only [JV]
 obtain ⟨t1, t2, t3⟩ := owns_cap hT
 obtain ⟨j1, j2, j3⟩ := owns_cap hJ
 refine ⟨a1, c1, a2, c2, rfl, hT.nsf (fun k hk => hS k (owns_lt hT k hk).1 (owns_lt hT k hk).2), t1, t2, t3, j1, j2, j3, (jvs_iff _ _ _ _ _).2 (fun m j hj => ?_)⟩
 obtain ⟨v, ⟨v0, v1, v2, v3, v4, rfl, q0, q1, q2, q3, q4⟩, hv⟩ := hel m j hj
 have hm := (List.getElem?_eq_some_iff.1 hj).1
 rcases owns_cases hJ with ⟨_, _, h3, _⟩ | ⟨g, cur, rfl, hb, hg, _⟩
 ·omega
 ·refine ⟨g, 0, v0, v1, v2, v3, v4, rfl, hS g hb (aI hg).1, ?_, ?_, ?_, ?_, ?_, JV.keep (fun k hk => ⟨hS k hk.1 hk.2.1, rfl⟩) _ _ hv⟩
  ·rw [Nat.zero_add, Nat.zero_add]; exact (owns_cell hJ _ _ q0).1
  ·rw [Nat.zero_add, Nat.zero_add]; exact (owns_cell hJ _ _ q1).1
  ·rw [Nat.zero_add, Nat.zero_add]; exact (owns_cell hJ _ _ q2).1
  ·rw [Nat.zero_add, Nat.zero_add]; exact (owns_cell hJ _ _ q3).1
  ·rw [Nat.zero_add, Nat.zero_add]; exact (owns_cell hJ _ _ q4).1
theorem Bw.cp {w : World} {V lo : Nat} {k n : Int} {t : List UInt8} {ns : List (List UInt8)} {is : List Js} {a1 : Option Addr} {c1 : Nat} {a2 : Option Addr} {c2 : Nat} {xs : List Value} (h : Bw w V lo k n t ns is a1 c1 a2 c2 xs) : CpJ lo w (.agg #[.int .i64 k, .int .i64 n, .string (str t), .slice a1 ns.length c1, .slice a2 is.length c2]) (.mk k n t ns is) :=
 ⟨a1, c1, a2, c2, xs, rfl, h.nm, h.it, fun m j hj => by
  obtain ⟨v, h1, h2⟩ := h.el m j hj
  exact ⟨v, h1, JV.keep (fun k hk => ⟨⟨hk.1, hk.2.1, hk.2.2.2.1, hk.2.2.2.2⟩, rfl⟩) _ _ h2⟩, h.v3⟩
end Go.Proofs.YtmpjeahibfdehaaGreatDoor
end
section
set_option linter.unusedVariables false
set_option maxRecDepth 1000000
namespace Go.Proofs.YtmpjeahibfdehaaGreatDoor
open Go.RowKit Go.Extern.Stop Go.Stop Go.Extern

set_option maxHeartbeats 8000000 in
theorem sm_any (C : Js → Js → Bool) (k n : Int) (t : List UInt8) (ns : List (List UInt8)) (is : List Js) (k' n' : Int) (t' : List UInt8) (ms : List (List UInt8)) (js : List Js) (S : Nat → Prop) (v v' : Value) (w : World)
  (hJ : JV w S v (.mk k n t ns is)) (hJ' : JV w S v' (.mk k' n' t' ms js)) (hS : ∀ k, S k → k < w.heap.size) (hd : ns.Nodup) (hd' : ms.Nodup) (hl1 : ns.length = is.length) (hl2 : ms.length = is.length) (hl3 : js.length = is.length) (hm : is.length ≤ 100000) (hC : ∀ x ∈ is, ∀ y ∈ js, AlP C x y) :
  Calls Tryz.prog 81 #[v, v'] w fun e w' => e = .returned (.bool (smA C ns ms is js (ordS ns) (ordS ms))) ∧ Hid (Below w.heap.size w w') := by
 simp only [JV] at hJ hJ'
 obtain ⟨a1, c1, a2, c2, rfl, hN, hnc, hnm, _, hic, him, _, hIt⟩ := hJ
 obtain ⟨b1, d1, b2, d2, rfl, hN', hnc', _, _, hic', _, _, hIt'⟩ := hJ'
 obtain ⟨m, hm'⟩ : ∃ m, m = is.length := ⟨_, rfl⟩
 rw [hl1, hl2, hl3, ← hm']
 rw [hl1] at hnc
 rw [hl2] at hnc'
 rw [hl3] at hic'
 rw [← hm'] at hnc hnc' hic hic' hm
 obtain ⟨V, hV⟩ : ∃ V, V = w.heap.size := ⟨_, rfl⟩
 obtain ⟨X, hX⟩ : ∃ X, X = w.heap.size + 1 := ⟨_, rfl⟩
 obtain ⟨W, hW⟩ : ∃ W, W = (w.alloc (.cells #[.int .i64 k, .int .i64 n, .string (str t), .slice a1 m c1, .slice a2 m c2] 44)).alloc (.cells #[.int .i64 k', .int .i64 n', .string (str t'), .slice b1 m d1, .slice b2 m d2] 44) := ⟨_, rfl⟩
 have bW : Below w.heap.size w W := by rw [hW]; exact below2 w _ _
 have rV : W.heap[V]? = some (.cells #[.int .i64 k, .int .i64 n, .string (str t), .slice a1 m c1, .slice a2 m c2] 44 (0, 0)) := by rw [hW, hV, heap_alloc_old _ _ (by simp)]; exact heap_alloc_new _ _
 have rX : W.heap[X]? = some (.cells #[.int .i64 k', .int .i64 n', .string (str t'), .slice b1 m d1, .slice b2 m d2] 44 (0, 0)) := by rw [hW, hX]; exact heap_alloc2_new _ _ _
 have HKV : Hid (∀ u, Below W.heap.size W u → u.heap[V]? = some (.cells #[.int .i64 k, .int .i64 n, .string (str t), .slice a1 m c1, .slice a2 m c2] 44 (0, 0))) := fun u hb => (hb.block V (aI rV).1).trans rV
 have HKX : Hid (∀ u, Below W.heap.size W u → u.heap[X]? = some (.cells #[.int .i64 k', .int .i64 n', .string (str t'), .slice b1 m d1, .slice b2 m d2] 44 (0, 0))) := fun u hb => (hb.block X (aI rX).1).trans rX
 have HBw : Hid (∀ u, Below W.heap.size W u → Below w.heap.size w u) := fun u hb => bW.trans (hb.mono bW.size)
 have HSK : Hid (∀ u, Below W.heap.size W u → ∀ k, S k → S k ∧ u.heap[k]? = w.heap[k]?) := fun u hb k hk => ⟨hk, (uh HBw u hb).block k (hS k hk)⟩
 have HRa : Hid (∀ u, Below W.heap.size W u → Calls Tryz.prog 115 #[.slice a1 m c1] u fun e w' => Below u.heap.size u w' ∧ ∃ ao o, e = .returned (.slice ao m m) ∧ RisO ns o ∧ OrR w' u.heap.size ao o) := fun u hb => by
  have hr := rising_any a1 c1 ns S u (hN.keep (uh HSK u hb)) (by omega)
  have e : ns.length = m := by omega
  rw [e] at hr
  refine hr.mono ?_
  rintro _ w' ⟨h1, ao, o, rfl, h3, h4⟩
  rw [e]
  exact ⟨h1, ao, o, rfl, h3, h4⟩
 have HRb : Hid (∀ u, Below W.heap.size W u → Calls Tryz.prog 115 #[.slice b1 m d1] u fun e w' => Below u.heap.size u w' ∧ ∃ ao o, e = .returned (.slice ao m m) ∧ RisO ms o ∧ OrR w' u.heap.size ao o) := fun u hb => by
  have hr := rising_any b1 d1 ms S u (hN'.keep (uh HSK u hb)) (by omega)
  have e : ms.length = m := by omega
  rw [e] at hr
  refine hr.mono ?_
  rintro _ w' ⟨h1, ao, o, rfl, h3, h4⟩
  rw [e]
  exact ⟨h1, ao, o, rfl, h3, h4⟩
 have HN := hide hN
 have HN' := hide hN'
 have HI := hide hIt
 have HI' := hide hIt'
 have HS := hide hS
 have HC := hide hC
 have HD := hide hd
 have HD' := hide hd'
 have HL : Hid (ns.length = m ∧ ms.length = m ∧ is.length = m ∧ js.length = m) := ⟨by omega, by omega, by omega, by omega⟩
 have HWW := hide bW
 obtain ⟨R, hR⟩ : ∃ R, R = smA C ns ms is js (ordS ns) (ordS ms) := ⟨_, rfl⟩
 rw [← hR]
 have HR := hide hR
 obtain ⟨p0, p1, p2, p3, p4⟩ := cells5 rV
 obtain ⟨q0, q1, q2, q3, q4⟩ := cells5 rX
 have HRa1 := hide (uh HRa W.drew (Below.refl _ _).drew)
 have hmB : m ≤ 100000 := hm
 clear hN hN' hIt hIt' hS hC hd hd' hl1 hl2 hl3 hm' bW rV rX hR hnm him hm HRa
 go_enter Tryz.func81, Tryz.ntmps81
 go_upto_region 1 with fail
 rw [← hW, ← hX, ← hV]
 clear hW hV hX
 go_region_held3 (fun w' => w'.cell? ⟨V, 3, none⟩ = some (.slice a1 m c1) ∧ w'.cell? ⟨X, 3, none⟩ = some (.slice b1 m d1)) (first | exact ⟨p3, q3⟩ | exact S6 | exact S5 | assumption | go_keep) ((first | (go_at_call 115; have hh := HB5; clear hh; refine (uh HRb w5 (uh HB5)).mono ?_; rintro e w6 ⟨hb6, ao', o', rfl, hO6, hR6⟩; have HB6 : Hid (Below W.heap.size W w6) := (uh HB5).trans (hb6.mono (uh HB5).size); have S6 := (And.intro ((cells5 (uh HKV w6 (uh HB6))).2.2.2.1) ((cells5 (uh HKX w6 (uh HB6))).2.2.2.1))) | (go_at_call 115; refine (uh HRa1).mono ?_; rintro e w5 ⟨hb5, ao, o, rfl, hO5, hR5⟩; have HB5 : Hid (Below W.heap.size W w5) := ((Below.refl _ _).drew : Below W.heap.size W W.drew).trans hb5; have S5 := (And.intro ((cells5 (uh HKV w5 (uh HB5))).2.2.2.1) ((cells5 (uh HKX w5 (uh HB5))).2.2.2.1)))))
 have eo : o = ordS ns := hO5.eq (uh HD) (ordS_ris ns)
 have eo' : o' = ordS ms := hO6.eq (uh HD') (ordS_ris ms)
 have HRR : Hid (R = smA C ns ms is js (o.drop 0) (o'.drop 0)) := by show _ = _; rw [uh HR, List.drop_zero, List.drop_zero, eo, eo']
 have hol : o.length = m := by rw [hO5.len, (uh HL).1]
 have hol' : o'.length = m := by rw [hO6.len, (uh HL).2.1]
 have HLt : Hid (∀ i ∈ o, i < m) := fun i hi => by have := hO5.lt i hi; have := (uh HL).1; omega
 have HLt' : Hid (∀ i ∈ o', i < m) := fun i hi => by have := hO6.lt i hi; have := (uh HL).2.1; omega
 have HOR : Hid (∀ u, Below w6.heap.size w6 u → OrR u W.heap.size ao o ∧ OrR u W.heap.size ao' o') := fun u hb => by
  have e1 : W.drew.heap.size = W.heap.size := rfl
  have h1 := (hR5.below hb6).below hb
  have h2 := hR6.below hb
  have low : ∀ {lo lo' : Nat} {a : Option Addr} {l : List Nat}, OrR u lo a l → lo' ≤ lo → OrR u lo' a l := by
   intro lo lo' a l h hle hne
   obtain ⟨G, cur, g1, g2, g3, g4⟩ := h hne
   exact ⟨G, cur, g1, by omega, g3, g4⟩
  exact ⟨low h1 (by rw [e1]; exact Nat.le_refl _), low h2 (uh HB5).size⟩
 have HO := hide hol
 have HO' := hide hol'
 clear hO5 hR5 hO6 hR6 eo eo' hol hol' hb5 hb6 HR p0 p1 p2 p3 p4 q0 q1 q2 q3 q4 HRa1 HRb S5 S6
 go_wp2_with fail
 go_loopw [18] (fun v wr => ∃ i : Nat, i ≤ m ∧ v = .int .i64 (i : Int) ∧ Hid (R = smA C ns ms is js (o.drop i) (o'.drop i)) ∧ Hid (Below w6.heap.size w6 wr)) (fun v _ => m - (intOf v).toNat)
 case atStart => exact ⟨0, Nat.zero_le _, rfl, HRR, hide (Below.refl _ _)⟩
 case round =>
  obtain ⟨i, hi, rfl, HQ, HB⟩ := hrel
  have HBW : Hid (Below W.heap.size W wr) := (uh HB6).trans ((uh HB).mono (uh HB6).size)
  by_cases hlt : i < m
  ·have hlt' : (i : Int) < (m : Int) := by omega
   obtain ⟨p, hp⟩ : ∃ p, o[i]? = some p := ⟨_, List.getElem?_eq_getElem (by rw [uh HO]; exact hlt)⟩
   obtain ⟨q, hq⟩ : ∃ q, o'[i]? = some q := ⟨_, List.getElem?_eq_getElem (by rw [uh HO']; exact hlt)⟩
   have hpm := uh HLt p (List.mem_of_getElem? hp)
   have hqm := uh HLt' q (List.mem_of_getElem? hq)
   have hpi : (p : Int) < (m : Int) := by omega
   have hqi : (q : Int) < (m : Int) := by omega
   have hone : o ≠ [] := fun e => by rw [e] at hp; simp at hp
   have hone' : o' ≠ [] := fun e => by rw [e] at hq; simp at hq
   obtain ⟨G, cur, rfl, hGl, hGr, hGc⟩ := (uh HOR wr (uh HB)).1 hone
   obtain ⟨G', cur', rfl, hGl', hGr', hGc'⟩ := (uh HOR wr (uh HB)).2 hone'
   have g1 := hGc i p hp
   have g2 := hGc' i q hq
   have HQ2 : Hid (R = ((decide (nmA ns p = nmA ms q) && C (is.getD p Js.nul) (js.getD q Js.nul)) && smA C ns ms is js (o.drop (i + 1)) (o'.drop (i + 1)))) := by
    show _ = _
    have e1 : o.drop i = p :: o.drop (i + 1) := by
     have hl2 := (List.getElem?_eq_some_iff.1 hp).1
     rw [List.drop_eq_getElem_cons hl2]; congr 1; exact (List.getElem?_eq_some_iff.1 hp).2
    have e2 : o'.drop i = q :: o'.drop (i + 1) := by
     have hl2 := (List.getElem?_eq_some_iff.1 hq).1
     rw [List.drop_eq_getElem_cons hl2]; congr 1; exact (List.getElem?_eq_some_iff.1 hq).2
    rw [uh HQ, e1, e2]
    rfl
   clear hp hq hone hone' hGr hGr' hGc hGc' HQ hGl hGl'
   go_wp2_with fail
   go_quiet (fail)
   go_upto_region 6 with fail
   have HBy : Hid (Below w6.heap.size w6 (wr.drewN nq)) := bdr4 (uh HB) nq
   generalize hy : wr.drewN nq = y at HBy ⊢
   have HByW : Hid (Below W.heap.size W y) := (uh HB6).trans ((uh HBy).mono (uh HB6).size)
   have HFy := hide (uh HBw y (uh HByW))
   clear hy HB HBW g1 g2
   obtain ⟨p0, p1, p2, p3, p4⟩ := cells5 (uh HKV y (uh HByW))
   obtain ⟨q0, q1, q2, q3, q4⟩ := cells5 (uh HKX y (uh HByW))
   have hpn : p < ns.length := by rw [(uh HL).1]; exact hpm
   have hqn : q < ms.length := by rw [(uh HL).2.1]; exact hqm
   obtain ⟨B, ob, rfl, hSB, hBc⟩ := ((uh HN).keep (uh HSK y (uh HByW))) (by intro e; rw [e] at hpn; simp at hpn)
   obtain ⟨D, od, rfl, hSD, hDc⟩ := ((uh HN').keep (uh HSK y (uh HByW))) (by intro e; rw [e] at hqn; simp at hqn)
   have z1 := hBc p (nmA ns p) (by rw [nmA_get hpn, List.getElem?_eq_getElem])
   have z2 := hDc q (nmA ms q) (by rw [nmA_get hqn, List.getElem?_eq_getElem])
   by_cases hnm : nmA ns p = nmA ms q
   ·rw [hnm] at HQ2 z1
    rw [decide_eq_true rfl, Bool.true_and] at HQ2
    generalize nmA ms q = nm at z1 z2
    have e1 : ((str nm).toList != (str nm).toList) = false := by simp
    have hpi2 : p < is.length := by rw [(uh HL).2.2.1]; exact hpm
    have hqi2 : q < js.length := by rw [(uh HL).2.2.2]; exact hqm
    have ex := ((jvs_iff w S a2 is 0).1 (uh HI) p _ (List.getElem?_eq_getElem hpi2)).keep (S' := S) (w' := y) (uh HSK y (uh HByW))
    have ey := ((jvs_iff w S b2 js 0).1 (uh HI') q _ (List.getElem?_eq_getElem hqi2)).keep (S' := S) (w' := y) (uh HSK y (uh HByW))
    have gp : is.getD p Js.nul = is[p] := by rw [List.getD_eq_getElem?_getD, List.getElem?_eq_getElem hpi2]; rfl
    have gq : js.getD q Js.nul = js[q] := by rw [List.getD_eq_getElem?_getD, List.getElem?_eq_getElem hqi2]; rfl
    rw [gp, gq] at HQ2
    rw [Nat.zero_add] at ex ey
    have hmx := List.getElem_mem hpi2
    have hmy := List.getElem_mem hqi2
    generalize is[p] = jx at ex HQ2 hmx
    generalize js[q] = jy at ey HQ2 hmy
    obtain ⟨E1, off, v0, v1, v2, v3, v4, rfl, hSb, g0, g1, g2, g3, g4, hj⟩ := ex
    obtain ⟨E2, oe, x0, x1, x2, x3, x4, rfl, hSd, f0, f1, f2, f3, f4, hj'⟩ := ey
    obtain ⟨jk, jn, jt, ja1, jn1, jc1, ja2, jn2, jc2, e⟩ := hj.form
    simp only [Value.agg.injEq, Array.mk.injEq, List.cons.injEq, and_true] at e
    obtain ⟨rfl, rfl, rfl, rfl, rfl⟩ := e
    obtain ⟨ik, inn, it, ia1, in1, ic1, ia2, in2, ic2, e⟩ := hj'.form
    simp only [Value.agg.injEq, Array.mk.injEq, List.cons.injEq, and_true] at e
    obtain ⟨rfl, rfl, rfl, rfl, rfl⟩ := e
    have HA := hide (uh HC jx hmx jy hmy S _ _ y.drew (JV.keep (w := y) (w' := y.drew) (fun k hk => ⟨hk, rfl⟩) _ _ hj) (JV.keep (w := y) (w' := y.drew) (fun k hk => ⟨hk, rfl⟩) _ _ hj') (fun k hk => Nat.lt_of_lt_of_le (uh HS k hk) (uh HFy).size))
    generalize C jx jy = E at HA HQ2
    clear hj hj' hSb hSd p0 p1 p2 q0 q1 q2 hBc hDc hSB hSD hmx hmy gp gq hpi2 hqi2 hpn hqn hnm hpm hqm
    go_region_held3 (fun w' => w'.cell? ⟨V, 3, none⟩ = some (.slice (some ⟨B, ob, none⟩) m c1) ∧ w'.cell? ⟨V, 4, none⟩ = some (.slice (some ⟨E1, off, none⟩) m c2) ∧ w'.cell? ⟨X, 3, none⟩ = some (.slice (some ⟨D, od, none⟩) m d1) ∧ w'.cell? ⟨X, 4, none⟩ = some (.slice (some ⟨E2, oe, none⟩) m d2) ∧ w'.cell? ⟨B, ob + p, none⟩ = some (.string (str nm)) ∧ w'.cell? ⟨D, od + q, none⟩ = some (.string (str nm)) ∧ w'.cell? ⟨E1, off + p * 5, none⟩ = some (.int .i64 jk) ∧ w'.cell? ⟨E1, off + p * 5 + 1, none⟩ = some (.int .i64 jn) ∧ w'.cell? ⟨E1, off + p * 5 + 2, none⟩ = some (.string (str jt)) ∧ w'.cell? ⟨E1, off + p * 5 + 3, none⟩ = some (.slice ja1 jn1 jc1) ∧ w'.cell? ⟨E1, off + p * 5 + 4, none⟩ = some (.slice ja2 jn2 jc2) ∧ w'.cell? ⟨E2, oe + q * 5, none⟩ = some (.int .i64 ik) ∧ w'.cell? ⟨E2, oe + q * 5 + 1, none⟩ = some (.int .i64 inn) ∧ w'.cell? ⟨E2, oe + q * 5 + 2, none⟩ = some (.string (str it)) ∧ w'.cell? ⟨E2, oe + q * 5 + 3, none⟩ = some (.slice ia1 in1 ic1) ∧ w'.cell? ⟨E2, oe + q * 5 + 4, none⟩ = some (.slice ia2 in2 ic2)) (first | exact ⟨p3, p4, q3, q4, z1, z2, g0, g1, g2, g3, g4, f0, f1, f2, f3, f4⟩ | exact S5 | assumption | go_keep) ((first | (go_at_call 35; refine (uh HA).mono ?_; rintro e w5 ⟨rfl, h5⟩; have kk : ∀ (a : Addr) (v : Value), y.cell? a = some v → w5.cell? a = some v := (fun a v h => ((uh h5).cell (World.block_lt_of_cell? y a h)).trans h); have S5 := (And.intro (kk _ _ p3) (And.intro (kk _ _ p4) (And.intro (kk _ _ q3) (And.intro (kk _ _ q4) (And.intro (kk _ _ z1) (And.intro (kk _ _ z2) (And.intro (kk _ _ g0) (And.intro (kk _ _ g1) (And.intro (kk _ _ g2) (And.intro (kk _ _ g3) (And.intro (kk _ _ g4) (And.intro (kk _ _ f0) (And.intro (kk _ _ f1) (And.intro (kk _ _ f2) (And.intro (kk _ _ f3) (kk _ _ f4)))))))))))))))); clear kk)))
    all_goals
     have HB5' : Hid (Below w6.heap.size w6 w5) := (uh HBy).trans (((Below.refl _ _).drew).trans ((uh h5).mono (uh HBy).size) : Below _ _ _)
     have HFw5 := hide (uh HBw w5 ((uh HB6).trans ((uh HB5').mono (uh HB6).size)))
     clear HA h5 p3 p4 q3 q4 z1 z2 g0 g1 g2 g3 g4 f0 f1 f2 f3 f4 S5
     cases E with
     | true =>
      have HQ3 : Hid (R = smA C ns ms is js (o.drop (i + 1)) (o'.drop (i + 1))) := by show _ = _; rw [uh HQ2, Bool.true_and]
      go_wp2_with fail
      go_roundw
      case rel => exact ⟨i + 1, by omega, by go_num, HQ3, HB5'⟩
      case measure => simp [intOf]; omega
     | false =>
      have HQ3 : Hid (R = false) := by show _ = _; rw [uh HQ2, Bool.false_and]
      go_wp2_with fail
      go_ret
      rw [uh HQ3]
      exact ⟨rfl, HFw5⟩
   ·rw [decide_eq_false hnm] at HQ2
    have HQ3 : Hid (R = false) := by show _ = _; rw [uh HQ2, Bool.false_and, Bool.false_and]
    generalize nmA ns p = nm at z1 hnm
    generalize nmA ms q = nm' at z2 hnm
    have e1 : ((str nm).toList != (str nm').toList) = true := by rw [toList_str, toList_str]; simpa using hnm
    have e2 : ((str nm).toList == (str nm').toList) = false := by rw [toList_str, toList_str]; simpa using hnm
    have HFd : ∀ n, Hid (Below w.heap.size w (y.drewN n)) := fun n => hide (bdr4 (uh HFy) n)
    clear p0 p1 p2 p4 q0 q1 q2 q4 hBc hDc hSB hSD hpn hqn hnm hpm hqm HQ2
    go_quiet (fail)
    go_wp2_with fail
    go_ret
    rw [uh HQ3]
    exact ⟨rfl, HFd _⟩
  ·have him : i = m := by omega
   subst him
   have hlt' : ¬ (i : Int) < (i : Int) := by omega
   have HQ3 : Hid (R = true) := by show _ = _; rw [uh HQ, List.drop_eq_nil_of_le (by rw [uh HO]; omega)]; rfl
   have HF := hide (uh HBw wr (uh HBW))
   go_wp2_with fail
   go_ret
   rw [uh HQ3]
   exact ⟨rfl, HF⟩
end Go.Proofs.YtmpjeahibfdehaaGreatDoor
end
section
set_option linter.unusedVariables false
set_option maxRecDepth 1000000
namespace Go.Proofs.YtmpjeahibfdehaaGreatDoor
open Go.RowKit

theorem al_off {A : Js → Js → Bool} {k n : Int} {t : List UInt8} {ns : List (List UInt8)} {is : List Js} {k' n' : Int} {t' : List UInt8} {ns' : List (List UInt8)} {is' : List Js} (h : ¬ (k = k' ∧ n = n' ∧ t = t' ∧ is.length = is'.length)) : alF A (.mk k n t ns is) (.mk k' n' t' ns' is') = false := by
 rw [alF_eq]
 have e : (decide (k = k') && decide (n = n') && decide (t = t') && decide (is.length = is'.length)) = false := by
  rw [Bool.eq_false_iff]
  intro h2
  simp only [Bool.and_eq_true, decide_eq_true_eq] at h2
  exact h ⟨h2.1.1.1, h2.1.1.2, h2.1.2, h2.2⟩
 rw [e, Bool.false_and]
theorem al_on {A : Js → Js → Bool} {k n : Int} {t : List UInt8} {ns : List (List UInt8)} {is : List Js} {ns' : List (List UInt8)} {is' : List Js} (h : is.length = is'.length) : alF A (.mk k n t ns is) (.mk k n t ns' is') = if k = 5 then smA A ns ns' is is' (ordS ns) (ordS ns') else eqA A is is' := by
 rw [alF_eq, decide_eq_true rfl, decide_eq_true rfl, decide_eq_true rfl, decide_eq_true h]
 rfl
set_option maxHeartbeats 8000000 in
theorem al_core (A : Js → Js → Bool) (k n : Int) (t : List UInt8) (ns : List (List UInt8)) (is : List Js) (k' n' : Int) (t' : List UInt8) (ns' : List (List UInt8)) (is' : List Js)
  (h5 : k = 5 → ns.Nodup ∧ ns.length = is.length) (h5' : k' = 5 → ns'.Nodup ∧ ns'.length = is'.length) (hm : is.length ≤ 100000) (hm' : is'.length ≤ 100000) (hC : ∀ x ∈ is, ∀ y ∈ is', AlP A x y) : AlP (alF A) (.mk k n t ns is) (.mk k' n' t' ns' is') := by
 intro S v v' w hJ hJ' hS
 have HJ0 := hide hJ
 have HJ0' := hide hJ'
 simp only [JV] at hJ hJ'
 obtain ⟨a1, c1, a2, c2, rfl, hN, hnc, hnm, _, hic, him, _, hIt⟩ := hJ
 obtain ⟨b1, d1, b2, d2, rfl, hN', hnc', hnm', _, hic', him', _, hIt'⟩ := hJ'
 obtain ⟨m, hmm⟩ : ∃ m, m = is.length := ⟨_, rfl⟩
 obtain ⟨m', hmm'⟩ : ∃ m', m' = is'.length := ⟨_, rfl⟩
 obtain ⟨g, hg⟩ : ∃ g, g = ns.length := ⟨_, rfl⟩
 obtain ⟨g', hg'⟩ : ∃ g', g' = ns'.length := ⟨_, rfl⟩
 have HLL : Hid (is.length = m ∧ is'.length = m' ∧ ns.length = g ∧ ns'.length = g') := ⟨hmm.symm, hmm'.symm, hg.symm, hg'.symm⟩
 rw [← hmm] at hic hm
 rw [← hmm'] at hic' hm'
 rw [← hmm, ← hmm', ← hg, ← hg']
 clear hmm hmm' hg hg'
 obtain ⟨V, hV⟩ : ∃ V, V = w.heap.size := ⟨_, rfl⟩
 obtain ⟨X, hX⟩ : ∃ X, X = w.heap.size + 1 := ⟨_, rfl⟩
 obtain ⟨W, hW⟩ : ∃ W, W = (w.alloc (.cells #[.int .i64 k, .int .i64 n, .string (str t), .slice a1 g c1, .slice a2 m c2] 44)).alloc (.cells #[.int .i64 k', .int .i64 n', .string (str t'), .slice b1 g' d1, .slice b2 m' d2] 44) := ⟨_, rfl⟩
 have bW : Below w.heap.size w W := by rw [hW]; exact below2 w _ _
 have rV : W.heap[V]? = some (.cells #[.int .i64 k, .int .i64 n, .string (str t), .slice a1 g c1, .slice a2 m c2] 44 (0, 0)) := by rw [hW, hV, heap_alloc_old _ _ (by simp)]; exact heap_alloc_new _ _
 have rX : W.heap[X]? = some (.cells #[.int .i64 k', .int .i64 n', .string (str t'), .slice b1 g' d1, .slice b2 m' d2] 44 (0, 0)) := by rw [hW, hX]; exact heap_alloc2_new _ _ _
 obtain ⟨p0, p1, p2, p3, p4⟩ := cells5 rV
 obtain ⟨q0, q1, q2, q3, q4⟩ := cells5 rX
 have HW := hide bW
 have HI := hide hIt
 have HI' := hide hIt'
 have HS := hide hS
 have HC := hide hC
 have H5 := hide h5
 have H5' := hide h5'
 have HSW : Hid (∀ k, S k → S k ∧ W.heap[k]? = w.heap[k]?) := fun k hk => ⟨hk, bW.block k (hS k hk)⟩
 clear hN hN' hIt hIt' hS hC h5 h5' rV rX bW hnc hnc' hnm hnm' him him'
 have HF : Hid (∀ u : World, Hid (Below W.heap.size W u) → Hid (Below w.heap.size w u)) := fun u h => (uh HW).trans ((uh h).mono (uh HW).size)
 by_cases hall : k = k' ∧ n = n' ∧ t = t' ∧ m = m'
 ·obtain ⟨rfl, rfl, rfl, rfl⟩ := hall
  have e1 : ((str t).toList != (str t).toList) = false := by simp
  have hl : is.length = is'.length := (uh HLL).1.trans (uh HLL).2.1.symm
  by_cases hk : k = 5
  ·subst hk
   obtain ⟨g1, g2⟩ := uh H5 rfl
   obtain ⟨g3, g4⟩ := uh H5' rfl
   have HM := hide (sm_any A 5 n t ns is 5 n t ns' is' S _ _ W (JV.keep (uh HSW) _ _ (uh HJ0)) (JV.keep (uh HSW) _ _ (uh HJ0')) (fun k hk => Nat.lt_of_lt_of_le (uh HS k hk) (uh HW).size) g1 g3 g2 (by omega) hl.symm (by rw [(uh HLL).1]; exact hm) (uh HC))
   rw [(uh HLL).1, (uh HLL).2.1, (uh HLL).2.2.1, (uh HLL).2.2.2] at HM
   have hR : alF A (.mk 5 n t ns is) (.mk 5 n t ns' is') = smA A ns ns' is is' (ordS ns) (ordS ns') := by rw [al_on hl, if_pos rfl]
   rw [hR]
   generalize smA A ns ns' is is' (ordS ns) (ordS ns') = R at HM ⊢
   clear g1 g2 g3 g4 HJ0 HJ0' HI HI' HC H5 H5' HSW hl hR HLL
   go_enter Tryz.func35, Tryz.ntmps35
   go_upto_region 1 with fail
   rw [← hW, ← hX, ← hV]
   clear hW hV hX
   go_wp2_with fail
   refine (uh HM).mono ?_
   rintro e w1 ⟨rfl, h1⟩
   have HF1 := uh HF w1 h1
   clear HM h1 p0 p1 p2 p3 p4 q0 q1 q2 q3 q4
   go_wp2_with fail
   go_ret
   exact ⟨rfl, HF1⟩
  ·have HM := hide (eqf_any A is is' hl a2 b2 c2 d2 S W (JVs.keep (uh HSW) _ _ _ (uh HI)) (JVs.keep (uh HSW) _ _ _ (uh HI')) (fun k hk => Nat.lt_of_lt_of_le (uh HS k hk) (uh HW).size) (by rw [(uh HLL).1]; exact hm) (uh HC))
   rw [(uh HLL).1, (uh HLL).2.1] at HM
   have hR : alF A (.mk k n t ns is) (.mk k n t ns' is') = eqA A is is' := by rw [al_on hl, if_neg hk]
   rw [hR]
   generalize eqA A is is' = R at HM ⊢
   have hkb : (k == 5) = false := by simpa using hk
   clear HJ0 HJ0' HI HI' HC H5 H5' HSW hl hR HLL
   go_enter Tryz.func35, Tryz.ntmps35
   go_upto_region 1 with fail
   rw [← hW, ← hX, ← hV]
   clear hW hV hX
   go_wp2_with fail
   refine (uh HM).mono ?_
   rintro e w1 ⟨rfl, h1⟩
   have HF1 := uh HF w1 h1
   clear HM h1 p0 p1 p2 p3 p4 q0 q1 q2 q3 q4
   go_wp2_with fail
   go_ret
   exact ⟨rfl, HF1⟩
 ·have hR : alF A (.mk k n t ns is) (.mk k' n' t' ns' is') = false := al_off (fun h => hall ⟨h.1, h.2.1, h.2.2.1, by rw [← (uh HLL).1, ← (uh HLL).2.1]; exact h.2.2.2⟩)
  rw [hR]
  have HF1 := uh HF W (hide (Below.refl _ _))
  clear HJ0 HJ0' HI HI' HC H5 H5' HSW hR HLL HF
  go_enter Tryz.func35, Tryz.ntmps35
  go_upto_region 1 with fail
  rw [← hW, ← hX, ← hV]
  clear hW hV hX
  by_cases h1 : k = k'
  ·subst h1
   by_cases h2 : n = n'
   ·subst h2
    by_cases h3 : t = t'
    ·subst h3
     have h4 : ¬ m = m' := fun e => hall ⟨rfl, rfl, rfl, e⟩
     have e1 : ((str t).toList != (str t).toList) = false := by simp
     have e4 : ((m : Int) != (m' : Int)) = true := by simp; omega
     have e5 : ((m : Int) == (m' : Int)) = false := by simp; omega
     have e6 : ¬ (m : Int) = (m' : Int) := by omega
     clear hall h4
     go_wp2_with fail
     go_ret
     exact ⟨rfl, HF1⟩
    ·have e1 : ((str t).toList != (str t').toList) = true := by rw [toList_str, toList_str]; simpa using h3
     have e2 : ((str t).toList == (str t').toList) = false := by rw [toList_str, toList_str]; simpa using h3
     clear hall h3
     go_wp2_with fail
     go_ret
     exact ⟨rfl, HF1⟩
   ·have e1 : (n != n') = true := by simpa using h2
    have e2 : (n == n') = false := by simpa using h2
    clear hall
    go_wp2_with fail
    go_ret
    exact ⟨rfl, HF1⟩
  ·have e1 : (k != k') = true := by simpa using h1
   have e2 : (k == k') = false := by simpa using h1
   clear hall
   go_wp2_with fail
   go_ret
   exact ⟨rfl, HF1⟩
theorem ck_five {n : Nat} {k i : Int} {t : List UInt8} {ns : List (List UInt8)} {is : List Js} (h : ck n (.mk k i t ns is) = 0) (hk : k = 5) : ns.Nodup ∧ ns.length = is.length := by
 obtain ⟨hw, hnd, _⟩ := ck_zero n k i t ns is h
 exact ⟨hnd, (wf5 hw hk).2.2.1⟩
theorem ck_items {n : Nat} {k i : Int} {t : List UInt8} {ns : List (List UInt8)} {is : List Js} (h : ck n (.mk k i t ns is) = 0) : is = [] ∨ ∃ m, n = m + 1 ∧ ∀ x ∈ is, ck m x = 0 := by
 obtain ⟨hw, _, h45⟩ := ck_zero n k i t ns is h
 obtain ⟨hkk, _⟩ := wf_kind hw
 rcases hkk with h | h | h | h | h | h
 ·left; exact (wf_flat hw (by rw [h]; decide)).2.1
 ·left; exact (wf_flat hw (by rw [h]; decide)).2.1
 ·left; exact (wf_flat hw (by rw [h]; decide)).2.1
 ·left; exact (wf_flat hw (by rw [h]; decide)).2.1
 ·right; exact h45 (.inl h)
 ·right; exact h45 (.inr h)
/-- alike, of two values that can be. -/
theorem al_any : ∀ (n : Nat) (a b : Js), ck n a = 0 → ck n b = 0 → Sz a → Sz b → AlP (alN n) a b
 | 0, .mk k i t ns is, .mk k' i' t' ns' is', ha, hb, za, zb => by
  simp only [Sz] at za zb
  have e1 : is = [] := (ck_items ha).elim id (fun ⟨m, e, _⟩ => by cases e)
  refine al_core _ k i t ns is k' i' t' ns' is' (ck_five ha) (ck_five hb) za.2.2.2.1 zb.2.2.2.1 (fun x hx => ?_)
  rw [e1] at hx
  cases hx
 | n + 1, .mk k i t ns is, .mk k' i' t' ns' is', ha, hb, za, zb => by
  simp only [Sz] at za zb
  refine al_core _ k i t ns is k' i' t' ns' is' (ck_five ha) (ck_five hb) za.2.2.2.1 zb.2.2.2.1 (fun x hx y hy => ?_)
  have h1 : ck n x = 0 := by
   rcases ck_items ha with e | ⟨m, e, h⟩
   ·rw [e] at hx; cases hx
   ·cases e; exact h x hx
  have h2 : ck n y = 0 := by
   rcases ck_items hb with e | ⟨m, e, h⟩
   ·rw [e] at hy; cases hy
   ·cases e; exact h y hy
  exact al_any n x y h1 h2 ((szs_iff is).1 za.2.2.2.2.2 x hx) ((szs_iff is').1 zb.2.2.2.2.2 y hy)
set_option maxHeartbeats 8000000 in
theorem same_any (a b : Js) (S : Nat → Prop) (v v' : Value) (w : World) (hT : Tb4 w) (hJ : JV w S v a) (hJ' : JV w S v' b) (hS : ∀ k, S k → k < w.heap.size) (za : Sz a) (zb : Sz b) :
  Calls Tryz.prog 17 #[v, v'] w fun e w' => e = .returned (.bool (saM a b)) ∧ Hid (Below w.heap.size w w') := by
 obtain ⟨k, n, t, a1, n1, c1, a2, n2, c2, rfl⟩ := hJ.form
 obtain ⟨k', n', t', b1, m1, d1, b2, m2, d2, rfl⟩ := hJ'.form
 obtain ⟨V, hV⟩ : ∃ V, V = w.heap.size := ⟨_, rfl⟩
 obtain ⟨X, hX⟩ : ∃ X, X = w.heap.size + 1 := ⟨_, rfl⟩
 obtain ⟨W, hW⟩ : ∃ W, W = (w.alloc (.cells #[.int .i64 k, .int .i64 n, .string (str t), .slice a1 n1 c1, .slice a2 n2 c2] 44)).alloc (.cells #[.int .i64 k', .int .i64 n', .string (str t'), .slice b1 m1 d1, .slice b2 m2 d2] 44) := ⟨_, rfl⟩
 have bW : Below w.heap.size w W := by rw [hW]; exact below2 w _ _
 have rV : W.heap[V]? = some (.cells #[.int .i64 k, .int .i64 n, .string (str t), .slice a1 n1 c1, .slice a2 n2 c2] 44 (0, 0)) := by rw [hW, hV, heap_alloc_old _ _ (by simp)]; exact heap_alloc_new _ _
 have rX : W.heap[X]? = some (.cells #[.int .i64 k', .int .i64 n', .string (str t'), .slice b1 m1 d1, .slice b2 m2 d2] 44 (0, 0)) := by rw [hW, hX]; exact heap_alloc2_new _ _ _
 have HKV : Hid (∀ u, Below W.heap.size W u → u.heap[V]? = some (.cells #[.int .i64 k, .int .i64 n, .string (str t), .slice a1 n1 c1, .slice a2 n2 c2] 44 (0, 0))) := fun u hb => (hb.block V (aI rV).1).trans rV
 have HKX : Hid (∀ u, Below W.heap.size W u → u.heap[X]? = some (.cells #[.int .i64 k', .int .i64 n', .string (str t'), .slice b1 m1 d1, .slice b2 m2 d2] 44 (0, 0))) := fun u hb => (hb.block X (aI rX).1).trans rX
 have HF : Hid (∀ u, Below W.heap.size W u → Below w.heap.size w u) := fun u hb => bW.trans (hb.mono bW.size)
 have HA : Hid (∀ u, Below W.heap.size W u → JV u S _ a ∧ JV u S _ b ∧ (∀ k, S k → k < u.heap.size) ∧ Tb4 u) := fun u hb => ⟨JV.keep (fun k hk => ⟨hk, (uh HF u hb).block k (hS k hk)⟩) _ _ hJ, JV.keep (fun k hk => ⟨hk, (uh HF u hb).block k (hS k hk)⟩) _ _ hJ', fun k hk => Nat.lt_of_lt_of_le (hS k hk) (uh HF u hb).size, hT.below (uh HF u hb)⟩
 have HCa := hide (checkJ_any a S _ W (uh HA W (Below.refl _ _)).2.2.2 (uh HA W (Below.refl _ _)).1 (uh HA W (Below.refl _ _)).2.2.1 za)
 have HCb : Hid (∀ u, Below W.heap.size W u → Calls Tryz.prog 34 #[.agg #[.int .i64 k', .int .i64 n', .string (str t'), .slice b1 m1 d1, .slice b2 m2 d2]] u fun e w' => e = .returned (.int .i64 ((ck 16 b : Nat) : Int)) ∧ Hid (Below u.heap.size u w')) := fun u hb => checkJ_any b S _ u (uh HA u hb).2.2.2 (uh HA u hb).2.1 (uh HA u hb).2.2.1 zb
 have HAl : Hid (ck 16 a = 0 → ck 16 b = 0 → ∀ u, Below W.heap.size W u → Calls Tryz.prog 35 #[.agg #[.int .i64 k, .int .i64 n, .string (str t), .slice a1 n1 c1, .slice a2 n2 c2], .agg #[.int .i64 k', .int .i64 n', .string (str t'), .slice b1 m1 d1, .slice b2 m2 d2]] u fun e w' => e = .returned (.bool (alN 16 a b)) ∧ Hid (Below u.heap.size u w')) := fun h1 h2 u hb => al_any 16 a b h1 h2 za zb S _ _ u (uh HA u hb).1 (uh HA u hb).2.1 (uh HA u hb).2.2.1
 have HR : Hid (saM a b = (decide (ck 16 a = 0) && (decide (ck 16 b = 0) && alN 16 a b))) := rfl
 generalize saM a b = R at HR ⊢
 generalize alN 16 a b = A at HR HAl
 generalize ck 16 a = Ea at HR HCa HAl
 generalize ck 16 b = Eb at HR HCb HAl
 obtain ⟨p0, p1, p2, p3, p4⟩ := cells5 rV
 clear hT hJ hJ' hS za zb bW rV rX HA
 go_enter Tryz.func17, Tryz.ntmps17
 go_upto_region 1 with fail
 rw [← hW, ← hX, ← hV]
 clear hW hV hX
 by_cases ha : Ea = 0
 ·subst ha
  simp only [show ((0 : Nat) : Int) = 0 from rfl] at HCa
  go_wp2_with fail
  refine (uh HCa).mono ?_
  rintro e w1 ⟨rfl, h1⟩
  have HC1 := hide (uh HCb w1 (uh h1))
  obtain ⟨q0, q1, q2, q3, q4⟩ := cells5 (uh HKX w1 (uh h1))
  clear HCa HCb p0 p1 p2 p3 p4
  by_cases hb : Eb = 0
  ·subst hb
   simp only [show ((0 : Nat) : Int) = 0 from rfl] at HC1
   go_wp2_with fail
   refine (uh HC1).mono ?_
   rintro e w2 ⟨rfl, h2⟩
   have HB2 : Hid (Below W.heap.size W w2) := (uh h1).trans ((uh h2).mono (uh h1).size)
   have HA2 := hide (uh HAl (by first | exact rfl | trivial) (by first | exact rfl | trivial) w2 (uh HB2))
   clear HC1 HAl q0 q1 q2 q3 q4 h1 h2
   obtain ⟨q0, q1, q2, q3, q4⟩ := cells5 (uh HKX w2 (uh HB2))
   obtain ⟨p0, p1, p2, p3, p4⟩ := cells5 (uh HKV w2 (uh HB2))
   have HR2 : Hid (R = A) := by show _ = _; rw [uh HR]; rfl
   go_wp2_with fail
   refine (uh HA2).mono ?_
   rintro e w3 ⟨rfl, h3⟩
   have HF3 := hide (uh HF w3 ((uh HB2).trans ((uh h3).mono (uh HB2).size)))
   clear HA2 h3 p0 p1 p2 p3 p4 q0 q1 q2 q3 q4
   go_wp2_with fail
   go_ret
   rw [uh HR2]
   exact ⟨rfl, HF3⟩
  ·have e1 : (((Eb : Nat) : Int) == 0) = false := by simp; omega
   have e2 : ¬ ((Eb : Nat) : Int) = 0 := by omega
   have HR2 : Hid (R = false) := by show _ = _; rw [uh HR, decide_eq_false hb]; rfl
   go_wp2_with fail
   refine (uh HC1).mono ?_
   rintro e w2 ⟨rfl, h2⟩
   have HF3 := hide (uh HF w2 ((uh h1).trans ((uh h2).mono (uh h1).size)))
   clear HC1 HAl q0 q1 q2 q3 q4 h1 h2
   go_wp2_with fail
   go_ret
   rw [uh HR2]
   exact ⟨rfl, HF3⟩
 ·have e1 : (((Ea : Nat) : Int) == 0) = false := by simp; omega
  have e2 : ¬ ((Ea : Nat) : Int) = 0 := by omega
  have HR2 : Hid (R = false) := by show _ = _; rw [uh HR, decide_eq_false ha]; rfl
  go_wp2_with fail
  refine (uh HCa).mono ?_
  rintro e w1 ⟨rfl, h1⟩
  have HF3 := hide (uh HF w1 (uh h1))
  clear HCa HCb HAl p0 p1 p2 p3 p4 h1
  go_wp2_with fail
  go_ret
  rw [uh HR2]
  exact ⟨rfl, HF3⟩
end Go.Proofs.YtmpjeahibfdehaaGreatDoor
end
section
set_option linter.unusedVariables false
set_option maxRecDepth 1000000
namespace Go.Proofs.YtmpjeahibfdehaaGreatDoor
open Go.RowKit

/-- A box with a value, all of it in the world. -/
structure Bj (w : World) (V : Nat) (k n : Int) (t : List UInt8) (a1 : Option Addr) (n1 c1 : Nat) (a2 : Option Addr) (n2 c2 : Nat) (j : Js) : Prop where
 row : w.heap[V]? = some (.cells #[.int .i64 k, .int .i64 n, .string (str t), .slice a1 n1 c1, .slice a2 n2 c2] 44 (0, 0))
 jv : JV w (Al w) (.agg #[.int .i64 k, .int .i64 n, .string (str t), .slice a1 n1 c1, .slice a2 n2 c2]) j
theorem Bj.below {w u : World} {V : Nat} {k n : Int} {t : List UInt8} {a1 : Option Addr} {n1 c1 : Nat} {a2 : Option Addr} {n2 c2 : Nat} {j : Js} (h : Bj w V k n t a1 n1 c1 a2 n2 c2 j) (hb : Below w.heap.size w u) : Bj u V k n t a1 n1 c1 a2 n2 c2 j :=
 ⟨(hb.block V (aI h.row).1).trans h.row, h.jv.al (fun k hk => hk) hb⟩
theorem Bj.made {w : World} {S : Nat → Prop} {k n : Int} {t : List UInt8} {a1 : Option Addr} {n1 c1 : Nat} {a2 : Option Addr} {n2 c2 : Nat} {j : Js} (h : JV w S (.agg #[.int .i64 k, .int .i64 n, .string (str t), .slice a1 n1 c1, .slice a2 n2 c2]) j) (hS : ∀ k, S k → k < w.heap.size) :
  ∀ U, U = w.alloc (.cells #[.int .i64 k, .int .i64 n, .string (str t), .slice a1 n1 c1, .slice a2 n2 c2] 44) → Bj U w.heap.size k n t a1 n1 c1 a2 n2 c2 j ∧ Below w.heap.size w U := by
 intro U hU
 have bU : Below w.heap.size w U := by rw [hU]; exact bA _
 exact ⟨⟨by rw [hU]; exact heap_alloc_new _ _, h.al hS bU⟩, bU⟩
end Go.Proofs.YtmpjeahibfdehaaGreatDoor
end
