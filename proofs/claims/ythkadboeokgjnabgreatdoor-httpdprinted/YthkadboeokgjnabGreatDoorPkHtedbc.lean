/-
  httpd: the document's SameRequest at equal requests.; httpd: Find of 'host'; slices.Contains of ints; HttpdOneOf's walk.
-/
import Derived.Test.YthkadboeokgjnabGreatDoorPkHtedax
import Derived.Test.YthkadboeokgjnabGreatDoorPkHtedbb
import Derived.Test.YthkadboeokgjnabGreatDoorPkHtedav
section
set_option linter.unusedVariables false
set_option maxRecDepth 1000000
namespace Go.Proofs.YthkadboeokgjnabGreatDoor
open Go.RowKit

set_option maxHeartbeats 4000000 in
theorem same_eq (m p : List UInt8) (H : List Hd) (B : List UInt8) (hp hq bp bq : Option Addr) (hc hd bc bd : Nat) (w : World) (h1 : HdR w hp H) (h2 : HdR w hq H) (b1 : Bs w bp bc B) (b2 : Bs w bq bd B) (hl : H.length ≤ 1000000) (hbl : B.length ≤ 100000000) :
    Calls Tryz.prog 17 #[.agg #[.string (str m), .string (str p), .slice hp H.length hc, .slice bp B.length bc], .agg #[.string (str m), .string (str p), .slice hq H.length hd, .slice bq B.length bd]] w fun e w' => e = .returned (.bool true) ∧ Hid (Below w.heap.size w w') := by
  have H1 := hide h1
  have H2 := hide h2
  have B1 := hide b1
  have B2 := hide b2
  clear h1 h2 b1 b2
  obtain ⟨o1, ho1⟩ : ∃ o, o = Obj.cells #[.string (str m), .string (str p), .slice hp H.length hc, .slice bp B.length bc] 38 := ⟨_, rfl⟩
  obtain ⟨o2, ho2⟩ : ∃ o, o = Obj.cells #[.string (str m), .string (str p), .slice hq H.length hd, .slice bq B.length bd] 38 := ⟨_, rfl⟩
  have hb : Below w.heap.size w ((w.alloc o1).alloc o2) := ((Below.refl _ _).alloc (Nat.le_refl _) _).alloc (by simp) _
  have k1 := run_str _ _ _ bc B (unhide B1 |>.below hb (Nat.le_refl _)).row rfl
  have k2 := run_str _ _ _ bd B (unhide B2 |>.below hb (Nat.le_refl _)).row rfl
  have HS := hide (samh_eq hp hq hc hd H _ ((unhide H1).below hb (Nat.le_refl _)) ((unhide H2).below hb (Nat.le_refl _)) hl)
  have HB := hide hb
  clear hb
  rw [ho1, ho2] at k1 k2 HS HB
  clear ho1 ho2
  have HBS := hide (unhide HB).size
  go_enter Tryz.func17, Tryz.ntmps17
  go_wp2_with fail
  refine (unhide HS).mono ?_
  rintro e w' ⟨rfl, HB2⟩
  go_wp2_with fail
  go_ret
  exact ⟨rfl, hide ((unhide HB).trans ((unhide HB2).mono (unhide HBS)))⟩
#print axioms same_eq
end Go.Proofs.YthkadboeokgjnabGreatDoor
end
section
set_option linter.unusedVariables false
set_option maxRecDepth 1000000
namespace Go.Proofs.YthkadboeokgjnabGreatDoor
open Go.RowKit

/-- A row of ints. -/
def IRow (w : World) (a : Option Addr) (l : List Int) : Prop :=
  l ≠ [] → ∃ b off, a = some ⟨b, off, none⟩ ∧ ∀ i s, l[i]? = some s → w.cell? ⟨b, off + i, none⟩ = some (.int .i64 s)
/-! ### slices.Contains -/
set_option maxHeartbeats 1000000 in
theorem index_in (a : Option Addr) (c : Nat) (l : List Int) (x : Int) (i0 : Nat) (w : World) (hr : IRow w a l) (hl : l.length ≤ 1000000) (hi : l[i0]? = some x) (hf : ∀ j, j < i0 → l[j]? ≠ some x) :
    Calls Tryz.prog 46 #[.slice a l.length c, .int .i64 x] w fun e w' => e = .returned (.int .i64 (i0 : Int)) ∧ w' = w := by
  have hlt0 := (List.getElem?_eq_some_iff.1 hi).1
  obtain ⟨b, off, rfl, hc⟩ := hr (by intro e; subst e; simp at hlt0)
  have HC := hide hc
  have HF := hide hf
  have HI := hide hi
  clear hc hf hr hi
  go_enter Tryz.func46, Tryz.ntmps46
  go_wp2
  go_loop [8] (fun v => ∃ k : Nat, k ≤ i0 ∧ v = .int .i64 (k : Int)) (fun v => i0 + 1 - (intOf v).toNat)
  case atStart => exact ⟨0, Nat.zero_le _, rfl⟩
  case round =>
    obtain ⟨k, hk, rfl⟩ := hrel
    obtain ⟨z, hz⟩ : ∃ z, l[k]? = some z := ⟨l[k]'(by omega), List.getElem?_eq_getElem (by omega)⟩
    have ck := unhide HC k z hz
    have hkl : (k : Int) < (l.length : Int) := by omega
    by_cases hlt : k < i0
    · have hne : (x == z) = false := by
        have := unhide HF k hlt
        rw [hz] at this
        simpa using fun e => this (by rw [e])
      go_wp2
      go_round
      case rel => exact ⟨k + 1, by omega, by go_num⟩
      case measure => simp [intOf]; omega
    · obtain rfl : k = i0 := by omega
      obtain rfl : z = x := by have := unhide HI; rw [hz] at this; simpa using this
      have heq : (z == z) = true := beq_self_eq_true _
      go_wp2
      go_ret
      exact ⟨rfl, rfl⟩
theorem first_ix : ∀ (l : List Int) (x : Int), x ∈ l → ∃ i0 : Nat, l[i0]? = some x ∧ ∀ j, j < i0 → l[j]? ≠ some x
  | [], x, h => by simp at h
  | a :: r, x, h => by
    by_cases e : a = x
    · exact ⟨0, by simp [e], fun j hj => by omega⟩
    · have hr : x ∈ r := by
        rcases List.mem_cons.1 h with h | h
        · exact absurd h.symm e
        · exact h
      obtain ⟨i, h1, h2⟩ := first_ix r x hr
      refine ⟨i + 1, by simpa using h1, fun j hj => ?_⟩
      cases j with
      | zero => simpa using e
      | succ j => simpa using h2 j (by omega)
set_option maxHeartbeats 1000000 in
theorem contains_in (a : Option Addr) (c : Nat) (l : List Int) (x : Int) (w : World) (hr : IRow w a l) (hl : l.length ≤ 1000000) (hx : x ∈ l) :
    Calls Tryz.prog 25 #[.slice a l.length c, .int .i64 x] w fun e w' => e = .returned (.bool true) ∧ w' = w := by
  obtain ⟨i0, hi, hf⟩ : ∃ i0 : Nat, l[i0]? = some x ∧ ∀ j, j < i0 → l[j]? ≠ some x := by
    exact first_ix l x hx
  have h0 : decide ((0 : Int) ≤ (i0 : Int)) = true := decide_eq_true (by omega)
  have HI := hide (index_in a c l x i0 w hr hl hi hf)
  clear hr hi hf hx
  go_enter Tryz.func25, Tryz.ntmps25
  go_wp2_with (go_at_call 46; refine (unhide HI).mono ?_; rintro e w1 ⟨rfl, rfl⟩)
  go_ret
  exact ⟨rfl, rfl⟩

theorem HdS.of {N : Nat} {H : List Hd} (h : ∀ d ∈ H, d.1.length ≤ N ∧ d.2.length ≤ N) (hN : N ≤ 1000000) : HdS H := fun t d hd => by
  have := h d (List.mem_of_getElem? hd)
  omega
set_option maxHeartbeats 4000000 in
theorem find_host (p : Option Addr) (cp : Nat) (H : List Hd) (w : World) (h : HdR w p H) (hS : HdS H) (hl : H.length ≤ 1000000) (h1 : (vals wHost H).length = 1) :
    Calls Tryz.prog 24 #[.slice p H.length cp, .string (str wHost)] w fun e w' => e = .returned (.tuple #[.string (str ((vals wHost H).getD 0 [])), .bool true]) ∧ Hid (Below w.heap.size w w') := by
  have HV := hide (values_any wHost (by decide) (by decide) p cp H w h hS hl)
  clear h hS
  generalize vals wHost H = L at *
  obtain ⟨x, hx⟩ : ∃ x, L.getD 0 [] = x := ⟨_, rfl⟩
  rw [hx]
  have HX := hide hx
  clear hx
  go_enter Tryz.func24, Tryz.ntmps24
  go_wp2_with fail
  refine (unhide HV).mono ?_
  rintro e w' ⟨a, c, L', rfl, HL, HO, HB⟩
  obtain rfl : L' = L := unhide HL
  obtain ⟨g, rfl, _, _, hc⟩ := (unhide HO).some (by omega)
  have c0 := hc 0 (by omega)
  rw [unhide HX] at c0
  have hn : ((L'.length : Int) == 0) = false := beq_eq_false_iff_ne.2 (by omega)
  have hn1 : ¬ (L'.length : Int) = 0 := by omega
  have hn2 : (0 : Int) < (L'.length : Int) := by omega
  clear hc HV HL HX
  go_wp2_with fail
  go_ret2
  exact ⟨rfl, HB⟩
#print axioms find_host
set_option maxHeartbeats 4000000 in
theorem oneOf_any (w : World) (hE : EnvH w) (a1 : Option Addr) (c1 : Nat) (b : List UInt8) (h1 : Bs w a1 c1 b) :
    Calls Tryz.prog 8 #[.slice a1 b.length c1] w fun e w' => e = .returned (.bool true) ∧ Hid (Below w.heap.size w w') := by
  have HAW := hide (awake8_any w hE)
  have HE := hide hE
  have H1 := hide h1
  clear hE h1
  by_cases hb : b.length ≤ 262144
  · have g1 : ¬ (262144 : Int) < (b.length : Int) := by omega
    have HP := hide (parse_w w a1 c1 b (unhide HE) (unhide H1) (by omega))
    obtain ⟨P, hP⟩ : ∃ P, P = pM b := ⟨_, rfl⟩
    rw [← hP] at HP
    have HPM : Hid (P = pM b) := hP
    clear hP HAW
    obtain ⟨⟨pm, pp, ph, pb⟩, n, st⟩ := P
    simp only at HP
    have HHL := pM_hl b
    rw [← unhide HPM] at HHL
    obtain ⟨hl1, hl2⟩ := HHL
    simp only at hl1 hl2
    by_cases hs : st = 0
    · subst hs
      have hn := pM_n b (by rw [← unhide HPM])
      rw [← unhide HPM] at hn
      obtain ⟨hn1, hn2⟩ := hn
      simp only at hn1 hn2
      have hok := pM_ok b (by rw [← unhide HPM])
      rw [← unhide HPM] at hok
      obtain ⟨_, hok2, hok3, hok4⟩ := hok
      simp only at hok2 hok3 hok4
      have HHS := hide (HdS.of hok2 (by omega))
      have hq1 : (0 : Int) < (n : Int) := by omega
      have hq2 : (n : Int) ≤ (b.length : Int) := by omega
      have hq3 : (pb.length : Int) ≤ 32768 := by omega
      have hq4 : (ph.length : Int) ≤ 32 := by omega
      have qx : ((str ((vals wHost ph).getD 0 [])).toList == ([] : List UInt8)) = false := by rw [toList_str, beq_eq_false_iff_ne]; exact hok4
      have qx' : (str ((vals wHost ph).getD 0 [])).toList.isEmpty = false := by
        rw [toList_str]
        cases hh : (vals wHost ph).getD 0 [] with
        | nil => exact absurd hh hok4
        | cons _ _ => rfl
      have qx2 : ((str ((vals wHost ph).getD 0 [])).toList != ([] : List UInt8)) = true := by show (!_) = _; rw [qx]; rfl
      have qx3 : ¬ (str ((vals wHost ph).getD 0 [])).toList = [] := by rw [toList_str]; exact hok4
      have HF := hide (fun (W : World) (p : Option Addr) (cp : Nat) (h : HdR W p ph) => find_host p cp ph W h (unhide HHS) (by omega) hok3)
      generalize str ((vals wHost ph).getD 0 []) = hv at qx qx' qx2 qx3 HF
      clear hok2 hok3 hok4 hn1 hn2
      go_enter Tryz.func8, Tryz.ntmps8
      go_wp2_with fail
      refine (unhide HP).mono ?_
      rintro e W ⟨hp, hc, bp, bc, rfl, HR, HB⟩
      clear HP
      obtain ⟨o, ho⟩ : ∃ o, o = Obj.cells #[.string (str pm), .string (str pp), .slice hp ph.length hc, .slice bp pb.length bc] 38 := ⟨_, rfl⟩
      have hbU : Below W.heap.size W (W.alloc o) := (Below.refl _ _).alloc (Nat.le_refl _) _
      have hrU : (W.alloc o).heap[W.heap.size]? = some (.cells #[.string (str pm), .string (str pp), .slice hp ph.length hc, .slice bp pb.length bc] 38 (0, 0)) := by rw [ho]; exact heap_alloc_new W _
      have HFU := hide (unhide HF (W.alloc o) hp hc ((unhide HR).hdr.below hbU (Nat.le_refl _)))
      have HEU : Hid (EnvH (W.alloc o)) := ((unhide HE).below (unhide HB)).below hbU
      have HBU : Hid (Below w.heap.size w (W.alloc o)) := (unhide HB).trans (hbU.mono (unhide HB).size)
      have HrU := hide hrU
      have HLT : Hid (W.heap.size < (W.alloc o).heap.size) := by show _ < _; simp
      rw [ho] at HFU HEU HBU HrU HLT
      clear ho hbU hrU HF HR HE H1 HB HHS o
      go_wp2_with fail
      refine (unhide HFU).mono ?_
      rintro e Y ⟨rfl, HBY⟩
      have hrY := ((unhide HBY).block _ (unhide HLT)).trans (unhide HrU)
      have q2 : Y.cell? ⟨W.heap.size, 2, none⟩ = some (.slice hp ph.length hc) := cell_of_row _ _ _ _ _ _ hrY
      have q3 : Y.cell? ⟨W.heap.size, 3, none⟩ = some (.slice bp pb.length bc) := cell_of_row _ _ _ _ _ _ hrY
      have HAW := hide (awake8_any Y ((unhide HEU).below (unhide HBY)))
      have HVV : Hid (Below w.heap.size w Y) := (unhide HBU).trans ((unhide HBY).mono (unhide HBU).size)
      clear hrY HFU HEU HBU HrU HLT HBY
      go_wp2_with fail
      refine (unhide HAW).mono ?_
      rintro e V2 ⟨rfl, HB2⟩
      go_wp2_with fail
      go_ret
      exact ⟨rfl, hide ((unhide HVV).trans ((unhide HB2).mono (unhide HVV).size))⟩
    · have hst := pM_no b (by rw [← unhide HPM]; exact hs)
      have hmem := pM_one b (by rw [← unhide HPM]; exact hs)
      rw [← unhide HPM] at hst hmem
      simp only [Prod.mk.injEq] at hst
      simp only at hmem
      obtain ⟨hq, hn0, _⟩ := hst
      subst hn0
      simp only [Rq.nil, Rq.mk.injEq] at hq
      obtain ⟨rfl, rfl, rfl, rfl⟩ := hq
      have HMM : Hid ((st : Int) ∈ [(1 : Int), 400, 413, 414, 431, 501, 505]) := by
        show _ ∈ _
        simp only [List.mem_cons, List.not_mem_nil, or_false] at hmem ⊢
        omega
      have hs' : ¬ (st : Int) = 0 := by omega
      have hsb : ((st : Int) == 0) = false := beq_eq_false_iff_ne.2 hs'
      clear hmem
      go_enter Tryz.func8, Tryz.ntmps8
      go_wp2_with fail
      refine (unhide HP).mono ?_
      rintro e W ⟨hp, hc, bp, bc, rfl, HR, HB⟩
      clear HP
      obtain ⟨o, ho⟩ : ∃ o, o = Obj.cells #[.string (str []), .string (str []), .slice hp 0 hc, .slice bp 0 bc] 38 := ⟨_, rfl⟩
      obtain ⟨X, hX⟩ : ∃ X, X = (W.alloc o).alloc (.cells #[.int .i64 1, .int .i64 400, .int .i64 413, .int .i64 414, .int .i64 431, .int .i64 501, .int .i64 505] 3) := ⟨_, rfl⟩
      have hs2 : (W.alloc o).heap.size = W.heap.size + 1 := by simp
      have hbX : Below W.heap.size W X := by rw [hX]; exact ((Below.refl _ _).alloc (Nat.le_refl _) _).alloc (by omega) _
      have hvX : X.heap[W.heap.size + 1]? = some (.cells #[.int .i64 1, .int .i64 400, .int .i64 413, .int .i64 414, .int .i64 431, .int .i64 501, .int .i64 505] 3 (0, 0)) := by rw [hX, ← hs2]; exact heap_alloc_new _ _
      have hrX : X.heap[W.heap.size]? = some (.cells #[.string (str []), .string (str []), .slice hp 0 hc, .slice bp 0 bc] 38 (0, 0)) := by rw [hX, Below.heap_alloc _ _ _ (by omega), ho]; exact heap_alloc_new W _
      have HC := hide (contains_in (some ⟨W.heap.size + 1, 0, none⟩) 7 [1, 400, 413, 414, 431, 501, 505] (st : Int) X (fun _ => ⟨W.heap.size + 1, 0, rfl, fun i z hz => by
        rw [cell_of_row _ _ _ _ _ _ hvX, Nat.zero_add]
        show ([(1 : Int), 400, 413, 414, 431, 501, 505].map (Value.int .i64)).toArray[i]? = _
        rw [List.getElem?_toArray, List.getElem?_map, hz]
        rfl⟩) (by decide) (unhide HMM))
      have HEX : Hid (EnvH X) := ((unhide HE).below (unhide HB)).below hbX
      have HBX : Hid (Below w.heap.size w X) := (unhide HB).trans (hbX.mono (unhide HB).size)
      have q0 : X.cell? ⟨W.heap.size, 0, none⟩ = some (.string (str [])) := cell_of_row _ _ _ _ _ _ hrX
      have q1 : X.cell? ⟨W.heap.size, 1, none⟩ = some (.string (str [])) := cell_of_row _ _ _ _ _ _ hrX
      have q2 : X.cell? ⟨W.heap.size, 2, none⟩ = some (.slice hp 0 hc) := cell_of_row _ _ _ _ _ _ hrX
      have q3 : X.cell? ⟨W.heap.size, 3, none⟩ = some (.slice bp 0 bc) := cell_of_row _ _ _ _ _ _ hrX
      have HHB : Hid (HdR X hp [] ∧ Bs X bp bc []) := ⟨(unhide HR).hdr.below hbX (Nat.le_refl _), (unhide HR).own.toBs.below hbX (Nat.le_refl _)⟩
      rw [ho] at hX
      go_wp2_with fail
      rw [← hX]
      clear hX ho hs2 hbX hvX hrX o HR HE H1 HB HMM
      refine (unhide HC).mono ?_
      rintro e X' ⟨rfl, rfl⟩
      clear HC
      go_wp2_with fail
      refine (same_eq [] [] [] [] hp none bp none hc 0 bc 0 X' (unhide HHB).1 ⟨fun h => absurd rfl h, Nat.zero_le _⟩ (unhide HHB).2 ⟨fun h => absurd rfl h, Nat.zero_le _, Nat.zero_le _, fun _ => rfl⟩ (by decide) (by decide)).mono ?_
      rintro e V ⟨rfl, HBV⟩
      have HAW := hide (awake8_any V ((unhide HEX).below (unhide HBV)))
      have HVV : Hid (Below w.heap.size w V) := (unhide HBX).trans ((unhide HBV).mono (unhide HBX).size)
      clear q0 q1 q2 q3
      go_wp2_with fail
      refine (unhide HAW).mono ?_
      rintro e V2 ⟨rfl, HB2⟩
      go_wp2_with fail
      go_ret
      exact ⟨rfl, hide ((unhide HVV).trans ((unhide HB2).mono (unhide HVV).size))⟩
  · have g1 : (262144 : Int) < (b.length : Int) := by omega
    go_enter Tryz.func8, Tryz.ntmps8
    go_wp2_with fail
    refine (unhide HAW).mono ?_
    rintro e V2 ⟨rfl, HB2⟩
    go_wp2_with fail
    go_ret
    exact ⟨rfl, HB2⟩
theorem httpdOneOf_walk (a0 : Option Addr) (c0 : Nat) (l0 : List UInt8) (w : World) (h0 : Bs w a0 c0 l0) (hE : EnvH w) :
    Calls Tryz.prog 8 #[.slice a0 l0.length c0] w fun e w' => e = .returned (.bool true) ∧ Below w.heap.size w w' :=
  (oneOf_any w hE a0 c0 l0 h0).mono fun e w' h => ⟨h.1, unhide h.2⟩
#print axioms httpdOneOf_walk
end Go.Proofs.YthkadboeokgjnabGreatDoor
end
