/-
  jsonx: the document's own text of a list.; jsonx as mathematics: the document's own way to the members' order: the least of those that are not done.; jsonx: a row of bools of one's own: make, what is read, what is written.; jsonx: texts' order as the program tells it.; jsonx: the document's own text of an object: an object.; jsonx: the document's own text of every value that can be.
-/
import Derived.Test.YtbnbngmnoffmkaaGreatDoorPkJetsbr
import Derived.Deep.RegionLaw
import Derived.Test.YtbnbngmnoffmkaaGreatDoorPkJetsba
import Derived.Laws.OwnMore
section
set_option linter.unusedVariables false
set_option maxRecDepth 1000000
namespace Go.Proofs.YtbnbngmnoffmkaaGreatDoor
open Go.RowKit

theorem joF_step {l : List (List UInt8)} {q : Nat} {x : List UInt8} (h : l[q]? = some x) : joF true (l.take (q + 1)) = joF true (l.take q) ++ (if q = 0 then [] else [44]) ++ x := by
  rw [List.take_add_one, h]
  simp only [Option.toList_some]
  rw [joF_snoc]
  have hl := (List.getElem?_eq_some_iff.1 h).1
  by_cases e : q = 0
  · subst e; simp
  · have : (l.take q).isEmpty = false := by
      rw [List.isEmpty_eq_false_iff]
      intro k
      have h2 : (l.take q).length = 0 := by rw [k]; rfl
      rw [List.length_take] at h2
      omega
    rw [this, if_neg e]
    rfl
set_option maxHeartbeats 8000000 in
theorem text_list (n : Nat) (i : Int) (t : List UInt8) (ns : List (List UInt8)) (is : List Js) (hrec : ∀ x ∈ is, TxJ n x) : TxJ (n + 1) (.mk 4 i t ns is) := by
  intro S v w hJ hS hck hz hlen
  obtain ⟨hw, _, h45⟩ := ck_zero (n + 1) 4 i t ns is hck
  obtain ⟨m', e, hit⟩ := h45 (.inl rfl)
  obtain rfl : n = m' := Nat.succ.inj e
  obtain ⟨rfl, rfl, rfl⟩ := wf4 hw rfl
  simp only [JV] at hJ
  obtain ⟨a1, c1, a2, c2, rfl, _, _, _, _, _, _, _, hIt⟩ := hJ
  simp only [Sz] at hz
  obtain ⟨_, _, _, hz4, _, hz6⟩ := hz
  have hE : prN (n + 1) (.mk 4 0 [] [] is) = [91] ++ joF true (is.map (prN n)) ++ [93] := pr4 (prN n) 0 [] [] is
  rw [hE] at hlen ⊢
  have hL9 : (joF true (is.map (prN n))).length ≤ 1000000000000 := by simp at hlen; omega
  obtain ⟨V, hV⟩ : ∃ V, V = w.heap.size := ⟨_, rfl⟩
  obtain ⟨W, hW⟩ : ∃ W, W = w.alloc (.cells #[.int .i64 4, .int .i64 0, .string (str []), .slice a1 0 c1, .slice a2 is.length c2] 25) := ⟨_, rfl⟩
  have bW : Below w.heap.size w W := by rw [hW]; exact (Below.refl _ _).alloc (Nat.le_refl _) _
  have rW : W.heap[V]? = some (.cells #[.int .i64 4, .int .i64 0, .string (str []), .slice a1 0 c1, .slice a2 is.length c2] 25 (0, 0)) := by rw [hW, hV]; exact heap_alloc_new _ _
  obtain ⟨p0, p1, p2, p3, p4⟩ := cells5 rW
  obtain ⟨m, hm⟩ : ∃ m, m = is.length := ⟨_, rfl⟩
  have HM := hide hm
  rw [← hm] at p4 hz4
  have HbW := hide bW
  have HI := hide hIt
  have HS := hide hS
  have HZ6 := hide hz6
  have HIT := hide hit
  have HREC := hide hrec
  have HL9 := hide hL9
  obtain ⟨FIN, hFIN⟩ : ∃ FIN, FIN = joF true (is.map (prN n)) := ⟨_, rfl⟩
  rw [← hFIN]
  have HFIN := hide hFIN
  have HWS : Hid (W.heap.size = w.heap.size + 1) := by show _ = _; rw [hW]; simp
  have HW := hide hW
  have HV := hide hV
  have HB0 : Hid (Below W.heap.size W W) := Below.refl _ _
  clear hw hck h45 e hit hIt hS hz6 hE hlen hL9 bW rW hm hrec hFIN hW hV
  go_enter Tryz.func27, Tryz.ntmps27
  go_upto_region 1 with fail
  rw [← unhide HW, ← unhide HV]
  clear HW HV
  go_wp2_with fail
  clear p0 p1 p2 p3 p4
  go_loopw [37, 3] (fun v s wr => ∃ (q : Nat) (acc : List UInt8), q ≤ m ∧ v = .int .i64 (q : Int) ∧ s = .string (str acc) ∧ Hid (acc = joF true ((is.map (prN n)).take q)) ∧ Hid (Below W.heap.size W wr)) (fun v _ _ => m - (intOf v).toNat)
  case atStart => exact ⟨0, [], Nat.zero_le _, rfl, rfl, by show _ = _; simp [joF], HB0⟩
  case round =>
    obtain ⟨q, acc, hq, rfl, rfl, HQ, HB⟩ := hrel
    by_cases hlt : q < m
    · have hlt' : (q : Int) < (m : Int) := by omega
      obtain ⟨jj, hjj⟩ : ∃ jj, is[q]? = some jj := ⟨_, List.getElem?_eq_getElem (by rw [← unhide HM]; exact hlt)⟩
      have hmem := List.mem_of_getElem? hjj
      have hst := joF_step (l := is.map (prN n)) (q := q) (x := prN n jj) (by rw [List.getElem?_map, hjj]; rfl)
      have hle := joF_le (is.map (prN n)) (q + 1)
      rw [hst, ← unhide HQ] at hle
      rw [← unhide HQ] at hst
      have hB2 := (unhide HbW).trans ((unhide HB).mono (unhide HbW).size)
      have hel := ((jvs_iff w S a2 is 0).1 (unhide HI) q jj hjj).keep (S' := S) (w' := wr) (fun k hk => ⟨hk, hB2.block k (unhide HS k hk)⟩)
      rw [Nat.zero_add] at hel
      obtain ⟨B, off, v0, v1, v2, v3, v4, rfl, hSb, g0, g1, g2, g3, g4, hj⟩ := hel
      obtain ⟨jk, jn, jt, ja1, jn1, jc1, ja2, jn2, jc2, e⟩ := hj.form
      simp only [Value.agg.injEq, Array.mk.injEq, List.cons.injEq, and_true] at e
      obtain ⟨rfl, rfl, rfl, rfl, rfl⟩ := e
      obtain ⟨Z, hZ⟩ : ∃ Z, Z = wr.heap.size := ⟨_, rfl⟩
      obtain ⟨U, hU⟩ : ∃ U, U = wr.alloc (.cells #[.int .i64 jk, .int .i64 jn, .string (str jt), .slice ja1 jn1 jc1, .slice ja2 jn2 jc2] 25) := ⟨_, rfl⟩
      have bU : Below wr.heap.size wr U := by rw [hU]; exact (Below.refl _ _).alloc (Nat.le_refl _) _
      have rU : U.heap[Z]? = some (.cells #[.int .i64 jk, .int .i64 jn, .string (str jt), .slice ja1 jn1 jc1, .slice ja2 jn2 jc2] 25 (0, 0)) := by rw [hU, hZ]; exact heap_alloc_new _ _
      have HBU : Hid (Below W.heap.size W U) := (unhide HB).trans (bU.mono (unhide HB).size)
      have hpl : (prN n jj).length ≤ 1000000000000 := by have := unhide HL9; simp only [List.length_append] at hle; omega
      have HC := hide (unhide HREC jj hmem S _ U (JV.keep (w := wr) (w' := U) (fun y hy => ⟨hy, bU.block y (Nat.lt_of_lt_of_le (unhide HS y hy) hB2.size)⟩) _ _ hj) (fun y hy => Nat.lt_of_lt_of_le (unhide HS y hy) (Nat.le_trans hB2.size bU.size)) (unhide HIT jj hmem) ((szs_iff is).1 (unhide HZ6) jj hmem) hpl)
      obtain ⟨PX, hPX⟩ : ∃ PX, PX = prN n jj := ⟨_, rfl⟩
      rw [← hPX] at HC hst hle hpl
      have HAL : Hid (acc.length + 1 + PX.length ≤ 2000000000000) := by show _ ≤ _; have := unhide HL9; simp only [List.length_append] at hle; omega
      obtain ⟨d0, d1, d2, d3, d4⟩ := cells5 rU
      have HST := hide hst
      clear hjj hmem hst hle hB2 hSb hj bU rU hpl hPX HQ
      go_upto_region 15 with fail
      rw [← hU, ← hZ]
      clear hU hZ g0 g1 g2 g3 g4
      by_cases hq0 : q = 0
      · have hq1 : ¬ (0 : Int) < (q : Int) := by omega
        have HS2 : Hid (joF true ((is.map (prN n)).take (q + 1)) = acc ++ PX) := by show _ = _; rw [unhide HST, if_pos hq0]; simp
        have kb : ∀ w, (Op.stringOp .add (str acc) (str PX)).run Tryz.prog w = .ok (.string (str (acc ++ PX))) w := fun w => by
          rw [← str_appJ acc PX]; exact run_string_add_sum w _ _ (by rw [str_size, str_size]; have := unhide HAL; omega)
        have za : (str acc).size = acc.length := str_size acc
        have zp : (str PX).size = PX.length := str_size PX
        clear hq0 HST
        go_wp2_with fail
        refine (unhide HC).mono ?_
        rintro e w5 ⟨rfl, hb5⟩
        have HB5 : Hid (Below W.heap.size W w5) := (unhide HBU).trans ((unhide hb5).mono (unhide HBU).size)
        clear HC hb5 d0 d1 d2 d3 d4
        go_wp2_with fail
        go_roundw
        case rel => exact ⟨q + 1, _, by omega, by go_num, rfl, (unhide HS2).symm, HB5⟩
        case measure => simp [intOf]; omega
      · have hq1 : (0 : Int) < (q : Int) := by omega
        have HS2 : Hid (joF true ((is.map (prN n)).take (q + 1)) = acc ++ 44 :: PX) := by show _ = _; rw [unhide HST, if_neg hq0]; simp
        have ka : ∀ w, (Op.stringOp .add (str acc) (⟨#[44]⟩ : ByteArray)).run Tryz.prog w = .ok (.string (str (acc ++ [44]))) w := fun w => by
          rw [← show str acc ++ (⟨#[44]⟩ : ByteArray) = str (acc ++ [44]) from str_appJ acc [44]]; exact run_string_add_sum w _ _ (by rw [str_size]; show _ + 1 ≤ _; have := unhide HAL; omega)
        have kb : ∀ w, (Op.stringOp .add (str (acc ++ [44])) (str PX)).run Tryz.prog w = .ok (.string (str (acc ++ 44 :: PX))) w := fun w => by
          rw [show acc ++ 44 :: PX = (acc ++ [44]) ++ PX by simp, ← str_appJ (acc ++ [44]) PX]; exact run_string_add_sum w _ _ (by rw [str_size, str_size]; have := unhide HAL; simp; omega)
        clear hq0 HST
        go_wp2_with fail
        refine (unhide HC).mono ?_
        rintro e w5 ⟨rfl, hb5⟩
        have HB5 : Hid (Below W.heap.size W w5) := (unhide HBU).trans ((unhide hb5).mono (unhide HBU).size)
        clear HC hb5 d0 d1 d2 d3 d4
        go_wp2_with fail
        go_roundw
        case rel => exact ⟨q + 1, _, by omega, by go_num, rfl, (unhide HS2).symm, HB5⟩
        case measure => simp [intOf]; omega
    · have hlt' : ¬ (q : Int) < (m : Int) := by omega
      have HE : Hid (acc = FIN) := by
        show _ = _
        rw [unhide HQ, unhide HFIN, List.take_of_length_le (by rw [List.length_map, ← unhide HM]; omega)]
      have hal : acc.length ≤ 1000000000000 := by rw [unhide HE, unhide HFIN]; exact unhide HL9
      have ka : ∀ w, (Op.stringOp .add (⟨#[91]⟩ : ByteArray) (str acc)).run Tryz.prog w = .ok (.string (str (91 :: acc))) w := fun w => by
        rw [← show (⟨#[91]⟩ : ByteArray) ++ str acc = str (91 :: acc) from str_appJ [91] acc]; exact run_string_add_sum w _ _ (by rw [str_size]; show 1 + _ ≤ _; omega)
      have kb : ∀ w, (Op.stringOp .add (str (91 :: acc)) (⟨#[93]⟩ : ByteArray)).run Tryz.prog w = .ok (.string (str (91 :: (acc ++ [93])))) w := fun w => by
        rw [← show str (91 :: acc) ++ (⟨#[93]⟩ : ByteArray) = str (91 :: (acc ++ [93])) from str_appJ (91 :: acc) [93]]; exact run_string_add_sum w _ _ (by rw [str_size]; show _ + 1 ≤ _; simp; omega)
      have HF : Hid (Below w.heap.size w wr) := (unhide HbW).trans ((unhide HB).mono (unhide HbW).size)
      clear hlt hal
      go_wp2_with fail
      go_ret
      rw [← unhide HE]
      exact ⟨rfl, HF⟩
#print axioms text_list
end Go.Proofs.YtbnbngmnoffmkaaGreatDoor
end
section
set_option linter.unusedVariables false
set_option maxRecDepth 1000000
namespace Go.Proofs.YtbnbngmnoffmkaaGreatDoor
open Go.RowKit

/-- The least of the first i that are not in D. -/
def LsI (ns : List (List UInt8)) (D : List Nat) (i : Nat) : Option Nat → Prop
  | none => ∀ k, k < i → k ∈ D
  | some l => l < i ∧ l ∉ D ∧ ∀ k, k < i → k ∉ D → ¬ nmA ns k < nmA ns l
theorem ls_zero (ns : List (List UInt8)) (D : List Nat) : LsI ns D 0 none := fun k hk => absurd hk (Nat.not_lt_zero k)
theorem ls_done {ns : List (List UInt8)} {D : List Nat} {i : Nat} {L : Option Nat} (h : LsI ns D i L) (hi : i ∈ D) : LsI ns D (i + 1) L := by
  cases L with
  | none =>
    intro k hk
    by_cases e : k = i
    · rw [e]; exact hi
    · exact h k (by omega)
  | some l =>
    obtain ⟨h1, h2, h3⟩ := h
    refine ⟨by omega, h2, fun k hk hn => ?_⟩
    by_cases e : k = i
    · rw [e] at hn; exact absurd hi hn
    · exact h3 k (by omega) hn
theorem ls_first {ns : List (List UInt8)} {D : List Nat} {i : Nat} (h : LsI ns D i none) (hi : i ∉ D) : LsI ns D (i + 1) (some i) := by
  refine ⟨by omega, hi, fun k hk hn => ?_⟩
  by_cases e : k = i
  · rw [e]; exact List.lt_irrefl _
  · exact absurd (h k (by omega)) hn
theorem ls_less {ns : List (List UInt8)} {D : List Nat} {i l : Nat} (h : LsI ns D i (some l)) (hi : i ∉ D) (hlt : nmA ns i < nmA ns l) : LsI ns D (i + 1) (some i) := by
  obtain ⟨h1, h2, h3⟩ := h
  refine ⟨by omega, hi, fun k hk hn => ?_⟩
  by_cases e : k = i
  · rw [e]; exact List.lt_irrefl _
  · exact fun hki => h3 k (by omega) hn (List.lt_trans hki hlt)
theorem ls_keep {ns : List (List UInt8)} {D : List Nat} {i l : Nat} (h : LsI ns D i (some l)) (hge : ¬ nmA ns i < nmA ns l) : LsI ns D (i + 1) (some l) := by
  obtain ⟨h1, h2, h3⟩ := h
  refine ⟨by omega, h2, fun k hk hn => ?_⟩
  by_cases e : k = i
  · rw [e]; exact hge
  · exact h3 k (by omega) hn
theorem ord_nodup (ns : List (List UInt8)) : (ordS ns).Nodup := (ordS_ris ns).1.nodup_iff.2 List.nodup_range
theorem ls_end {ns : List (List UInt8)} (nd : ns.Nodup) {q : Nat} (hq : q < ns.length) {L : Option Nat} (h : LsI ns ((ordS ns).take q) ns.length L) : L = (ordS ns)[q]? := by
  have hr := ordS_ris ns
  have hn := ord_nodup ns
  generalize ordS ns = o at hr hn h ⊢
  have hl := hr.len
  have hqo : q < o.length := by omega
  have hnot : o[q] ∉ o.take q := by
    intro hm
    obtain ⟨j, hj, e⟩ := List.mem_take_iff_getElem.1 hm
    have := List.pairwise_iff_getElem.1 hn j q (by omega) hqo (by omega)
    exact this e
  have hlt := hr.lt o[q] (List.getElem_mem hqo)
  rw [List.getElem?_eq_getElem hqo]
  cases L with
  | none => exact absurd (h _ hlt) hnot
  | some l =>
    obtain ⟨h1, h2, h3⟩ := h
    congr 1
    have hlo : l ∈ o := hr.1.mem_iff.2 (List.mem_range.2 h1)
    obtain ⟨p, hp, e⟩ := List.getElem_of_mem hlo
    have hpq : q ≤ p := by
      rcases Nat.lt_or_ge p q with k | k
      · exact absurd (List.mem_take_iff_getElem.2 ⟨p, by omega, e⟩) h2
      · exact k
    by_cases epq : p = q
    · subst epq; exact e.symm
    · have k1 := List.pairwise_iff_getElem.1 hr.2 q p hqo hp (by omega)
      have k2 := h3 _ hlt hnot
      unfold leN at k1
      rw [e] at k1
      rw [List.not_lt] at k1 k2
      exact nmA_inj nd h1 hlt (List.le_antisymm k2 k1)
/-- What is done, told by a row of bools. -/
def BdI (D : List Nat) (g : Nat) (bd : List Bool) : Prop := bd.length = g ∧ ∀ k, k < g → bd[k]? = some (decide (k ∈ D))
theorem bd_zero (g : Nat) : BdI [] g (List.replicate g false) := ⟨List.length_replicate, fun k hk => by simp [hk]⟩
theorem bd_step {D : List Nat} {g l : Nat} {bd : List Bool} (h : BdI D g bd) (hl : l < g) : BdI (D ++ [l]) g (bd.set l true) := by
  refine ⟨by rw [List.length_set]; exact h.1, fun k hk => ?_⟩
  by_cases e : k = l
  · subst e
    rw [List.getElem?_set_self (by rw [h.1]; exact hk)]
    simp
  · rw [List.getElem?_set_ne (fun x => e x.symm), h.2 k hk]
    simp [e]
theorem ord_step {ns : List (List UInt8)} {q l : Nat} (h : (ordS ns)[q]? = some l) : (ordS ns).take (q + 1) = (ordS ns).take q ++ [l] := by
  rw [List.take_add_one, h]
  rfl
#print axioms ls_end
#print axioms bd_step
end Go.Proofs.YtbnbngmnoffmkaaGreatDoor
end
section
set_option linter.unusedVariables false
set_option maxRecDepth 1000000
namespace Go.Proofs.YtbnbngmnoffmkaaGreatDoor
open Go.RowKit

/-- A row of bools, all of a block. -/
def BlR (w : World) (G : Nat) (bd : List Bool) : Prop := w.heap[G]? = some (.cells (bd.map Value.bool).toArray 4 (0, 0))
theorem Tryz.infoBo : (Tryz.prog.info? 4).map (fun i => (i.zero, i.size, i.bytes)) = some (some (.bool false), 1, 1) := by kernel_rfl
/-- make([]bool, n). -/
theorem mkB4 (n : Nat) (hn : n ≤ 1000000) : ∀ W : World, (Instr.makeSlice 87 (.int .i64 (n : Int)) (.int .i64 (n : Int))).run Tryz.prog W = .ok (.slice (some ⟨W.heap.size, 0, none⟩) n n) (W.alloc (.cells ((List.replicate n false).map Value.bool).toArray 4)) := by
  obtain ⟨i0, hi, hz0, hz1, hz2⟩ := info_parts Tryz.infoBo
  intro W
  have h := run_make (P := Tryz.prog) W 87 4 i0 _ Tryz.underlying87 hi hz0 .i64 .i64 (n : Int) (n : Int) (by omega) (by omega) (by rw [hz2]; omega) (by omega)
  have e : madeCells (Value.bool false).cells (((n : Nat) : Int).toNat * i0.size) = ((List.replicate n false).map Value.bool).toArray := by
    apply Array.ext'
    rw [hz1, show ((n : Nat) : Int).toNat * 1 = n by omega]
    have := toList_madeCells_one (Value.bool false) n
    rw [List.map_replicate]
    exact this
  rw [e] at h
  simpa using h
theorem BlR.lt {w : World} {G : Nat} {bd : List Bool} (h : BlR w G bd) : G < w.heap.size := (Array.getElem?_eq_some_iff.1 h).1
theorem BlR.cell {w : World} {G : Nat} {bd : List Bool} (h : BlR w G bd) {k : Nat} {b : Bool} (hk : bd[k]? = some b) : w.cell? ⟨G, k, none⟩ = some (.bool b) ∧ w.frozen? ⟨G, k, none⟩ = false := by
  refine ⟨?_, frozen_of_row w G k _ _ h⟩
  rw [cell_of_row w G k _ _ (0, 0) h]
  simp [hk]
theorem BlR.keep {w w' : World} {G : Nat} {bd : List Bool} (h : BlR w G bd) (e : w'.heap[G]? = w.heap[G]?) : BlR w' G bd := e.trans h
theorem BlR.set {w : World} {G : Nat} {bd : List Bool} (h : BlR w G bd) (k : Nat) : BlR (w.setCell ⟨G, k, none⟩ (.bool true)) G (bd.set k true) := by
  unfold BlR
  rw [heap_setCell_same _ _ _ _ _ _ h]
  congr 2
  apply Array.ext'
  simp [List.map_set]
#print axioms BlR.set
end Go.Proofs.YtbnbngmnoffmkaaGreatDoor
end
section
set_option linter.unusedVariables false
namespace Go.Proofs.YtbnbngmnoffmkaaGreatDoor
open Go.RowKit

theorem byl_lt : ∀ x y : List UInt8, Go.Op.bytesLess x y = decide (x < y)
  | [], [] => by simp [Go.Op.bytesLess]
  | a :: x, [] => by simp [Go.Op.bytesLess]
  | [], b :: y => by simp [Go.Op.bytesLess]
  | a :: x, b :: y => by
    have h := byl_lt x y
    simp only [Go.Op.bytesLess]
    rw [h]
    simp only [List.cons_lt_cons_iff]
    by_cases h1 : a < b
    · simp [h1]
    · by_cases h2 : a = b
      · simp [h2]
      · simp [h1, h2]
theorem byl_str (x y : List UInt8) : Go.Op.bytesLess (str x).toList (str y).toList = decide (x < y) := by rw [toList_str, toList_str, byl_lt]
#print axioms byl_str
end Go.Proofs.YtbnbngmnoffmkaaGreatDoor
end
section
set_option linter.unusedVariables false
set_option maxRecDepth 1000000
namespace Go.Proofs.YtbnbngmnoffmkaaGreatDoor
open Go.RowKit

/-- What the drawn region reads. -/
def OjS (V : Nat) (row : Obj) (B ob l : Nat) (x : Value) (B2 o : Nat) (v0 v1 v2 v3 v4 : Value) (u : World) : Prop := u.heap[V]? = some row ∧ u.cell? ⟨B, ob + l, none⟩ = some x ∧ u.cell? ⟨B2, o + l * 5, none⟩ = some v0 ∧ u.cell? ⟨B2, o + l * 5 + 1, none⟩ = some v1 ∧ u.cell? ⟨B2, o + l * 5 + 2, none⟩ = some v2 ∧ u.cell? ⟨B2, o + l * 5 + 3, none⟩ = some v3 ∧ u.cell? ⟨B2, o + l * 5 + 4, none⟩ = some v4
def lsV : Option Nat → Int
  | none => -1
  | some l => (l : Int)
set_option maxHeartbeats 4000000 in
theorem text_obj (n : Nat) (i : Int) (t : List UInt8) (ns : List (List UInt8)) (is : List Js) (hrec : ∀ x ∈ is, TxJ n x) : TxJ (n + 1) (.mk 5 i t ns is) := by
  intro S v w hJ hS hck hz hlen
  obtain ⟨hw, hnd, h45⟩ := ck_zero (n + 1) 5 i t ns is hck
  obtain ⟨m', e, hit⟩ := h45 (.inr rfl)
  obtain rfl : n = m' := Nat.succ.inj e
  obtain ⟨rfl, rfl, hnl, _⟩ := wf5 hw rfl
  simp only [JV] at hJ
  obtain ⟨a1, c1, a2, c2, rfl, hN, hnc, _, _, _, _, _, hIt⟩ := hJ
  simp only [Sz] at hz
  obtain ⟨_, _, hz3, hz4, hz5, hz6⟩ := hz
  have hE : prN (n + 1) (.mk 5 0 [] ns is) = [123] ++ joF true ((ordS ns).map (memP (prN n) ns is)) ++ [125] := pr5 (prN n) 0 [] ns is
  rw [hE] at hlen ⊢
  have HL9 : Hid ((joF true ((ordS ns).map (memP (prN n) ns is))).length ≤ 1000000000000) := by show _ ≤ _; simp at hlen; omega
  obtain ⟨FIN, hFIN⟩ : ∃ FIN, FIN = joF true ((ordS ns).map (memP (prN n) ns is)) := ⟨_, rfl⟩
  rw [← hFIN]
  have HFIN := hide hFIN
  have HI := hide hIt
  have HIT := hide hit
  have HREC := hide hrec
  have HZ5 := hide hz5
  have HZ6 := hide hz6
  clear hE hFIN hz5
  obtain ⟨V, hV⟩ : ∃ V, V = w.heap.size := ⟨_, rfl⟩
  obtain ⟨G, hG⟩ : ∃ G, G = w.heap.size + 1 := ⟨_, rfl⟩
  obtain ⟨g, hg⟩ : ∃ g, g = ns.length := ⟨_, rfl⟩
  have hg2 : is.length = g := by omega
  obtain ⟨W, hW⟩ : ∃ W, W = (w.alloc (.cells #[.int .i64 5, .int .i64 0, .string (str []), .slice a1 g c1, .slice a2 g c2] 25)).alloc (.cells (Array.replicate g (Value.bool false)) 4) := ⟨_, rfl⟩
  have bW : Below w.heap.size w W := by rw [hW]; exact ((Below.refl _ _).alloc (Nat.le_refl _) _).alloc (by simp) _
  have rW : W.heap[V]? = some (.cells #[.int .i64 5, .int .i64 0, .string (str []), .slice a1 g c1, .slice a2 g c2] 25 (0, 0)) := by rw [hW, hV, heap_alloc_old _ _ (by simp)]; exact heap_alloc_new _ _
  have rG : BlR W G (List.replicate g false) := by
    have e : ((List.replicate g false).map Value.bool).toArray = Array.replicate g (Value.bool false) := by simp
    show W.heap[G]? = _
    rw [e, hW, hG]
    have := heap_alloc_new (w.alloc (.cells #[.int .i64 5, .int .i64 0, .string (str []), .slice a1 g c1, .slice a2 g c2] 25)) (.cells (Array.replicate g (Value.bool false)) 4)
    simpa using this
  have hmk := mkB4 g (by omega)
  have HKV : Hid (∀ u, Mv W u G → u.heap[V]? = some (.cells #[.int .i64 5, .int .i64 0, .string (str []), .slice a1 g c1, .slice a2 g c2] 25 (0, 0))) := fun u hu => (hu.block V (Array.getElem?_eq_some_iff.1 rW).1 (fun e => by have := Option.some.inj e; omega)).trans rW
  have HG := hide hg
  have HG2 := hide hg2
  have HBW := hide bW
  have HRG := hide rG
  have HN := hide hN
  have HS := hide hS
  have HND := hide hnd
  have hg9 : g ≤ 100000 := by omega
  have HW := hide hW
  have HV := hide hV
  have HGG := hide hG
  have HGS : Hid (w.heap.size ≤ G) := by show _ ≤ _; omega
  have HMV0 : Hid (Mv W W G) := Mv.refl W G
  rw [hg2, ← hg]
  clear hw hck h45 e hit hIt hS hz6 hlen bW rW hrec hW hV hG hN hnd hg hg2 rG hnl hz3 hz4 hnc
  go_enter Tryz.func27, Tryz.ntmps27
  go_wp2_with fail
  rw [← unhide HW, ← unhide HGG, ← unhide HV]
  clear HW HGG HV
  have HO0 : Hid (BdI ((ordS ns).take 0) g (List.replicate g false)) := by show BdI _ _ _; rw [List.take_zero]; exact bd_zero g
  go_loopw [61, 6] (fun v s wr => ∃ (q : Nat) (acc : List UInt8) (bd : List Bool), q ≤ g ∧ v = .int .i64 (q : Int) ∧ s = .string (str acc) ∧ Hid (acc = joF true (((ordS ns).map (memP (prN n) ns is)).take q)) ∧ Hid (BlR wr G bd) ∧ Hid (BdI ((ordS ns).take q) g bd) ∧ Hid (Mv W wr G)) (fun v _ _ => g - (intOf v).toNat)
  case atStart => exact ⟨0, [], _, Nat.zero_le _, rfl, rfl, by show _ = _; simp [joF], HRG, HO0, HMV0⟩
  case round =>
    obtain ⟨q, acc, bd, hq, rfl, rfl, HQ, HBl, HBd, HM⟩ := hrel
    by_cases hlt : q < g
    · have hlt' : (q : Int) < (g : Int) := by omega
      obtain ⟨p0, p1, p2, p3, p4⟩ := cells5 (unhide HKV wr (unhide HM))
      have HL0 : Hid (LsI ns ((ordS ns).take q) 0 none) := ls_zero _ _
      go_wp2_with fail
      clear p0 p1 p2 p3 p4
      go_loopw [67, 9] (fun v o wx => ∃ (p : Nat) (L : Option Nat), p ≤ g ∧ v = .int .i64 (p : Int) ∧ o = .int .i64 (lsV L) ∧ Hid (LsI ns ((ordS ns).take q) p L) ∧ Hid (BlR wx G bd) ∧ Hid (Mv W wx G)) (fun v _ _ => g - (intOf v).toNat)
      case atStart => exact ⟨0, none, Nat.zero_le _, rfl, rfl, HL0, HBl, HM⟩
      case round =>
        obtain ⟨p, L, hp, rfl, rfl, HL, HBx, HMx⟩ := hrel
        by_cases hpl : p < g
        · have hpl' : (p : Int) < (g : Int) := by omega
          have hbp := (unhide HBd).2 p hpl
          obtain ⟨cb, _⟩ := (unhide HBx).cell hbp
          obtain ⟨p0, p1, p2, p3, p4⟩ := cells5 (unhide HKV wr (unhide HMx))
          have HBy : ∀ k, Hid (BlR (wr.drewN k) G bd) := fun k => HBx
          have HMy : ∀ k, Hid (Mv W (wr.drewN k) G) := fun k => hide ⟨(unhide HMx).os, (unhide HMx).tape, (unhide HMx).output, (unhide HMx).size, (unhide HMx).block⟩
          by_cases hd : p ∈ (ordS ns).take q
          · rw [decide_eq_true hd] at cb
            have HL1 := hide (ls_done (unhide HL) hd)
            clear hd hbp HL p0 p1 p2 p4
            go_wp2_with fail
            go_quiet (fail)
            go_wp2_with fail
            go_roundw
            case rel => exact ⟨p + 1, L, by omega, by go_num, rfl, HL1, HBy _, HMy _⟩
            case measure => simp [intOf]; omega
          · rw [decide_eq_false hd] at cb
            cases L with
            | none =>
              have HL1 := hide (ls_first (unhide HL) hd)
              simp only [lsV]
              clear hd hbp HL p0 p1 p2 p4
              go_wp2_with fail
              go_quiet (fail)
              go_wp2_with fail
              go_roundw
              case rel => exact ⟨p + 1, some p, by omega, by go_num, rfl, HL1, HBy _, HMy _⟩
              case measure => simp [intOf]; omega
            | some l =>
              obtain ⟨hlp, hln, _⟩ := unhide HL
              have hlg : (l : Int) < (g : Int) := by omega
              have hl0 : ¬ (l : Int) < 0 := by omega
              have hne : ns ≠ [] := fun e => by have := unhide HG; rw [e] at this; simp at this; omega
              have kx : ∀ k, S k → wr.heap[k]? = w.heap[k]? := fun k hk => ((unhide HMx).block k (Nat.lt_of_lt_of_le (unhide HS k hk) (unhide HBW).size) (fun e => by have := Option.some.inj e; have := unhide HS k hk; have := unhide HGS; omega)).trans ((unhide HBW).block k (unhide HS k hk))
              obtain ⟨B, ob, rfl, hSB, hBc⟩ := ((unhide HN).keep (S' := S) (w' := wr) (fun k hk => ⟨hk, kx k hk⟩)) hne
              obtain ⟨x, hx⟩ : ∃ x, ns[p]? = some x := ⟨_, List.getElem?_eq_getElem (by rw [← unhide HG]; exact hpl)⟩
              obtain ⟨y, hy⟩ : ∃ y, ns[l]? = some y := ⟨_, List.getElem?_eq_getElem (by rw [← unhide HG]; omega)⟩
              have cx := hBc p x hx
              have cy := hBc l y hy
              have ex : nmA ns p = x := by unfold nmA; rw [List.getD_eq_getElem?_getD, hx]; rfl
              have ey : nmA ns l = y := by unfold nmA; rw [List.getD_eq_getElem?_getD, hy]; rfl
              simp only [lsV]
              by_cases hxy : x < y
              · have HL1 := hide (ls_less (unhide HL) hd (by rw [ex, ey]; exact hxy))
                have e1 : Go.Op.bytesLess (str x).toList (str y).toList = true := by rw [byl_str]; exact decide_eq_true hxy
                clear hd hbp HL p0 p1 p2 p4 hne kx hSB hBc hx hy ex ey hlp hln
                go_wp2_with fail
                go_quiet (fail)
                go_wp2_with fail
                go_roundw
                case rel => exact ⟨p + 1, some p, by omega, by go_num, rfl, HL1, HBy _, HMy _⟩
                case measure => simp [intOf]; omega
              · have HL1 := hide (ls_keep (unhide HL) (by rw [ex, ey]; exact hxy))
                have e1 : Go.Op.bytesLess (str x).toList (str y).toList = false := by rw [byl_str]; exact decide_eq_false hxy
                clear hd hbp HL p0 p1 p2 p4 hne kx hSB hBc hx hy ex ey hlp hln
                go_wp2_with fail
                go_quiet (fail)
                go_wp2_with fail
                go_roundw
                case rel => exact ⟨p + 1, some l, by omega, by go_num, rfl, HL1, HBy _, HMy _⟩
                case measure => simp [intOf]; omega
        · obtain ⟨l, hl⟩ : ∃ l, (ordS ns)[q]? = some l := ⟨_, List.getElem?_eq_getElem (by have := (ordS_ris ns).len; have := unhide HG; omega)⟩
          have hpg : p = g := by omega
          obtain rfl : L = some l := (ls_end (unhide HND) (by rw [← unhide HG]; exact hlt) (by rw [← unhide HG, ← hpg]; exact unhide HL)).trans hl
          obtain ⟨hlp, _, _⟩ := unhide HL
          have hlg : (l : Int) < (g : Int) := by omega
          have hl0 : (0 : Int) ≤ (l : Int) := by omega
          have hbp := (unhide HBd).2 l (by omega)
          obtain ⟨cb, fb⟩ := (unhide HBx).cell hbp
          have HB2 : Hid (BdI ((ordS ns).take (q + 1)) g (bd.set l true)) := by show BdI _ _ _; rw [ord_step hl]; exact bd_step (unhide HBd) (by omega)
          obtain ⟨X, hX⟩ : ∃ X, X = wr.setCell ⟨G, l, none⟩ (.bool true) := ⟨_, rfl⟩
          have HBX : Hid (BlR X G (bd.set l true)) := by rw [hX]; exact (unhide HBx).set l
          have HMX : Hid (Mv W X G) := by rw [hX]; exact (unhide HMx).trans (Mv.set _ _ _ _)
          have hne : ns ≠ [] := fun e => by have := unhide HG; rw [e] at this; simp at this; omega
          have kx : ∀ k, S k → X.heap[k]? = w.heap[k]? := fun k hk => ((unhide HMX).block k (Nat.lt_of_lt_of_le (unhide HS k hk) (unhide HBW).size) (fun e => by have := Option.some.inj e; have := unhide HS k hk; have := unhide HGS; omega)).trans ((unhide HBW).block k (unhide HS k hk))
          have hSX : ∀ k, S k → k < X.heap.size := fun k hk => Nat.lt_of_lt_of_le (Nat.lt_of_lt_of_le (unhide HS k hk) (unhide HBW).size) (unhide HMX).size
          obtain ⟨B, ob, rfl, hSB, hBc⟩ := ((unhide HN).keep (S' := S) (w' := X) (fun k hk => ⟨hk, kx k hk⟩)) hne
          obtain ⟨x, hx⟩ : ∃ x, ns[l]? = some x := ⟨_, List.getElem?_eq_getElem (by rw [← unhide HG]; omega)⟩
          have cx := hBc l x hx
          obtain ⟨jj, hjj⟩ : ∃ jj, is[l]? = some jj := ⟨_, List.getElem?_eq_getElem (by rw [unhide HG2]; omega)⟩
          have hmem := List.mem_of_getElem? hjj
          have hel := ((jvs_iff w S a2 is 0).1 (unhide HI) l jj hjj).keep (S' := S) (w' := X) (fun k hk => ⟨hk, kx k hk⟩)
          rw [Nat.zero_add] at hel
          obtain ⟨B2, o2, v0, v1, v2, v3, v4, rfl, hSb, g0, g1, g2, g3, g4, hj⟩ := hel
          obtain ⟨jk, jn, jt, ja1, jn1, jc1, ja2, jn2, jc2, e⟩ := hj.form
          simp only [Value.agg.injEq, Array.mk.injEq, List.cons.injEq, and_true] at e
          obtain ⟨rfl, rfl, rfl, rfl, rfl⟩ := e
          have kv : X.heap[V]? = some (.cells #[.int .i64 5, .int .i64 0, .string (str []), .slice (some ⟨B, ob, none⟩) g c1, .slice (some ⟨B2, o2, none⟩) g c2] 25 (0, 0)) := unhide HKV X (unhide HMX)
          have HSX : Hid (∀ u, Below X.heap.size X u → OjS V (.cells #[.int .i64 5, .int .i64 0, .string (str []), .slice (some ⟨B, ob, none⟩) g c1, .slice (some ⟨B2, o2, none⟩) g c2] 25 (0, 0)) B ob l (.string (str x)) B2 o2 (.int .i64 jk) (.int .i64 jn) (.string (str jt)) (.slice ja1 jn1 jc1) (.slice ja2 jn2 jc2) u) := fun u hu => ⟨(hu.block V (Array.getElem?_eq_some_iff.1 kv).1).trans kv, cell_keep (hu.block B (hSX B hSB)) cx, cell_keep (hu.block B2 (hSX B2 hSb)) g0, cell_keep (hu.block B2 (hSX B2 hSb)) g1, cell_keep (hu.block B2 (hSX B2 hSb)) g2, cell_keep (hu.block B2 (hSX B2 hSb)) g3, cell_keep (hu.block B2 (hSX B2 hSb)) g4⟩
          have hst := joF_step (l := (ordS ns).map (memP (prN n) ns is)) (q := q) (x := memP (prN n) ns is l) (by rw [List.getElem?_map, hl]; rfl)
          have ex : nmA ns l = x := by unfold nmA; rw [List.getD_eq_getElem?_getD, hx]; rfl
          have ej : is.getD l Js.nul = jj := by rw [List.getD_eq_getElem?_getD, hjj]; rfl
          have hle := joF_le ((ordS ns).map (memP (prN n) ns is)) (q + 1)
          rw [hst, ← unhide HQ] at hle
          rw [← unhide HQ] at hst
          have em : memP (prN n) ns is l = quo x ++ [58] ++ prN n jj := by unfold memP; rw [ex, ej]
          rw [em] at hst hle
          have HAL : Hid (acc.length + (quo x).length + 2 + (prN n jj).length ≤ 2000000000000) := by show _ ≤ _; have := unhide HL9; simp only [List.length_append, List.length_singleton] at hle; omega
          have hpl : (prN n jj).length ≤ 1000000000000 := by have := unhide HL9; simp only [List.length_append, List.length_singleton] at hle; omega
          have HQT : Hid (∀ u : World, Calls Tryz.prog 57 #[.string (str x)] u fun e w' => e = .returned (.string (str (quo x))) ∧ Hid (Below u.heap.size u w')) := fun u => rquote_any x u (by have := unhide HZ5 x (List.mem_of_getElem? hx); omega)
          have HTT : Hid (∀ u, Below X.heap.size X u → Calls Tryz.prog 27 #[.agg #[.int .i64 jk, .int .i64 jn, .string (str jt), .slice ja1 jn1 jc1, .slice ja2 jn2 jc2]] u fun e w' => e = .returned (.string (str (prN n jj))) ∧ Hid (Below u.heap.size u w')) := fun u hu =>
            unhide HREC jj hmem S _ u (JV.keep (w := X) (w' := u) (fun y hy => ⟨hy, hu.block y (hSX y hy)⟩) _ _ hj) (fun y hy => Nat.lt_of_lt_of_le (hSX y hy) hu.size) (unhide HIT jj hmem) ((szs_iff is).1 (unhide HZ6) jj hmem) hpl
          have HST := hide hst
          generalize prN n jj = PX at HST HAL HTT
          generalize quo x = QX at HST HAL HQT
          obtain ⟨p0, p1, p2, p3, p4⟩ := cells5 (unhide HKV wr (unhide HMx))
          obtain ⟨i0, i1, i2, i3, i4⟩ := cells5 kv
          have HOM : Hid (∀ u, Below X.heap.size X u → BlR u G (bd.set l true) ∧ Mv W u G) := fun u hu => ⟨(unhide HBX).keep (hu.block G (unhide HBX).lt), (unhide HMX).bel hu (unhide HMX).size⟩
          simp only [lsV]
          clear hl hpg hlp hbp HBx HMx HBd HL HBl HM HL0 hne kx hSX hSB hBc hx cx hjj hmem hSb g0 g1 g2 g3 g4 hj kv hst ex ej hle em hpl p0 p1 p2 p4 i0 i1 i2 i3 i4 HQ
          go_upto_region 33 with fail
          rw [← hX]
          clear hX cb fb p3
          by_cases hq0 : q = 0
          · have hq1 : ¬ (0 : Int) < (q : Int) := by omega
            have HS2 : Hid (joF true (((ordS ns).map (memP (prN n) ns is)).take (q + 1)) = acc ++ QX ++ [58] ++ PX) := by show _ = _; rw [unhide HST, if_pos hq0]; simp
            have HAL2 : Hid (acc.length + QX.length + 1 + PX.length ≤ 2000000000000) := by show _ ≤ _; have := unhide HAL; omega
            clear hq0 HST
            obtain ⟨A2, hA2⟩ : ∃ A2, A2 = acc ++ QX := ⟨_, rfl⟩
            obtain ⟨A3, hA3⟩ : ∃ A3, A3 = A2 ++ [58] := ⟨_, rfl⟩
            obtain ⟨A4, hA4⟩ : ∃ A4, A4 = A3 ++ PX := ⟨_, rfl⟩
            have l2 : A2.length = acc.length + QX.length := by rw [hA2, List.length_append]
            have l3 : A3.length = A2.length + 1 := by rw [hA3]; simp
            have HS3 : Hid (joF true (((ordS ns).map (memP (prN n) ns is)).take (q + 1)) = A4) := by show _ = _; rw [unhide HS2, hA4, hA3, hA2]
            have ka : ∀ w, (Op.stringOp .add (str acc) (str QX)).run Tryz.prog w = .ok (.string (str A2)) w := fun w => by rw [hA2, ← str_appJ acc QX]; exact run_string_add_sum w _ _ (by rw [str_size, str_size]; have := unhide HAL2; omega)
            have kb : ∀ w, (Op.stringOp .add (str A2) (⟨#[58]⟩ : ByteArray)).run Tryz.prog w = .ok (.string (str A3)) w := fun w => by rw [hA3, ← show str A2 ++ (⟨#[58]⟩ : ByteArray) = str (A2 ++ [58]) from str_appJ A2 [58]]; exact run_string_add_sum w _ _ (by rw [str_size]; show _ + 1 ≤ _; have := unhide HAL2; omega)
            have kc : ∀ w, (Op.stringOp .add (str A3) (str PX)).run Tryz.prog w = .ok (.string (str A4)) w := fun w => by rw [hA4, ← str_appJ A3 PX]; exact run_string_add_sum w _ _ (by rw [str_size, str_size]; have := unhide HAL2; omega)
            clear hA2 hA3 hA4 l2 l3
            go_wp2_with fail
            obtain ⟨D, hD⟩ : ∃ D, D = X.drew := ⟨_, rfl⟩
            have HBD : Hid (Below X.heap.size X D) := by show Below _ _ _; rw [hD]; exact (Below.refl _ _).drew
            refine wp_region_held_drew (S := fun u => OjS V (.cells #[.int .i64 5, .int .i64 0, .string (str []), .slice (some ⟨B, ob, none⟩) g c1, .slice (some ⟨B2, o2, none⟩) g c2] 25 (0, 0)) B ob l (.string (str x)) B2 o2 (.int .i64 jk) (.int .i64 jn) (.string (str jt)) (.slice ja1 jn1 jc1) (.slice ja2 jn2 jc2) u) (by kernel_rfl) (by rw [← hD]; exact unhide HSX D (unhide HBD)) (fun hHeld => ?_)
            rw [← hD] at hHeld ⊢
            clear hD
            refine wpAnyH_take (i := 0) (oi := ?_) (v := ?_) ?_ (by kernel_rfl) ?_ ?_ ?_ ?_ hHeld ?_
            rotate_left 2
            · (simp only [List.getElem?_toArray, List.getElem?_cons_zero]) <;> with_reducible rfl
            · kernel_rfl
            · kernel_rfl
            · exact fun _ _ _ h => h
            · exact Or.inl ⟨by rfl, by (intro w hSw; (try dsimp only at hSw); obtain ⟨sV, sN, g0, g1, g2, g3, g4⟩ := hSw; obtain ⟨y0, y1, y2, y3, y4⟩ := cells5 sV; go_simp <;> with_reducible rfl)⟩
            simp only [Act.put, List.setIfInBounds_toArray, List.set_cons_zero, List.set_cons_succ]
            refine wpAnyH_take (i := 1) (oi := ?_) (v := ?_) ?_ (by kernel_rfl) ?_ ?_ ?_ ?_ hHeld ?_
            rotate_left 2
            · (simp only [List.getElem?_toArray, List.getElem?_cons_succ, List.getElem?_cons_zero]) <;> with_reducible rfl
            · kernel_rfl
            · kernel_rfl
            · exact fun _ _ _ h => h
            · exact Or.inl ⟨by rfl, by (intro w hSw; (try dsimp only at hSw); obtain ⟨sV, sN, g0, g1, g2, g3, g4⟩ := hSw; obtain ⟨y0, y1, y2, y3, y4⟩ := cells5 sV; go_simp <;> with_reducible rfl)⟩
            simp only [Act.put, List.setIfInBounds_toArray, List.set_cons_zero, List.set_cons_succ]
            refine wpAnyH_take (i := 2) (oi := ?_) (v := ?_) ?_ (by kernel_rfl) ?_ ?_ ?_ ?_ hHeld ?_
            rotate_left 2
            · (simp only [List.getElem?_toArray, List.getElem?_cons_succ, List.getElem?_cons_zero]) <;> with_reducible rfl
            · kernel_rfl
            · kernel_rfl
            · exact fun _ _ _ h => h
            · exact Or.inl ⟨by rfl, by (intro w hSw; (try dsimp only at hSw); obtain ⟨sV, sN, g0, g1, g2, g3, g4⟩ := hSw; obtain ⟨y0, y1, y2, y3, y4⟩ := cells5 sV; go_simp <;> with_reducible rfl)⟩
            simp only [Act.put, List.setIfInBounds_toArray, List.set_cons_zero, List.set_cons_succ]
            refine wpAnyH_take (i := 3) (oi := ?_) (v := ?_) ?_ (by kernel_rfl) ?_ ?_ ?_ ?_ hHeld ?_
            rotate_left 2
            · (simp only [List.getElem?_toArray, List.getElem?_cons_succ, List.getElem?_cons_zero]) <;> with_reducible rfl
            · kernel_rfl
            · kernel_rfl
            · exact fun _ _ _ h => h
            · exact Or.inl ⟨by rfl, by (intro w hSw; (try dsimp only at hSw); obtain ⟨sV, sN, g0, g1, g2, g3, g4⟩ := hSw; obtain ⟨y0, y1, y2, y3, y4⟩ := cells5 sV; go_simp <;> with_reducible rfl)⟩
            simp only [Act.put, List.setIfInBounds_toArray, List.set_cons_zero, List.set_cons_succ]
            refine wpAnyH_take (i := 4) (oi := ?_) (v := ?_) ?_ (by kernel_rfl) ?_ ?_ ?_ ?_ hHeld ?_
            rotate_left 2
            · (simp only [List.getElem?_toArray, List.getElem?_cons_succ, List.getElem?_cons_zero]) <;> with_reducible rfl
            · kernel_rfl
            · kernel_rfl
            · exact fun _ _ _ h => h
            · exact Or.inl ⟨by rfl, by (intro w hSw; (try dsimp only at hSw); obtain ⟨sV, sN, g0, g1, g2, g3, g4⟩ := hSw; obtain ⟨y0, y1, y2, y3, y4⟩ := cells5 sV; go_simp <;> with_reducible rfl)⟩
            simp only [Act.put, List.setIfInBounds_toArray, List.set_cons_zero, List.set_cons_succ]
            refine wpAnyH_take (i := 5) (oi := ?_) (v := ?_) ?_ (by kernel_rfl) ?_ ?_ ?_ ?_ hHeld ?_
            rotate_left 2
            · (simp only [List.getElem?_toArray, List.getElem?_cons_succ, List.getElem?_cons_zero]) <;> with_reducible rfl
            · kernel_rfl
            · kernel_rfl
            · exact fun _ _ _ h => h
            · exact Or.inl ⟨by rfl, by (intro w hSw; (try dsimp only at hSw); obtain ⟨sV, sN, g0, g1, g2, g3, g4⟩ := hSw; obtain ⟨y0, y1, y2, y3, y4⟩ := cells5 sV; go_simp <;> with_reducible rfl)⟩
            simp only [Act.put, List.setIfInBounds_toArray, List.set_cons_zero, List.set_cons_succ]
            refine wpAnyH_take (i := 9) (oi := ?_) (v := ?_) ?_ (by kernel_rfl) ?_ ?_ ?_ ?_ hHeld ?_
            rotate_left 2
            · (simp only [List.getElem?_toArray, List.getElem?_cons_succ, List.getElem?_cons_zero]) <;> with_reducible rfl
            · kernel_rfl
            · kernel_rfl
            · exact fun _ _ _ h => h
            · exact Or.inl ⟨by rfl, by (intro w hSw; (try dsimp only at hSw); obtain ⟨sV, sN, g0, g1, g2, g3, g4⟩ := hSw; obtain ⟨y0, y1, y2, y3, y4⟩ := cells5 sV; go_simp <;> with_reducible rfl)⟩
            simp only [Act.put, List.setIfInBounds_toArray, List.set_cons_zero, List.set_cons_succ]
            refine wpAnyH_take (i := 10) (oi := ?_) (v := ?_) ?_ (by kernel_rfl) ?_ ?_ ?_ ?_ hHeld ?_
            rotate_left 2
            · (simp only [List.getElem?_toArray, List.getElem?_cons_succ, List.getElem?_cons_zero]) <;> with_reducible rfl
            · kernel_rfl
            · kernel_rfl
            · exact fun _ _ _ h => h
            · exact Or.inl ⟨by rfl, by (intro w hSw; (try dsimp only at hSw); obtain ⟨sV, sN, g0, g1, g2, g3, g4⟩ := hSw; obtain ⟨y0, y1, y2, y3, y4⟩ := cells5 sV; go_simp <;> with_reducible rfl)⟩
            simp only [Act.put, List.setIfInBounds_toArray, List.set_cons_zero, List.set_cons_succ]
            refine wpAnyH_take (i := 11) (oi := ?_) (v := ?_) ?_ (by kernel_rfl) ?_ ?_ ?_ ?_ hHeld ?_
            rotate_left 2
            · (simp only [List.getElem?_toArray, List.getElem?_cons_succ, List.getElem?_cons_zero]) <;> with_reducible rfl
            · kernel_rfl
            · kernel_rfl
            · exact fun _ _ _ h => h
            · exact Or.inl ⟨by rfl, by (intro w hSw; (try dsimp only at hSw); obtain ⟨sV, sN, g0, g1, g2, g3, g4⟩ := hSw; obtain ⟨y0, y1, y2, y3, y4⟩ := cells5 sV; go_simp <;> with_reducible rfl)⟩
            simp only [Act.put, List.setIfInBounds_toArray, List.set_cons_zero, List.set_cons_succ]
            refine wpAnyH_take (i := 12) (oi := ?_) (v := ?_) ?_ (by kernel_rfl) ?_ ?_ ?_ ?_ hHeld ?_
            rotate_left 2
            · (simp only [List.getElem?_toArray, List.getElem?_cons_succ, List.getElem?_cons_zero]) <;> with_reducible rfl
            · kernel_rfl
            · kernel_rfl
            · exact fun _ _ _ h => h
            · exact Or.inl ⟨by rfl, by (intro w hSw; (try dsimp only at hSw); obtain ⟨sV, sN, g0, g1, g2, g3, g4⟩ := hSw; obtain ⟨y0, y1, y2, y3, y4⟩ := cells5 sV; go_simp <;> with_reducible rfl)⟩
            simp only [Act.put, List.setIfInBounds_toArray, List.set_cons_zero, List.set_cons_succ]
            refine wpAnyH_take (i := 13) (oi := ?_) (v := ?_) ?_ (by kernel_rfl) ?_ ?_ ?_ ?_ hHeld ?_
            rotate_left 2
            · (simp only [List.getElem?_toArray, List.getElem?_cons_succ, List.getElem?_cons_zero]) <;> with_reducible rfl
            · kernel_rfl
            · kernel_rfl
            · exact fun _ _ _ h => h
            · exact Or.inl ⟨by rfl, by (intro w hSw; (try dsimp only at hSw); obtain ⟨sV, sN, g0, g1, g2, g3, g4⟩ := hSw; obtain ⟨y0, y1, y2, y3, y4⟩ := cells5 sV; go_simp <;> with_reducible rfl)⟩
            simp only [Act.put, List.setIfInBounds_toArray, List.set_cons_zero, List.set_cons_succ]
            refine wpAnyH_ready (rs := [6]) (by kernel_rfl) (by simp) ?rdaa
            refine AllReadyH.cons (o := ?oa6) ?ha6 (fun K hK => ?ba6) AllReadyH.nil
            case ha6 => (simp only [List.getElem?_toArray, List.getElem?_cons_succ, List.getElem?_cons_zero]) <;> with_reducible rfl
            case ba6 =>
              go_simp
              refine (unhide HQT D).mono ?_
              rintro e w5 ⟨rfl, hb⟩
              have HB5 : Hid (Below X.heap.size X w5) := (unhide HBD).trans ((unhide hb).mono (unhide HBD).size)
              clear hb
              refine hK.out _ _ (unhide HSX w5 (unhide HB5)) (fun hHeld => ?_)
              clear hK K
              try simp only [Act.put, List.setIfInBounds_toArray, List.set_cons_zero, List.set_cons_succ]
              refine wpAnyH_take (i := 7) (oi := ?_) (v := ?_) ?_ (by kernel_rfl) ?_ ?_ ?_ ?_ hHeld ?_
              rotate_left 2
              · (simp only [List.getElem?_toArray, List.getElem?_cons_succ, List.getElem?_cons_zero]) <;> with_reducible rfl
              · kernel_rfl
              · kernel_rfl
              · exact fun _ _ _ h => h
              · exact Or.inl ⟨by rfl, by (intro w hSw; (try dsimp only at hSw); obtain ⟨sV, sN, g0, g1, g2, g3, g4⟩ := hSw; obtain ⟨y0, y1, y2, y3, y4⟩ := cells5 sV; go_simp <;> with_reducible rfl)⟩
              simp only [Act.put, List.setIfInBounds_toArray, List.set_cons_zero, List.set_cons_succ]
              refine wpAnyH_take (i := 8) (oi := ?_) (v := ?_) ?_ (by kernel_rfl) ?_ ?_ ?_ ?_ hHeld ?_
              rotate_left 2
              · (simp only [List.getElem?_toArray, List.getElem?_cons_succ, List.getElem?_cons_zero]) <;> with_reducible rfl
              · kernel_rfl
              · kernel_rfl
              · exact fun _ _ _ h => h
              · exact Or.inl ⟨by rfl, by (intro w hSw; (try dsimp only at hSw); obtain ⟨sV, sN, g0, g1, g2, g3, g4⟩ := hSw; obtain ⟨y0, y1, y2, y3, y4⟩ := cells5 sV; go_simp <;> with_reducible rfl)⟩
              simp only [Act.put, List.setIfInBounds_toArray, List.set_cons_zero, List.set_cons_succ]
              refine wpAnyH_ready (rs := [14]) (by kernel_rfl) (by simp) ?rdab
              refine AllReadyH.cons (o := ?oa14) ?ha14 (fun K hK => ?ba14) AllReadyH.nil
              case ha14 => (simp only [List.getElem?_toArray, List.getElem?_cons_succ, List.getElem?_cons_zero]) <;> with_reducible rfl
              case ba14 =>
                go_simp
                refine (unhide HTT w5 (unhide HB5)).mono ?_
                rintro e w6 ⟨rfl, hb⟩
                have HB6 : Hid (Below X.heap.size X w6) := (unhide HB5).trans ((unhide hb).mono (unhide HB5).size)
                clear hb
                refine hK.out _ _ (unhide HSX w6 (unhide HB6)) (fun hHeld => ?_)
                clear hK K
                try simp only [Act.put, List.setIfInBounds_toArray, List.set_cons_zero, List.set_cons_succ]
                refine wpAnyH_take (i := 15) (oi := ?_) (v := ?_) ?_ (by kernel_rfl) ?_ ?_ ?_ ?_ hHeld ?_
                rotate_left 2
                · (simp only [List.getElem?_toArray, List.getElem?_cons_succ, List.getElem?_cons_zero]) <;> with_reducible rfl
                · kernel_rfl
                · kernel_rfl
                · exact fun _ _ _ h => h
                · exact Or.inl ⟨by rfl, by (intro w hSw; (try dsimp only at hSw); obtain ⟨sV, sN, g0, g1, g2, g3, g4⟩ := hSw; obtain ⟨y0, y1, y2, y3, y4⟩ := cells5 sV; go_simp <;> with_reducible rfl)⟩
                simp only [Act.put, List.setIfInBounds_toArray, List.set_cons_zero, List.set_cons_succ]
                refine wpAnyH_take (i := 16) (oi := ?_) (v := ?_) ?_ (by kernel_rfl) ?_ ?_ ?_ ?_ hHeld ?_
                rotate_left 2
                · (simp only [List.getElem?_toArray, List.getElem?_cons_succ, List.getElem?_cons_zero]) <;> with_reducible rfl
                · kernel_rfl
                · kernel_rfl
                · exact fun _ _ _ h => h
                · exact Or.inl ⟨by rfl, by (intro w hSw; (try dsimp only at hSw); obtain ⟨sV, sN, g0, g1, g2, g3, g4⟩ := hSw; obtain ⟨y0, y1, y2, y3, y4⟩ := cells5 sV; go_simp <;> with_reducible rfl)⟩
                simp only [Act.put, List.setIfInBounds_toArray, List.set_cons_zero, List.set_cons_succ]
                refine wpAnyH_done (by kernel_rfl) ?_ _
                obtain ⟨hbl, hmv⟩ := unhide HOM w6 (unhide HB6)
                have HBL6 := hide hbl
                have HMV6 := hide hmv
                clear hbl hmv ka kb kc
                go_wp2_with fail
                go_roundw
                case rel => exact ⟨q + 1, _, _, by omega, by go_num, rfl, (unhide HS3).symm, HBL6, HB2, HMV6⟩
                case measure => simp [intOf]; omega
          · have hq1 : (0 : Int) < (q : Int) := by omega
            obtain ⟨A1, hA1⟩ : ∃ A1, A1 = acc ++ [44] := ⟨_, rfl⟩
            have HS2 : Hid (joF true (((ordS ns).map (memP (prN n) ns is)).take (q + 1)) = A1 ++ QX ++ [58] ++ PX) := by show _ = _; rw [unhide HST, if_neg hq0, hA1]; simp
            have HAL2 : Hid (A1.length + QX.length + 1 + PX.length ≤ 2000000000000) := by show _ ≤ _; have := unhide HAL; rw [hA1]; simp; omega
            have k0 : ∀ w, (Op.stringOp .add (str acc) (⟨#[44]⟩ : ByteArray)).run Tryz.prog w = .ok (.string (str A1)) w := fun w => by rw [hA1, ← show str acc ++ (⟨#[44]⟩ : ByteArray) = str (acc ++ [44]) from str_appJ acc [44]]; exact run_string_add_sum w _ _ (by rw [str_size]; show _ + 1 ≤ _; have := unhide HAL; omega)
            clear hq0 HST hA1
            obtain ⟨A2, hA2⟩ : ∃ A2, A2 = A1 ++ QX := ⟨_, rfl⟩
            obtain ⟨A3, hA3⟩ : ∃ A3, A3 = A2 ++ [58] := ⟨_, rfl⟩
            obtain ⟨A4, hA4⟩ : ∃ A4, A4 = A3 ++ PX := ⟨_, rfl⟩
            have l2 : A2.length = A1.length + QX.length := by rw [hA2, List.length_append]
            have l3 : A3.length = A2.length + 1 := by rw [hA3]; simp
            have HS3 : Hid (joF true (((ordS ns).map (memP (prN n) ns is)).take (q + 1)) = A4) := by show _ = _; rw [unhide HS2, hA4, hA3, hA2]
            have ka : ∀ w, (Op.stringOp .add (str A1) (str QX)).run Tryz.prog w = .ok (.string (str A2)) w := fun w => by rw [hA2, ← str_appJ A1 QX]; exact run_string_add_sum w _ _ (by rw [str_size, str_size]; have := unhide HAL2; omega)
            have kb : ∀ w, (Op.stringOp .add (str A2) (⟨#[58]⟩ : ByteArray)).run Tryz.prog w = .ok (.string (str A3)) w := fun w => by rw [hA3, ← show str A2 ++ (⟨#[58]⟩ : ByteArray) = str (A2 ++ [58]) from str_appJ A2 [58]]; exact run_string_add_sum w _ _ (by rw [str_size]; show _ + 1 ≤ _; have := unhide HAL2; omega)
            have kc : ∀ w, (Op.stringOp .add (str A3) (str PX)).run Tryz.prog w = .ok (.string (str A4)) w := fun w => by rw [hA4, ← str_appJ A3 PX]; exact run_string_add_sum w _ _ (by rw [str_size, str_size]; have := unhide HAL2; omega)
            clear hA2 hA3 hA4 l2 l3
            go_wp2_with fail
            obtain ⟨D, hD⟩ : ∃ D, D = X.drew := ⟨_, rfl⟩
            have HBD : Hid (Below X.heap.size X D) := by show Below _ _ _; rw [hD]; exact (Below.refl _ _).drew
            refine wp_region_held_drew (S := fun u => OjS V (.cells #[.int .i64 5, .int .i64 0, .string (str []), .slice (some ⟨B, ob, none⟩) g c1, .slice (some ⟨B2, o2, none⟩) g c2] 25 (0, 0)) B ob l (.string (str x)) B2 o2 (.int .i64 jk) (.int .i64 jn) (.string (str jt)) (.slice ja1 jn1 jc1) (.slice ja2 jn2 jc2) u) (by kernel_rfl) (by rw [← hD]; exact unhide HSX D (unhide HBD)) (fun hHeld => ?_)
            rw [← hD] at hHeld ⊢
            clear hD
            refine wpAnyH_take (i := 0) (oi := ?_) (v := ?_) ?_ (by kernel_rfl) ?_ ?_ ?_ ?_ hHeld ?_
            rotate_left 2
            · (simp only [List.getElem?_toArray, List.getElem?_cons_zero]) <;> with_reducible rfl
            · kernel_rfl
            · kernel_rfl
            · exact fun _ _ _ h => h
            · exact Or.inl ⟨by rfl, by (intro w hSw; (try dsimp only at hSw); obtain ⟨sV, sN, g0, g1, g2, g3, g4⟩ := hSw; obtain ⟨y0, y1, y2, y3, y4⟩ := cells5 sV; go_simp <;> with_reducible rfl)⟩
            simp only [Act.put, List.setIfInBounds_toArray, List.set_cons_zero, List.set_cons_succ]
            refine wpAnyH_take (i := 1) (oi := ?_) (v := ?_) ?_ (by kernel_rfl) ?_ ?_ ?_ ?_ hHeld ?_
            rotate_left 2
            · (simp only [List.getElem?_toArray, List.getElem?_cons_succ, List.getElem?_cons_zero]) <;> with_reducible rfl
            · kernel_rfl
            · kernel_rfl
            · exact fun _ _ _ h => h
            · exact Or.inl ⟨by rfl, by (intro w hSw; (try dsimp only at hSw); obtain ⟨sV, sN, g0, g1, g2, g3, g4⟩ := hSw; obtain ⟨y0, y1, y2, y3, y4⟩ := cells5 sV; go_simp <;> with_reducible rfl)⟩
            simp only [Act.put, List.setIfInBounds_toArray, List.set_cons_zero, List.set_cons_succ]
            refine wpAnyH_take (i := 2) (oi := ?_) (v := ?_) ?_ (by kernel_rfl) ?_ ?_ ?_ ?_ hHeld ?_
            rotate_left 2
            · (simp only [List.getElem?_toArray, List.getElem?_cons_succ, List.getElem?_cons_zero]) <;> with_reducible rfl
            · kernel_rfl
            · kernel_rfl
            · exact fun _ _ _ h => h
            · exact Or.inl ⟨by rfl, by (intro w hSw; (try dsimp only at hSw); obtain ⟨sV, sN, g0, g1, g2, g3, g4⟩ := hSw; obtain ⟨y0, y1, y2, y3, y4⟩ := cells5 sV; go_simp <;> with_reducible rfl)⟩
            simp only [Act.put, List.setIfInBounds_toArray, List.set_cons_zero, List.set_cons_succ]
            refine wpAnyH_take (i := 3) (oi := ?_) (v := ?_) ?_ (by kernel_rfl) ?_ ?_ ?_ ?_ hHeld ?_
            rotate_left 2
            · (simp only [List.getElem?_toArray, List.getElem?_cons_succ, List.getElem?_cons_zero]) <;> with_reducible rfl
            · kernel_rfl
            · kernel_rfl
            · exact fun _ _ _ h => h
            · exact Or.inl ⟨by rfl, by (intro w hSw; (try dsimp only at hSw); obtain ⟨sV, sN, g0, g1, g2, g3, g4⟩ := hSw; obtain ⟨y0, y1, y2, y3, y4⟩ := cells5 sV; go_simp <;> with_reducible rfl)⟩
            simp only [Act.put, List.setIfInBounds_toArray, List.set_cons_zero, List.set_cons_succ]
            refine wpAnyH_take (i := 4) (oi := ?_) (v := ?_) ?_ (by kernel_rfl) ?_ ?_ ?_ ?_ hHeld ?_
            rotate_left 2
            · (simp only [List.getElem?_toArray, List.getElem?_cons_succ, List.getElem?_cons_zero]) <;> with_reducible rfl
            · kernel_rfl
            · kernel_rfl
            · exact fun _ _ _ h => h
            · exact Or.inl ⟨by rfl, by (intro w hSw; (try dsimp only at hSw); obtain ⟨sV, sN, g0, g1, g2, g3, g4⟩ := hSw; obtain ⟨y0, y1, y2, y3, y4⟩ := cells5 sV; go_simp <;> with_reducible rfl)⟩
            simp only [Act.put, List.setIfInBounds_toArray, List.set_cons_zero, List.set_cons_succ]
            refine wpAnyH_take (i := 5) (oi := ?_) (v := ?_) ?_ (by kernel_rfl) ?_ ?_ ?_ ?_ hHeld ?_
            rotate_left 2
            · (simp only [List.getElem?_toArray, List.getElem?_cons_succ, List.getElem?_cons_zero]) <;> with_reducible rfl
            · kernel_rfl
            · kernel_rfl
            · exact fun _ _ _ h => h
            · exact Or.inl ⟨by rfl, by (intro w hSw; (try dsimp only at hSw); obtain ⟨sV, sN, g0, g1, g2, g3, g4⟩ := hSw; obtain ⟨y0, y1, y2, y3, y4⟩ := cells5 sV; go_simp <;> with_reducible rfl)⟩
            simp only [Act.put, List.setIfInBounds_toArray, List.set_cons_zero, List.set_cons_succ]
            refine wpAnyH_take (i := 9) (oi := ?_) (v := ?_) ?_ (by kernel_rfl) ?_ ?_ ?_ ?_ hHeld ?_
            rotate_left 2
            · (simp only [List.getElem?_toArray, List.getElem?_cons_succ, List.getElem?_cons_zero]) <;> with_reducible rfl
            · kernel_rfl
            · kernel_rfl
            · exact fun _ _ _ h => h
            · exact Or.inl ⟨by rfl, by (intro w hSw; (try dsimp only at hSw); obtain ⟨sV, sN, g0, g1, g2, g3, g4⟩ := hSw; obtain ⟨y0, y1, y2, y3, y4⟩ := cells5 sV; go_simp <;> with_reducible rfl)⟩
            simp only [Act.put, List.setIfInBounds_toArray, List.set_cons_zero, List.set_cons_succ]
            refine wpAnyH_take (i := 10) (oi := ?_) (v := ?_) ?_ (by kernel_rfl) ?_ ?_ ?_ ?_ hHeld ?_
            rotate_left 2
            · (simp only [List.getElem?_toArray, List.getElem?_cons_succ, List.getElem?_cons_zero]) <;> with_reducible rfl
            · kernel_rfl
            · kernel_rfl
            · exact fun _ _ _ h => h
            · exact Or.inl ⟨by rfl, by (intro w hSw; (try dsimp only at hSw); obtain ⟨sV, sN, g0, g1, g2, g3, g4⟩ := hSw; obtain ⟨y0, y1, y2, y3, y4⟩ := cells5 sV; go_simp <;> with_reducible rfl)⟩
            simp only [Act.put, List.setIfInBounds_toArray, List.set_cons_zero, List.set_cons_succ]
            refine wpAnyH_take (i := 11) (oi := ?_) (v := ?_) ?_ (by kernel_rfl) ?_ ?_ ?_ ?_ hHeld ?_
            rotate_left 2
            · (simp only [List.getElem?_toArray, List.getElem?_cons_succ, List.getElem?_cons_zero]) <;> with_reducible rfl
            · kernel_rfl
            · kernel_rfl
            · exact fun _ _ _ h => h
            · exact Or.inl ⟨by rfl, by (intro w hSw; (try dsimp only at hSw); obtain ⟨sV, sN, g0, g1, g2, g3, g4⟩ := hSw; obtain ⟨y0, y1, y2, y3, y4⟩ := cells5 sV; go_simp <;> with_reducible rfl)⟩
            simp only [Act.put, List.setIfInBounds_toArray, List.set_cons_zero, List.set_cons_succ]
            refine wpAnyH_take (i := 12) (oi := ?_) (v := ?_) ?_ (by kernel_rfl) ?_ ?_ ?_ ?_ hHeld ?_
            rotate_left 2
            · (simp only [List.getElem?_toArray, List.getElem?_cons_succ, List.getElem?_cons_zero]) <;> with_reducible rfl
            · kernel_rfl
            · kernel_rfl
            · exact fun _ _ _ h => h
            · exact Or.inl ⟨by rfl, by (intro w hSw; (try dsimp only at hSw); obtain ⟨sV, sN, g0, g1, g2, g3, g4⟩ := hSw; obtain ⟨y0, y1, y2, y3, y4⟩ := cells5 sV; go_simp <;> with_reducible rfl)⟩
            simp only [Act.put, List.setIfInBounds_toArray, List.set_cons_zero, List.set_cons_succ]
            refine wpAnyH_take (i := 13) (oi := ?_) (v := ?_) ?_ (by kernel_rfl) ?_ ?_ ?_ ?_ hHeld ?_
            rotate_left 2
            · (simp only [List.getElem?_toArray, List.getElem?_cons_succ, List.getElem?_cons_zero]) <;> with_reducible rfl
            · kernel_rfl
            · kernel_rfl
            · exact fun _ _ _ h => h
            · exact Or.inl ⟨by rfl, by (intro w hSw; (try dsimp only at hSw); obtain ⟨sV, sN, g0, g1, g2, g3, g4⟩ := hSw; obtain ⟨y0, y1, y2, y3, y4⟩ := cells5 sV; go_simp <;> with_reducible rfl)⟩
            simp only [Act.put, List.setIfInBounds_toArray, List.set_cons_zero, List.set_cons_succ]
            refine wpAnyH_ready (rs := [6]) (by kernel_rfl) (by simp) ?rdba
            refine AllReadyH.cons (o := ?ob6) ?hb6 (fun K hK => ?bb6) AllReadyH.nil
            case hb6 => (simp only [List.getElem?_toArray, List.getElem?_cons_succ, List.getElem?_cons_zero]) <;> with_reducible rfl
            case bb6 =>
              go_simp
              refine (unhide HQT D).mono ?_
              rintro e w5 ⟨rfl, hb⟩
              have HB5 : Hid (Below X.heap.size X w5) := (unhide HBD).trans ((unhide hb).mono (unhide HBD).size)
              clear hb
              refine hK.out _ _ (unhide HSX w5 (unhide HB5)) (fun hHeld => ?_)
              clear hK K
              try simp only [Act.put, List.setIfInBounds_toArray, List.set_cons_zero, List.set_cons_succ]
              refine wpAnyH_take (i := 7) (oi := ?_) (v := ?_) ?_ (by kernel_rfl) ?_ ?_ ?_ ?_ hHeld ?_
              rotate_left 2
              · (simp only [List.getElem?_toArray, List.getElem?_cons_succ, List.getElem?_cons_zero]) <;> with_reducible rfl
              · kernel_rfl
              · kernel_rfl
              · exact fun _ _ _ h => h
              · exact Or.inl ⟨by rfl, by (intro w hSw; (try dsimp only at hSw); obtain ⟨sV, sN, g0, g1, g2, g3, g4⟩ := hSw; obtain ⟨y0, y1, y2, y3, y4⟩ := cells5 sV; go_simp <;> with_reducible rfl)⟩
              simp only [Act.put, List.setIfInBounds_toArray, List.set_cons_zero, List.set_cons_succ]
              refine wpAnyH_take (i := 8) (oi := ?_) (v := ?_) ?_ (by kernel_rfl) ?_ ?_ ?_ ?_ hHeld ?_
              rotate_left 2
              · (simp only [List.getElem?_toArray, List.getElem?_cons_succ, List.getElem?_cons_zero]) <;> with_reducible rfl
              · kernel_rfl
              · kernel_rfl
              · exact fun _ _ _ h => h
              · exact Or.inl ⟨by rfl, by (intro w hSw; (try dsimp only at hSw); obtain ⟨sV, sN, g0, g1, g2, g3, g4⟩ := hSw; obtain ⟨y0, y1, y2, y3, y4⟩ := cells5 sV; go_simp <;> with_reducible rfl)⟩
              simp only [Act.put, List.setIfInBounds_toArray, List.set_cons_zero, List.set_cons_succ]
              refine wpAnyH_ready (rs := [14]) (by kernel_rfl) (by simp) ?rdbb
              refine AllReadyH.cons (o := ?ob14) ?hb14 (fun K hK => ?bb14) AllReadyH.nil
              case hb14 => (simp only [List.getElem?_toArray, List.getElem?_cons_succ, List.getElem?_cons_zero]) <;> with_reducible rfl
              case bb14 =>
                go_simp
                refine (unhide HTT w5 (unhide HB5)).mono ?_
                rintro e w6 ⟨rfl, hb⟩
                have HB6 : Hid (Below X.heap.size X w6) := (unhide HB5).trans ((unhide hb).mono (unhide HB5).size)
                clear hb
                refine hK.out _ _ (unhide HSX w6 (unhide HB6)) (fun hHeld => ?_)
                clear hK K
                try simp only [Act.put, List.setIfInBounds_toArray, List.set_cons_zero, List.set_cons_succ]
                refine wpAnyH_take (i := 15) (oi := ?_) (v := ?_) ?_ (by kernel_rfl) ?_ ?_ ?_ ?_ hHeld ?_
                rotate_left 2
                · (simp only [List.getElem?_toArray, List.getElem?_cons_succ, List.getElem?_cons_zero]) <;> with_reducible rfl
                · kernel_rfl
                · kernel_rfl
                · exact fun _ _ _ h => h
                · exact Or.inl ⟨by rfl, by (intro w hSw; (try dsimp only at hSw); obtain ⟨sV, sN, g0, g1, g2, g3, g4⟩ := hSw; obtain ⟨y0, y1, y2, y3, y4⟩ := cells5 sV; go_simp <;> with_reducible rfl)⟩
                simp only [Act.put, List.setIfInBounds_toArray, List.set_cons_zero, List.set_cons_succ]
                refine wpAnyH_take (i := 16) (oi := ?_) (v := ?_) ?_ (by kernel_rfl) ?_ ?_ ?_ ?_ hHeld ?_
                rotate_left 2
                · (simp only [List.getElem?_toArray, List.getElem?_cons_succ, List.getElem?_cons_zero]) <;> with_reducible rfl
                · kernel_rfl
                · kernel_rfl
                · exact fun _ _ _ h => h
                · exact Or.inl ⟨by rfl, by (intro w hSw; (try dsimp only at hSw); obtain ⟨sV, sN, g0, g1, g2, g3, g4⟩ := hSw; obtain ⟨y0, y1, y2, y3, y4⟩ := cells5 sV; go_simp <;> with_reducible rfl)⟩
                simp only [Act.put, List.setIfInBounds_toArray, List.set_cons_zero, List.set_cons_succ]
                refine wpAnyH_done (by kernel_rfl) ?_ _
                obtain ⟨hbl, hmv⟩ := unhide HOM w6 (unhide HB6)
                have HBL6 := hide hbl
                have HMV6 := hide hmv
                clear hbl hmv ka kb kc
                go_wp2_with fail
                go_roundw
                case rel => exact ⟨q + 1, _, _, by omega, by go_num, rfl, (unhide HS3).symm, HBL6, HB2, HMV6⟩
                case measure => simp [intOf]; omega
    · have hlt' : ¬ (q : Int) < (g : Int) := by omega
      have HE : Hid (acc = FIN) := by
        show _ = _
        rw [unhide HQ, unhide HFIN, List.take_of_length_le (by rw [List.length_map]; have := (ordS_ris ns).len; have := unhide HG; omega)]
      have hal : acc.length ≤ 1000000000000 := by rw [unhide HE, unhide HFIN]; exact unhide HL9
      have ka : ∀ w, (Op.stringOp .add (⟨#[123]⟩ : ByteArray) (str acc)).run Tryz.prog w = .ok (.string (str (123 :: acc))) w := fun w => by
        rw [← show (⟨#[123]⟩ : ByteArray) ++ str acc = str (123 :: acc) from str_appJ [123] acc]; exact run_string_add_sum w _ _ (by rw [str_size]; show 1 + _ ≤ _; omega)
      have kb : ∀ w, (Op.stringOp .add (str (123 :: acc)) (⟨#[125]⟩ : ByteArray)).run Tryz.prog w = .ok (.string (str (123 :: (acc ++ [125])))) w := fun w => by
        rw [← show str (123 :: acc) ++ (⟨#[125]⟩ : ByteArray) = str (123 :: (acc ++ [125])) from str_appJ (123 :: acc) [125]]; exact run_string_add_sum w _ _ (by rw [str_size]; show _ + 1 ≤ _; simp; omega)
      have HF : Hid (Below w.heap.size w wr) := hide ⟨(unhide HM).os.trans (unhide HBW).os, (unhide HM).tape.trans (unhide HBW).tape, (unhide HM).output.trans (unhide HBW).output, Nat.le_trans (unhide HBW).size (unhide HM).size, fun k hk => ((unhide HM).block k (Nat.lt_of_lt_of_le hk (unhide HBW).size) (fun e => by have := Option.some.inj e; have := unhide HGS; omega)).trans ((unhide HBW).block k hk)⟩
      clear hlt hal
      go_wp2_with fail
      go_ret
      rw [← unhide HE]
      exact ⟨rfl, HF⟩
#print axioms text_obj
end Go.Proofs.YtbnbngmnoffmkaaGreatDoor
end
section
set_option linter.unusedVariables false
set_option maxRecDepth 1000000
namespace Go.Proofs.YtbnbngmnoffmkaaGreatDoor
open Go.RowKit

theorem text_any : ∀ (n : Nat) (j : Js), TxJ n j
  | 0, .mk k i t ns is => by
    intro S v w hJ hS hck hz hlen
    obtain ⟨hw, _, h45⟩ := ck_zero 0 k i t ns is hck
    obtain ⟨hk, _⟩ := wf_kind hw
    by_cases h4 : k < 4
    · exact text_flat 0 k i t ns is h4 S v w hJ hS hck hz hlen
    · obtain ⟨m, e, _⟩ := h45 (by omega)
      exact absurd e (by omega)
  | n + 1, .mk k i t ns is => by
    intro S v w hJ hS hck hz hlen
    obtain ⟨hw, _, _⟩ := ck_zero (n + 1) k i t ns is hck
    obtain ⟨hk, _⟩ := wf_kind hw
    by_cases h4 : k < 4
    · exact text_flat (n + 1) k i t ns is h4 S v w hJ hS hck hz hlen
    · by_cases h5 : k = 4
      · subst h5; exact text_list n i t ns is (fun x _ => text_any n x) S v w hJ hS hck hz hlen
      · obtain rfl : k = 5 := by omega
        exact text_obj n i t ns is (fun x _ => text_any n x) S v w hJ hS hck hz hlen
#print axioms text_any
end Go.Proofs.YtbnbngmnoffmkaaGreatDoor
end
