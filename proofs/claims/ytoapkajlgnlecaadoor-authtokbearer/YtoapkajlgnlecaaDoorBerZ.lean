/-
  authtok.Bearer, the reference's, AuthtokBearer: THE WALK.
-/
import Derived.Test.YtoapkajlgnlecaaDoorBerY
import Derived.Test.YtoapkajlgnlecaaDoorAutW
import Derived.BigRegion
set_option linter.unusedVariables false
set_option maxRecDepth 1000000
namespace Go.Proofs.YtoapkajlgnlecaaDoor
open Go.RowKit

theorem only_len (H : List Hd) (hS : HdS H) : (only H).length ≤ 1000000 := by
  unfold only
  split
  · rename_i h
    have h0 : 0 < (vals H).length := by omega
    rw [List.getD_eq_getElem?_getD, List.getElem?_eq_getElem h0]
    have hm : (vals H)[0] ∈ vals H := List.getElem_mem h0
    unfold vals at hm ⊢
    obtain ⟨p, hp, e⟩ := List.mem_map.1 hm
    have hp2 := (List.mem_filter.1 hp).1
    obtain ⟨t, ht, rfl⟩ := List.getElem_of_mem hp2
    have := (hS t H[t] (List.getElem?_eq_getElem ht)).2
    show (_ : List UInt8).length ≤ _
    simp only [Option.getD_some]
    rw [← e]
    exact this
  · simp
theorem wrd_len (v : List UInt8) : (wrd v).length ≤ v.length := (List.takeWhile_sublist _).length_le
theorem tkn_len (v : List UInt8) : (tkn v).length ≤ v.length := by
  unfold tkn
  rw [List.length_drop]
  have := (List.dropWhile_sublist (p := fun c : UInt8 => c != 32) (l := v)).length_le
  omega
theorem str_isE (t : List UInt8) : (str t).toList.isEmpty = t.isEmpty := by rw [toList_str]
theorem str_wB (a : List UInt8) (b : Bool) (h : decide (a = wB) = b) : ((str a).toList == [98, 101, 97, 114, 101, 114]) = b ∧ ((str a).toList != [98, 101, 97, 114, 101, 114]) = !b ∧ ((str a).toList == (str wB).toList) = b := by
  have e : (a == wB) = b := by rw [← h]; by_cases e : a = wB <;> simp [e]
  refine ⟨?_, ?_, ?_⟩
  · rw [toList_str]; exact e
  · rw [toList_str]; show (!(a == wB)) = _; rw [e]
  · rw [toList_str, toList_str]; exact e

set_option maxHeartbeats 4000000 in
theorem bearer_any (m q : ByteArray) (p : Option Addr) (cp : Nat) (H : List Hd) (y : Option Addr) (yn yc : Nat) (w : World) (h : HdR w p H) (hS : HdS H) (hl : H.length ≤ 1000000) :
    Calls Tryd.prog 5 #[.agg #[.string m, .string q, .slice p H.length cp, .slice y yn yc]] w fun e w' => e = .returned (.tuple #[.string (str (berT H)), .bool (okT (only H))]) ∧ Hid (Below w.heap.size w w') := by
  obtain ⟨W, hW⟩ : ∃ W, W = w.alloc (.cells #[.string m, .string q, .slice p H.length cp, .slice y yn yc] 25) := ⟨_, rfl⟩
  have hB : Below w.heap.size w W := by rw [hW]; exact (Below.refl _ _).alloc (Nat.le_refl _) _
  have hF : W.heap[w.heap.size]? = some (.cells #[.string m, .string q, .slice p H.length cp, .slice y yn yc] 25 (0, 0)) := by rw [hW]; exact heap_alloc_new w _
  have r2 : W.cell? ⟨w.heap.size, 2, none⟩ = some (.slice p H.length cp) := by rw [cell_of_row W w.heap.size 2 _ _ _ hF]; rfl
  have HO := hide (only_any p cp H W (h.below hB (Nat.le_refl _)) hS hl)
  have hol := only_len H hS
  have HBT : Hid (berT H = if okT (only H) then tkn (only H) else []) := rfl
  have HB := hide hB
  obtain ⟨v, hv⟩ : ∃ v, only H = v := ⟨_, rfl⟩
  rw [hv] at HO hol HBT ⊢
  clear hF h hS hB hv
  go_enter Tryd.func5, Tryd.ntmps5
  go_upto_region 1 with fail
  rw [← hW]
  clear hW
  have hwl := wrd_len v
  have htl := tkn_len v
  obtain ⟨b1, hb1⟩ : ∃ b1, decide (sm (wrd v) = wB) = b1 := ⟨_, rfl⟩
  obtain ⟨q1, q2, q3⟩ := str_wB (sm (wrd v)) b1 hb1
  obtain ⟨b2, hb2⟩ : ∃ b2, (tkn v).isEmpty = b2 := ⟨_, rfl⟩
  have q4 : (str (tkn v)).toList.isEmpty = b2 := by rw [str_isE, hb2]
  have HOK : Hid (okT v = (b1 && !b2 && !bad (tkn v))) := by show _ = _; unfold okT; rw [hb1, hb2]
  clear hb1 hb2
  go_upto_region 3 with (first
    | (go_at_call 10; refine (unhide HO).mono ?_; rintro e w2 ⟨⟨b, rfl⟩, hb2'⟩)
    | (go_at_call 11; refine (cut32 v w2 hol).mono ?_; rintro e w3 ⟨bb, rfl, hb3⟩))
  have HB3 := hide (((unhide HB).trans ((unhide hb2').mono (unhide HB).size)))
  have HB4 := hide ((unhide HB3).trans ((unhide hb3).mono (unhide HB3).size))
  clear hb2' hb3 HB3
  cases b1 with
  | false =>
    have HF : Hid (okT v = false) := by show _ = _; rw [unhide HOK]; rfl
    go_wp2_with (go_at_call 12; refine (small_any (wrd v) w3 (by omega)).mono ?_; rintro e w4 ⟨rfl, hb4⟩)
    go_ret2
    refine ⟨?_, (unhide HB4).trans (hb4.mono (unhide HB4).size)⟩
    rw [unhide HBT, unhide HF]; rfl
  | true =>
    cases b2 with
    | true =>
      have HF : Hid (okT v = false) := by show _ = _; rw [unhide HOK]; rfl
      go_wp2_with (go_at_call 12; refine (small_any (wrd v) w3 (by omega)).mono ?_; rintro e w4 ⟨rfl, hb4⟩)
      go_ret2
      refine ⟨?_, (unhide HB4).trans (hb4.mono (unhide HB4).size)⟩
      rw [unhide HBT, unhide HF]; rfl
    | false =>
      obtain ⟨b3, hb3⟩ : ∃ b3, bad (tkn v) = b3 := ⟨_, rfl⟩
      have HC := hide (fun w => cany_any (tkn v) w (by omega))
      rw [hb3] at HOK
      simp only [hb3] at HC
      clear hb3
      cases b3 with
      | true =>
        have HF : Hid (okT v = false) := by show _ = _; rw [unhide HOK]; rfl
        go_wp2_with (first
          | (go_at_call 12; refine (small_any (wrd v) w3 (by omega)).mono ?_; rintro e w4 ⟨rfl, hb4⟩)
          | (go_at_call 13; refine (unhide HC _).mono ?_; rintro e w5 ⟨rfl, hb5⟩))
        go_ret2
        have h4 := (unhide HB4).trans (hb4.mono (unhide HB4).size)
        refine ⟨?_, h4.trans (hb5.mono h4.size)⟩
        rw [unhide HBT, unhide HF]; rfl
      | false =>
        have HF : Hid (okT v = true) := by show _ = _; rw [unhide HOK]; rfl
        go_wp2_with (first
          | (go_at_call 12; refine (small_any (wrd v) w3 (by omega)).mono ?_; rintro e w4 ⟨rfl, hb4⟩)
          | (go_at_call 13; refine (unhide HC _).mono ?_; rintro e w5 ⟨rfl, hb5⟩))
        go_ret2
        have h4 := (unhide HB4).trans (hb4.mono (unhide HB4).size)
        refine ⟨?_, h4.trans (hb5.mono h4.size)⟩
        rw [unhide HBT, unhide HF]; rfl
#print axioms bearer_any

def lastv (L : List (List UInt8)) : List UInt8 := L.getLast?.getD []
theorem lastv_snoc (L : List (List UInt8)) (x : List UInt8) : lastv (L ++ [x]) = x := by simp [lastv]
def okH (H : List Hd) : Bool := decide ((vals H).length = 1) && okR (lastv (vals H))
def resH (H : List Hd) : List UInt8 := if okH H then (lastv (vals H)).drop 7 else []
theorem okH_eq (H : List Hd) : okH H = okT (only H) ∧ resH H = berT H := by
  by_cases h : (vals H).length = 1
  · obtain ⟨x, hx⟩ := List.length_eq_one_iff.1 h
    have ho : only H = x := by unfold only; rw [if_pos h, hx]; rfl
    have hl : lastv (vals H) = x := by rw [hx]; rfl
    obtain ⟨e1, e2⟩ := okT_okR x
    have ek : okH H = okR x := by unfold okH; rw [decide_eq_true h, hl]; rfl
    refine ⟨by rw [ek, ho, e1], ?_⟩
    unfold resH berT
    rw [ek, ho, hl, e1]
    cases e : okR x
    · rfl
    · rw [e2 e]
  · have ho : only H = [] := by unfold only; rw [if_neg h]
    have ek : okH H = false := by unfold okH; rw [decide_eq_false h]; rfl
    refine ⟨by rw [ek, ho, okT_nil], ?_⟩
    unfold resH berT
    rw [ek, ho, okT_nil]
    rfl
theorem str_wA (a : List UInt8) (b : Bool) (h : (a == wA) = b) : ((str a).toList == [97, 117, 116, 104, 111, 114, 105, 122, 97, 116, 105, 111, 110]) = b ∧ ((str a).toList == (str wA).toList) = b := by
  refine ⟨?_, ?_⟩
  · rw [toList_str]; exact h
  · rw [toList_str, toList_str]; exact h
theorem lastv_len (H : List Hd) (hS : HdS H) (k : Nat) : (lastv (valsTo H k)).length ≤ 1000000 := by
  unfold lastv
  cases e : (valsTo H k).getLast? with
  | none => simp
  | some x =>
    have hm : x ∈ valsTo H k := List.mem_of_getLast? e
    unfold valsTo vals at hm
    obtain ⟨p, hp, e2⟩ := List.mem_map.1 hm
    have hp2 := List.mem_of_mem_take (List.mem_filter.1 hp).1
    obtain ⟨t, ht, rfl⟩ := List.getElem_of_mem hp2
    have := (hS t H[t] (List.getElem?_eq_getElem ht)).2
    simp only [Option.getD_some]
    rw [← e2]
    exact this
theorem bad_drop_false (v : List UInt8) (h : ∀ j, 7 ≤ j → j < v.length → v.getD j 0 ≠ 32 ∧ v.getD j 0 ≠ 9) : bad (v.drop 7) = false := by
  refine bad_false _ (fun j hj => ?_)
  rw [List.length_drop] at hj
  have := h (7 + j) (by omega) (by omega)
  simpa [List.getD_eq_getElem?_getD, List.getElem?_drop] using this
theorem bad_drop_true (v : List UInt8) (j : Nat) (h7 : 7 ≤ j) (hj : j < v.length) (h : v.getD j 0 = 32 ∨ v.getD j 0 = 9) : bad (v.drop 7) = true := by
  refine bad_true _ (j - 7) (by rw [List.length_drop]; omega) ?_
  have e : (v.drop 7).getD (j - 7) 0 = v.getD j 0 := by
    rw [List.getD_eq_getElem?_getD, List.getElem?_drop, List.getD_eq_getElem?_getD, show 7 + (j - 7) = j by omega]
  rw [e]; exact h

set_option maxHeartbeats 8000000 in
theorem rbearer_any (m q : ByteArray) (p : Option Addr) (cp : Nat) (H : List Hd) (y : Option Addr) (yn yc : Nat) (w : World) (h : HdR w p H) (hS : HdS H) (hl : H.length ≤ 1000000) :
    Calls Tryd.prog 6 #[.agg #[.string m, .string q, .slice p H.length cp, .slice y yn yc]] w fun e w' => e = .returned (.tuple #[.string (str (resH H)), .bool (okH H)]) ∧ Hid (Below w.heap.size w w') := by
  obtain ⟨W, hW⟩ : ∃ W, W = w.alloc (.cells #[.string m, .string q, .slice p H.length cp, .slice y yn yc] 25) := ⟨_, rfl⟩
  have hB : Below w.heap.size w W := by rw [hW]; exact (Below.refl _ _).alloc (Nat.le_refl _) _
  have hF : W.heap[w.heap.size]? = some (.cells #[.string m, .string q, .slice p H.length cp, .slice y yn yc] 25 (0, 0)) := by rw [hW]; exact heap_alloc_new w _
  have r2 : W.cell? ⟨w.heap.size, 2, none⟩ = some (.slice p H.length cp) := by rw [cell_of_row W w.heap.size 2 _ _ _ hF]; rfl
  have HH := hide h
  have HSS := hide hS
  have HB := hide hB
  clear hF h hS hB
  go_enter Tryd.func6, Tryd.ntmps6
  go_upto_region 1 with fail
  rw [← hW]
  clear hW
  go_wp2
  clear r2
  go_loopw [4, 5, 12] (fun n v i wr => ∃ k : Nat, k ≤ H.length ∧ i = .int .i64 (k : Int) ∧ ∃ (N : Nat) (s : List UInt8), n = .int .i64 (N : Int) ∧ v = .string (str s) ∧ Hid (N = (valsTo H k).length) ∧ Hid (s = lastv (valsTo H k)) ∧ Hid (Below w.heap.size w wr)) (fun _ _ i _ => H.length - (intOf i).toNat)
  case atStart => exact ⟨0, Nat.zero_le _, rfl, 0, [], rfl, rfl, rfl, rfl, HB⟩
  case round =>
    clear HB
    obtain ⟨k, hk, rfl, N, s, rfl, rfl, HN, HV, HB⟩ := hrel
    have hNk : N ≤ k := by rw [unhide HN]; exact vals_len H k
    by_cases hlt : k < H.length
    · obtain ⟨d, hd⟩ : ∃ d, H[k]? = some d := ⟨_, List.getElem?_eq_getElem hlt⟩
      obtain ⟨b, off, hpe, hc⟩ := ((unhide HH).below (unhide HB) (Nat.le_refl _)).mem (by intro e; subst e; simp at hd)
      subst hpe
      obtain ⟨c0, c1⟩ := hc k d hd
      have hs := unhide HSS k d hd
      have HST := hide (vals_step H k d hd)
      have hlt' : (k : Int) < (H.length : Int) := by omega
      obtain ⟨wd, hwd⟩ : ∃ wd, wd = wr.alloc (.cells #[.string (str d.1), .string (str d.2)] 27) := ⟨_, rfl⟩
      have hbd : Below wr.heap.size wr wd := by rw [hwd]; exact (Below.refl _ _).alloc (Nat.le_refl _) _
      have hZ : wd.heap[wr.heap.size]? = some (.cells #[.string (str d.1), .string (str d.2)] 27 (0, 0)) := by rw [hwd]; exact heap_alloc_new wr _
      have z0 : wd.cell? ⟨wr.heap.size, 0, none⟩ = some (.string (str d.1)) := by rw [cell_of_row wd wr.heap.size 0 _ _ _ hZ]; rfl
      have HZ := hide hZ
      have HBd := hide ((unhide HB).trans (hbd.mono (unhide HB).size))
      have hwl : wr.heap.size < wd.heap.size := (Array.getElem?_eq_some_iff.1 hZ).1
      clear hc hd hbd hZ HB
      go_upto_region 5 with fail
      rw [← hwd]
      clear hwd c0 c1
      obtain ⟨b1, hb1⟩ : ∃ b1, (sm d.1 == wA) = b1 := ⟨_, rfl⟩
      obtain ⟨q1, q2⟩ := str_wA (sm d.1) b1 hb1
      have HQ := hide hb1
      clear hb1
      cases b1 with
      | false =>
        have hvv : valsTo H (k + 1) = valsTo H k := by rw [unhide HST, if_neg (by intro e; have := unhide HQ; rw [e] at this; simp at this)]
        have HN2 : Hid (N = (valsTo H (k + 1)).length) := by show _ = _; rw [hvv]; exact unhide HN
        have HV2 : Hid (s = lastv (valsTo H (k + 1))) := by show _ = _; rw [hvv]; exact unhide HV
        clear hvv
        go_wp2_with (go_at_call 14; refine (rsmall_any d.1 wd hs.1).mono ?_; rintro e w3 ⟨rfl, hb3⟩)
        have HB4 := hide ((unhide HBd).trans (hb3.mono (unhide HBd).size))
        go_roundw
        case rel => exact ⟨k + 1, by omega, by go_num, N, s, rfl, rfl, HN2, HV2, HB4⟩
        case measure => simp [intOf]; omega
      | true =>
        have hvv : valsTo H (k + 1) = valsTo H k ++ [d.2] := by rw [unhide HST, if_pos (by simpa using unhide HQ)]
        have HN2 : Hid (N + 1 = (valsTo H (k + 1)).length) := by show _ = _; rw [hvv, List.length_append, unhide HN]; rfl
        have HV2 : Hid (d.2 = lastv (valsTo H (k + 1))) := by show _ = _; rw [hvv, lastv_snoc]
        clear hvv
        go_upto_region 6 with (go_at_call 14; refine (rsmall_any d.1 wd hs.1).mono ?_; rintro e w3 ⟨rfl, hb3⟩; have HB3 := hide hb3; clear hb3)
        have HB4 := hide ((unhide HBd).trans ((unhide HB3).mono (unhide HBd).size))
        have hZ3 := ((unhide HB3).block _ hwl).trans (unhide HZ)
        have z1 : w3.cell? ⟨wr.heap.size, 1, none⟩ = some (.string (str d.2)) := by rw [cell_of_row w3 wr.heap.size 1 _ _ _ hZ3]; rfl
        clear hZ3
        go_wp2
        go_roundw
        case rel => exact ⟨k + 1, by omega, by go_num, N + 1, d.2, by go_num, rfl, HN2, HV2, HB4⟩
        case measure => simp [intOf]; omega
    · have hlt' : ¬ (k : Int) < (H.length : Int) := by omega
      have hall : valsTo H k = vals H := by unfold valsTo; rw [List.take_of_length_le (by omega)]
      have hsl : s.length ≤ 1000000 := by rw [unhide HV]; exact lastv_len H (unhide HSS) k
      rw [hall] at HN HV
      have HOK : Hid (okH H = (decide (N = 1) && okR s) ∧ resH H = if (decide (N = 1) && okR s) then s.drop 7 else []) := by
        have e : okH H = (decide (N = 1) && okR s) := by unfold okH; rw [← unhide HN, ← unhide HV]
        exact ⟨e, by unfold resH; rw [e, ← unhide HV]⟩
      clear hlt hall HN HV
      by_cases hN : N = 1
      · have hN1 : ((N : Int) != 1) = false := by rw [hN]; rfl
        rw [decide_eq_true hN, Bool.true_and] at HOK
        clear hN
        by_cases h8 : 8 ≤ s.length
        · have h8' : decide ((s.length : Int) < 8) = false := decide_eq_false (by omega)
          have hsz : (str s).size = s.length := str_size s
          have e6 : (str s).extract 0 6 = str (s.take 6) := st_take s 6
          have e7 : (str s).extract 7 s.length = str (s.drop 7) := st_drop s 7 s.length rfl
          obtain ⟨b2, hb2⟩ : ∃ b2, decide (sm (s.take 6) = wB) = b2 := ⟨_, rfl⟩
          obtain ⟨q1, q2, q3⟩ := str_wB (sm (s.take 6)) b2 hb2
          have hge : s.getD 6 0 = s[6] := by rw [List.getD_eq_getElem?_getD, List.getElem?_eq_getElem (by omega)]; rfl
          obtain ⟨x, hx⟩ : ∃ x, s.getD 6 0 = x := ⟨_, rfl⟩
          have i6 : ∀ w, (Instr.index 9 (.string (str s)) (.int .i64 6)).run Tryd.prog w = .ok (.int .u8 (x.toNat : Int)) w := fun w => run_ixs w s 6 x (by rw [List.getElem?_eq_getElem (by omega), ← hge, hx])
          obtain ⟨b3, hb3⟩ : ∃ b3, decide (x = 32) = b3 := ⟨_, rfl⟩
          have hx32 : ((x.toNat : Int) != 32) = !b3 := by
            rw [← hb3]
            by_cases e : x = 32
            · subst e; rfl
            · rw [decide_eq_false e]
              have : x.toNat ≠ 32 := fun e2 => e (UInt8.toNat_inj.1 e2)
              simp; omega
          have HR : Hid (okR s = (b2 && b3 && !bad (s.drop 7))) := by
            show _ = _
            unfold okR
            rw [decide_eq_true h8, hb2, hx, hb3]; rfl
          clear hb2 hb3 hge hx
          cases b2 with
          | false =>
            have HF : Hid (okR s = false) := by show _ = _; rw [unhide HR]; rfl
            go_wp2_with (go_at_call 14; refine (rsmall_any (s.take 6) wr (by rw [List.length_take]; omega)).mono ?_; rintro e w3 ⟨rfl, hb3⟩)
            go_ret2
            refine ⟨?_, (unhide HB).trans (hb3.mono (unhide HB).size)⟩
            rw [(unhide HOK).1, (unhide HOK).2, unhide HF]; rfl
          | true =>
            cases b3 with
            | false =>
              have HF : Hid (okR s = false) := by show _ = _; rw [unhide HR]; rfl
              go_wp2_with (go_at_call 14; refine (rsmall_any (s.take 6) wr (by rw [List.length_take]; omega)).mono ?_; rintro e w3 ⟨rfl, hb3⟩)
              go_ret2
              refine ⟨?_, (unhide HB).trans (hb3.mono (unhide HB).size)⟩
              rw [(unhide HOK).1, (unhide HOK).2, unhide HF]; rfl
            | true =>
              go_wp2_with (go_at_call 14; refine (rsmall_any (s.take 6) wr (by rw [List.length_take]; omega)).mono ?_; rintro e w3 ⟨rfl, hb3⟩; have HB3 := hide ((unhide HB).trans (hb3.mono (unhide HB).size)); clear hb3)
              clear i6 q1 q2 q3 e6
              go_loop [8] (fun v => ∃ j : Nat, 7 ≤ j ∧ j ≤ s.length ∧ v = .int .i64 (j : Int) ∧ Hid (∀ t, 7 ≤ t → t < j → s.getD t 0 ≠ 32 ∧ s.getD t 0 ≠ 9)) (fun v => s.length - (intOf v).toNat)
              case atStart => exact ⟨7, Nat.le_refl _, by omega, rfl, fun t h1 h2 => by omega⟩
              case round =>
                obtain ⟨j, hj7, hjl, rfl, hno⟩ := hrel
                by_cases hj : j < s.length
                · have hj' : (j : Int) < (s.length : Int) := by omega
                  have hge : s.getD j 0 = s[j] := by rw [List.getD_eq_getElem?_getD, List.getElem?_eq_getElem hj]; rfl
                  obtain ⟨c, hc⟩ : ∃ c, s.getD j 0 = c := ⟨_, rfl⟩
                  have ij : ∀ w, (Instr.index 9 (.string (str s)) (.int .i64 (j : Int))).run Tryd.prog w = .ok (.int .u8 (c.toNat : Int)) w := fun w => run_ixs w s j c (by rw [List.getElem?_eq_getElem hj, ← hge, hc])
                  have hcN := c.toNat_lt
                  by_cases h32 : c = 32
                  · have t1 : ((c.toNat : Int) == 32) = true := by rw [h32]; rfl
                    have HF : Hid (okR s = false) := by
                      show _ = _
                      rw [unhide HR, bad_drop_true s j hj7 hj (.inl (by rw [hc, h32]))]; rfl
                    clear hno h32 hge hc
                    go_wp2
                    go_ret2
                    refine ⟨?_, unhide HB3⟩
                    rw [(unhide HOK).1, (unhide HOK).2, unhide HF]; rfl
                  · have n32 : c.toNat ≠ 32 := fun e => h32 (UInt8.toNat_inj.1 e)
                    have t1 : ((c.toNat : Int) == 32) = false := by simp; omega
                    by_cases h9 : c = 9
                    · have t2 : ((c.toNat : Int) == 9) = true := by rw [h9]; rfl
                      have HF : Hid (okR s = false) := by
                        show _ = _
                        rw [unhide HR, bad_drop_true s j hj7 hj (.inr (by rw [hc, h9]))]; rfl
                      clear hno h9 h32 n32 hge hc
                      go_wp2
                      go_ret2
                      refine ⟨?_, unhide HB3⟩
                      rw [(unhide HOK).1, (unhide HOK).2, unhide HF]; rfl
                    · have n9 : c.toNat ≠ 9 := fun e => h9 (UInt8.toNat_inj.1 e)
                      have t2 : ((c.toNat : Int) == 9) = false := by simp; omega
                      have HNO : Hid (∀ t, 7 ≤ t → t < j + 1 → s.getD t 0 ≠ 32 ∧ s.getD t 0 ≠ 9) := by
                        intro t h1 h2
                        by_cases e : t = j
                        · subst e; rw [hc]; exact ⟨h32, h9⟩
                        · exact unhide hno t h1 (by omega)
                      clear hno h9 h32 hge hc
                      go_wp2
                      go_round
                      case rel => exact ⟨j + 1, by omega, by omega, by go_num, HNO⟩
                      case measure => simp [intOf]; omega
                · obtain rfl : j = s.length := by omega
                  have hj' : ¬ (s.length : Int) < (s.length : Int) := by omega
                  have HF : Hid (okR s = true) := by
                    show _ = _
                    rw [unhide HR, bad_drop_false s (unhide hno)]; rfl
                  clear hno hj
                  go_wp2
                  go_ret2
                  refine ⟨?_, unhide HB3⟩
                  rw [(unhide HOK).1, (unhide HOK).2, unhide HF]; rfl
        · have h8' : decide ((s.length : Int) < 8) = true := decide_eq_true (by omega)
          have HF : Hid (okR s = false) := by show _ = _; unfold okR; rw [decide_eq_false h8]; rfl
          have hsz : (str s).size = s.length := str_size s
          clear h8
          go_wp2
          go_ret2
          refine ⟨?_, unhide HB⟩
          rw [(unhide HOK).1, (unhide HOK).2, unhide HF]; rfl
      · have hN1 : ((N : Int) != 1) = true := by simp; omega
        rw [decide_eq_false hN, Bool.false_and] at HOK
        clear hN
        go_wp2
        go_ret2
        refine ⟨?_, unhide HB⟩
        rw [(unhide HOK).1, (unhide HOK).2]; rfl
#print axioms rbearer_any

def Shrt (H : List Hd) (k : Nat) : Prop := ∀ (t : Nat) (h : Hd), t < k → H[t]? = some h → h.1.length ≤ 65536 ∧ h.2.length ≤ 65536

set_option maxHeartbeats 8000000 in
theorem authtokBearer_walk (m q : ByteArray) (p : Option Addr) (cp : Nat) (H : List Hd) (y : Option Addr) (yn yc : Nat) (w : World) (h : HdR w p H) (hT : Tb w) :
    Calls Tryd.prog 3 #[.agg #[.string m, .string q, .slice p H.length cp, .slice y yn yc]] w fun e w' => e = .returned (.bool true) ∧ Below w.heap.size w w' := by
  have hle := h.le
  unfold maxLen at hle
  obtain ⟨W, hW⟩ : ∃ W, W = w.alloc (.cells #[.string m, .string q, .slice p H.length cp, .slice y yn yc] 25) := ⟨_, rfl⟩
  have hB : Below w.heap.size w W := by rw [hW]; exact (Below.refl _ _).alloc (Nat.le_refl _) _
  have hF : W.heap[w.heap.size]? = some (.cells #[.string m, .string q, .slice p H.length cp, .slice y yn yc] 25 (0, 0)) := by rw [hW]; exact heap_alloc_new w _
  have HF := hide hF
  have HH := hide h
  have HT := hide hT
  have HB := hide hB
  clear hF h hT hB
  go_enter Tryd.func3, Tryd.ntmps3
  go_upto_region 1 with fail
  rw [← hW]
  clear hW
  go_wp2
  go_loopw [3, 4] (fun n i wr => ∃ k : Nat, k ≤ H.length ∧ i = .int .i64 (k : Int) ∧ ∃ N : Nat, n = .int .i64 (N : Int) ∧ N ≤ 200000 ∧ k * 8 ≤ N ∧ Hid (N ≤ 65536 → Shrt H k) ∧ Hid (wr.heap[w.heap.size]? = some (.cells #[.string m, .string q, .slice p H.length cp, .slice y yn yc] 25 (0, 0))) ∧ Hid (Below w.heap.size w wr)) (fun _ i _ => H.length - (intOf i).toNat)
  case atStart => exact ⟨0, Nat.zero_le _, rfl, 0, rfl, by omega, by omega, (fun _ t h ht => by omega), HF, HB⟩
  case round =>
    clear HF HB
    obtain ⟨k, hk, rfl, N, rfl, hN, hkN, hsh, hf, hb⟩ := hrel
    have r2 : wr.cell? ⟨w.heap.size, 2, none⟩ = some (.slice p H.length cp) := by rw [cell_of_row wr w.heap.size 2 _ _ _ (unhide hf)]; rfl
    by_cases hbig : 65536 < N
    · have n1 : decide ((N : Int) ≤ 65536) = false := decide_eq_false (by omega)
      have n2 : decide ((65536 : Int) < (N : Int)) = true := decide_eq_true (by omega)
      have HTT := hide ((unhide HT).below (unhide hb) (unhide HT).big)
      clear hbig hsh
      by_cases hlt : k < H.length
      · have hlt' : (k : Int) < (H.length : Int) := by omega
        clear hlt
        go_wp2_with (go_at_call 4; refine (awake_any wr (unhide HTT)).mono ?_; rintro e w2 ⟨rfl, hb2⟩)
        go_ret
        exact ⟨rfl, (unhide hb).trans (hb2.mono (unhide hb).size)⟩
      · have hlt' : ¬ (k : Int) < (H.length : Int) := by omega
        clear hlt
        go_wp2_with (go_at_call 4; refine (awake_any wr (unhide HTT)).mono ?_; rintro e w2 ⟨rfl, hb2⟩)
        go_ret
        exact ⟨rfl, (unhide hb).trans (hb2.mono (unhide hb).size)⟩
    · have n1 : decide ((N : Int) ≤ 65536) = true := decide_eq_true (by omega)
      have n2 : decide ((65536 : Int) < (N : Int)) = false := decide_eq_false (by omega)
      by_cases hlt : k < H.length
      · have hlt' : (k : Int) < (H.length : Int) := by omega
        obtain ⟨d, hd⟩ : ∃ d, H[k]? = some d := ⟨_, List.getElem?_eq_getElem hlt⟩
        obtain ⟨b, off, hpe, hc⟩ := ((unhide HH).below (unhide hb) (Nat.le_refl _)).mem (by intro e; subst e; simp at hd)
        subst hpe
        obtain ⟨c0, c1⟩ := hc k d hd
        have z1 : (str d.1).size = d.1.length := str_size d.1
        have z2 : (str d.2).size = d.2.length := str_size d.2
        obtain ⟨A, hA⟩ : ∃ A : Nat, A = min d.1.length 65536 := ⟨_, rfl⟩
        obtain ⟨B, hBB⟩ : ∃ B : Nat, B = min d.2.length 65536 := ⟨_, rfl⟩
        have m1 : min (d.1.length : Int) 65536 = (A : Int) := by omega
        have m2 : min (d.2.length : Int) 65536 = (B : Int) := by omega
        have hA2 : A ≤ 65536 := by omega
        have hB2 : B ≤ 65536 := by omega
        have HSH : Hid (N + (8 + A + B) ≤ 65536 → Shrt H (k + 1)) := by
          intro hle2 t h' ht hh'
          by_cases e : t = k
          · subst e
            rw [hd] at hh'
            obtain rfl := Option.some.inj hh'
            omega
          · exact unhide hsh (by omega) t h' (by omega) hh'
        have hN6 : N ≤ 65536 := by omega
        clear hc hd hsh hA hBB hbig
        go_wp2
        go_quiet (fail)
        have HF2 := hide (((below_drewN (Below.refl wr.heap.size wr) nq).block _ (Array.getElem?_eq_some_iff.1 (unhide hf)).1).trans (unhide hf))
        have HB2 := hide (below_drewN (unhide hb) nq)
        go_wp2
        go_roundw
        case rel => exact ⟨k + 1, by omega, by go_num, N + (8 + A + B), by go_num, by omega, by omega, HSH, HF2, HB2⟩
        case measure => simp [intOf]; omega
      · obtain rfl : k = H.length := by omega
        have hlt' : ¬ (H.length : Int) < (H.length : Int) := by omega
        have hsm : HdS H := fun t h' ht => by
          have := unhide hsh (by omega) t h' (List.getElem?_eq_some_iff.1 ht).1 ht
          omega
        have hl6 : H.length ≤ 1000000 := by omega
        have HSM := hide hsm
        have HHr := hide ((unhide HH).below (unhide hb) (Nat.le_refl _))
        have r0 : wr.cell? ⟨w.heap.size, 0, none⟩ = some (.string m) := by rw [cell_of_row wr w.heap.size 0 _ _ _ (unhide hf)]; rfl
        have r1 : wr.cell? ⟨w.heap.size, 1, none⟩ = some (.string q) := by rw [cell_of_row wr w.heap.size 1 _ _ _ (unhide hf)]; rfl
        have r3 : wr.cell? ⟨w.heap.size, 3, none⟩ = some (.slice y yn yc) := by rw [cell_of_row wr w.heap.size 3 _ _ _ (unhide hf)]; rfl
        clear hsh hbig hlt hsm
        obtain ⟨T, hTT⟩ : ∃ T, berT H = T := ⟨_, rfl⟩
        obtain ⟨g, hg⟩ : ∃ g, okT (only H) = g := ⟨_, rfl⟩
        have HP := hide (bearer_any m q p cp H y yn yc wr (unhide HHr) (unhide HSM) hl6)
        rw [hTT, hg] at HP
        go_upto_region 9 with (go_at_call 5; refine (unhide HP).mono ?_; rintro e w2 ⟨rfl, HB2⟩)
        have HF2 := hide (((unhide HB2).block _ (Array.getElem?_eq_some_iff.1 (unhide hf)).1).trans (unhide hf))
        have HBw := hide ((unhide hb).trans ((unhide HB2).mono (unhide hb).size))
        have HP2 := hide (rbearer_any m q p cp H y yn yc w2 ((unhide HHr).below (unhide HB2) (Nat.le_refl _)) (unhide HSM) hl6)
        rw [(okH_eq H).1, (okH_eq H).2, hTT, hg] at HP2
        clear r0 r1 r2 r3 HP hTT hg
        have r0 : w2.cell? ⟨w.heap.size, 0, none⟩ = some (.string m) := by rw [cell_of_row w2 w.heap.size 0 _ _ _ (unhide HF2)]; rfl
        have r1 : w2.cell? ⟨w.heap.size, 1, none⟩ = some (.string q) := by rw [cell_of_row w2 w.heap.size 1 _ _ _ (unhide HF2)]; rfl
        have r2 : w2.cell? ⟨w.heap.size, 2, none⟩ = some (.slice p H.length cp) := by rw [cell_of_row w2 w.heap.size 2 _ _ _ (unhide HF2)]; rfl
        have r3 : w2.cell? ⟨w.heap.size, 3, none⟩ = some (.slice y yn yc) := by rw [cell_of_row w2 w.heap.size 3 _ _ _ (unhide HF2)]; rfl
        go_upto_region 10 with (go_at_call 6; refine (unhide HP2).mono ?_; rintro e w3 ⟨rfl, HB3⟩)
        have HBx := hide ((unhide HBw).trans ((unhide HB3).mono (unhide HBw).size))
        have HT3 := hide ((unhide HT).below (unhide HBx) (unhide HT).big)
        have s1 : ((str T).toList == (str T).toList) = true := beq_self_eq_true _
        have s2 : (g == g) = true := by cases g <;> rfl
        clear r0 r1 r2 r3 HP2
        go_wp2_with (go_at_call 4; refine (awake_any w3 (unhide HT3)).mono ?_; rintro e w4 ⟨rfl, hb4⟩)
        go_ret
        exact ⟨rfl, (unhide HBx).trans (hb4.mono (unhide HBx).size)⟩
#print axioms authtokBearer_walk
end Go.Proofs.YtoapkajlgnlecaaDoor
