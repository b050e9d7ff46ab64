/-
  jsonx's statements: how long the text of a value is that may be gone through.; jsonx: the document's own Print, over what its text owes.
-/
import Derived.Test.YtbnbngmnoffmkaaGreatDoorPkJntsbr
import Derived.Test.YtbnbngmnoffmkaaGreatDoorPkJntsbs
section
set_option linter.unusedVariables false
set_option maxRecDepth 1000000
namespace Go.Proofs.YtbnbngmnoffmkaaGreatDoor
open Go.RowKit

def nmW (ns : List (List UInt8)) : Nat := (ns.map fun s => s.length / 16).sum
theorem smN_eq : ∀ (ns : List (List UInt8)) (l l' : Int), smN l ns = some l' → l' = l - (nmW ns : Int)
  | [], l, l', h => by simp only [smN, Option.some.injEq] at h; subst h; simp [nmW]
  | s :: r, l, l', h => by
    simp only [smN] at h
    split at h
    · cases h
    · have := smN_eq r _ l' h
      unfold nmW at this ⊢
      simp only [List.map_cons, List.sum_cons]
      omega
theorem quo_le (s : List UInt8) : (quo s).length ≤ 6 * s.length + 2 := by
  have := qtA_len s
  unfold quo
  simp
  omega
theorem joF_sum : ∀ (L : List (List UInt8)) (f : Bool), (joF f L).length ≤ (L.map fun x => x.length + 1).sum
  | [], f => by simp [joF]
  | x :: r, f => by
    have := joF_sum r false
    unfold joF
    simp only [List.length_append, List.map_cons, List.sum_cons]
    split <;> simp <;> omega
theorem sum_perm {a b : List Nat} (h : a.Perm b) : a.sum = b.sum := by
  induction h with
  | nil => rfl
  | cons x _ ih => simp only [List.sum_cons]; omega
  | swap x y l => simp only [List.sum_cons]; omega
  | trans _ _ i1 i2 => omega
theorem map_getD (is : List Js) : (List.range is.length).map (fun i => is.getD i Js.nul) = is := by
  apply List.ext_getElem
  · simp
  · intro i h1 h2
    simp only [List.getElem_map, List.getElem_range]
    rw [List.getD_eq_getElem?_getD, List.getElem?_eq_getElem h2]
    rfl
theorem sum_add (f g : Nat → Nat) : ∀ l : List Nat, (l.map fun i => f i + g i).sum = (l.map f).sum + (l.map g).sum
  | [] => rfl
  | x :: r => by
    have := sum_add f g r
    simp only [List.map_cons, List.sum_cons]
    omega
theorem names_le : ∀ ns : List (List UInt8), (ns.map fun s => (quo s).length + 1).sum ≤ 96 * nmW ns + 93 * ns.length
  | [] => by simp [nmW]
  | s :: r => by
    have h1 := names_le r
    have h2 := quo_le s
    unfold nmW at h1 ⊢
    simp only [List.map_cons, List.sum_cons, List.length_cons]
    omega
theorem smL_sum (n : Nat) (deep : Int) : ∀ (is : List Js) (l l' : Int), (∀ x ∈ is, ∀ a b, smJ deep a x = some b → ((prN n x).length : Int) + 1 ≤ 128 * (a - b)) → smL deep l is = some l' → (((is.map fun x => (prN n x).length + 1).sum : Nat) : Int) ≤ 128 * (l - l')
  | [], l, l', _, h => by simp only [smL, Option.some.injEq] at h; subst h; simp
  | j :: r, l, l', hr, h => by
    simp only [smL] at h
    cases hj : smJ deep l j with
    | none => rw [hj] at h; cases h
    | some z =>
      rw [hj] at h
      have h1 := hr j List.mem_cons_self l z hj
      have h2 := smL_sum n deep r z l' (fun x hx => hr x (List.mem_cons_of_mem _ hx)) h
      simp only [List.map_cons, List.sum_cons]
      omega
theorem itoa_le (n : Int) (h0 : -9223372036854775808 ≤ n) (h1 : n ≤ 9223372036854775807) : (Lib.itoa n).length ≤ 21 := Lib.itoa_length_le n h0 h1
/-- A text's length off what smJ takes. -/
theorem text_bound : ∀ (n : Nat) (j : Js) (deep l l' : Int), ck n j = 0 → Sz j → smJ deep l j = some l' → ((prN n j).length : Int) + 1 ≤ 128 * (l - l')
  | n, .mk k i t ns is, deep, l, l', hck, hz, h => by
    obtain ⟨hw, hnd, h45⟩ := ck_zero n k i t ns is hck
    simp only [Sz] at hz
    obtain ⟨hz1, _, _, _, _, hz6⟩ := hz
    simp only [smJ] at h
    split at h
    · cases h
    · rename_i hc
      cases hn : smN (l - (1 + (ns.length : Int))) ns with
      | none => rw [hn] at h; cases h
      | some l2 =>
        rw [hn] at h
        have e2 := smN_eq ns _ l2 hn
        simp only at h
        cases hl : smL (deep + 1) (l2 - ((t.length / 16 : Nat) : Int)) is with
        | none => rw [hl] at h; cases h
        | some l4 =>
          rw [hl] at h
          simp only at h
          split at h
          · simp only [Option.some.injEq] at h
            subst h
            by_cases hk4 : k < 4
            · obtain ⟨rfl, rfl, hkk⟩ := wf_flat hw hk4
              simp only [smL, Option.some.injEq] at hl
              obtain ⟨P, hP⟩ := prN_F n (.mk k i t [] [])
              rw [hP]
              simp only [nmW, List.map_nil, List.sum_nil, List.length_nil] at e2
              rcases hkk with ⟨rfl, rfl, rfl⟩ | ⟨rfl, hi, rfl⟩ | ⟨rfl, rfl⟩ | ⟨rfl, rfl, _⟩
              · have e : prF P (.mk 0 0 [] [] []) = [110, 117, 108, 108] := rfl
                rw [e]; simp at hl ⊢; omega
              · rcases hi with rfl | rfl
                · have e : prF P (.mk 1 0 [] [] []) = [102, 97, 108, 115, 101] := rfl
                  rw [e]; simp at hl ⊢; omega
                · have e : prF P (.mk 1 1 [] [] []) = [116, 114, 117, 101] := rfl
                  rw [e]; simp at hl ⊢; omega
              · have e : prF P (.mk 2 i [] [] []) = Lib.itoa i := rfl
                have := itoa_le i hz1.1 hz1.2
                rw [e]; simp at hl; omega
              · have e : prF P (.mk 3 0 t [] []) = quo t := rfl
                have := quo_le t
                rw [e]; omega
            · obtain ⟨hkk, _⟩ := wf_kind hw
              have hk : k = 4 ∨ k = 5 := by omega
              obtain ⟨m, e, hit⟩ := h45 hk
              subst e
              have hS := smL_sum m (deep + 1) is _ l4 (fun x hx a b hab => text_bound m x (deep + 1) a b (hit x hx) ((szs_iff is).1 hz6 x hx) hab) hl
              rcases hk with rfl | rfl
              · obtain ⟨rfl, rfl, rfl⟩ := wf4 hw rfl
                have e : prN (m + 1) (.mk 4 0 [] [] is) = [91] ++ joF true (is.map (prN m)) ++ [93] := pr4 (prN m) 0 [] [] is
                have hj := joF_sum (is.map (prN m)) true
                rw [List.map_map] at hj
                have hj2 : (joF true (is.map (prN m))).length ≤ (is.map fun x => (prN m x).length + 1).sum := hj
                rw [e]
                simp [nmW] at e2 hS ⊢
                omega
              · obtain ⟨rfl, rfl, hnl, _⟩ := wf5 hw rfl
                have e : prN (m + 1) (.mk 5 0 [] ns is) = [123] ++ joF true ((ordS ns).map (memP (prN m) ns is)) ++ [125] := pr5 (prN m) 0 [] ns is
                have hj := joF_sum ((ordS ns).map (memP (prN m) ns is)) true
                have hp := sum_perm (((ordS_ris ns).1.map (memP (prN m) ns is)).map fun x => x.length + 1)
                rw [hp, List.map_map] at hj
                have hf : ∀ q, (memP (prN m) ns is q).length + 1 = ((quo (nmA ns q)).length + 1) + ((prN m (is.getD q Js.nul)).length + 1) := fun q => by
                  unfold memP
                  simp only [List.length_append, List.length_cons, List.length_nil]
                  omega
                have hj2 : (joF true ((ordS ns).map (memP (prN m) ns is))).length ≤ ((List.range ns.length).map fun q => ((quo (nmA ns q)).length + 1) + ((prN m (is.getD q Js.nul)).length + 1)).sum := by
                  refine Nat.le_trans hj (Nat.le_of_eq (congrArg List.sum (List.map_congr_left (fun q _ => hf q))))
                rw [sum_add] at hj2
                have q1 : ((List.range ns.length).map fun q => (quo (nmA ns q)).length + 1) = ns.map fun s => (quo s).length + 1 := by
                  have := congrArg (List.map fun s => (quo s).length + 1) (map_nmA ns)
                  rw [List.map_map] at this
                  exact this
                have q2 : ((List.range ns.length).map fun q => (prN m (is.getD q Js.nul)).length + 1) = is.map fun x => (prN m x).length + 1 := by
                  have := congrArg (List.map fun x => (prN m x).length + 1) (map_getD is)
                  rw [List.map_map] at this
                  rw [hnl]
                  exact this
                rw [q1, q2] at hj2
                have hn2 := names_le ns
                rw [e]
                simp only [List.length_nil] at e2 hS
                simp only [List.length_append, List.length_cons, List.length_nil]
                simp at hS
                omega
          · cases h
theorem can_bound (j : Js) (hi : Ib j) (hc : canM j = true) (hck : ck 16 j = 0) : (prN 16 j).length ≤ 1000000 := by
  have hz := canM_sz j hi hc
  unfold canM at hc
  obtain ⟨l', hl⟩ := Option.isSome_iff_exists.1 hc
  have h1 := text_bound 16 j 0 5000 l' hck hz hl
  have h2 := smJ_good _ j 0 5000 l' (Nat.lt_succ_self _) hi (by omega) hl
  omega
#print axioms can_bound
end Go.Proofs.YtbnbngmnoffmkaaGreatDoor
end
section
set_option linter.unusedVariables false
set_option maxRecDepth 1000000
namespace Go.Proofs.YtbnbngmnoffmkaaGreatDoor
open Go.RowKit

set_option maxHeartbeats 4000000 in
theorem rprint_of (j : Js) (HT : TxJ 16 j) (S : Nat → Prop) (v : Value) (w : World) (hJ : JV w S v j) (hS : ∀ k, S k → k < w.heap.size) (hz : Sz j) (hb : ck 16 j = 0 → (prN 16 j).length ≤ 1000000) :
    Calls Tryz.prog 13 #[v] w fun e w' => e = .returned (.tuple #[.string (str (prM j).1), .int .i64 ((prM j).2 : Int)]) ∧ Hid (Below w.heap.size w w') := by
  obtain ⟨k, n, t, a1, n1, c1, a2, n2, c2, rfl⟩ := hJ.form
  obtain ⟨W, hW⟩ : ∃ W, W = w.alloc (.cells #[.int .i64 k, .int .i64 n, .string (str t), .slice a1 n1 c1, .slice a2 n2 c2] 25) := ⟨_, rfl⟩
  obtain ⟨V, hV⟩ : ∃ V, V = w.heap.size := ⟨_, rfl⟩
  have bW : Below w.heap.size w W := by rw [hW]; exact (Below.refl _ _).alloc (Nat.le_refl _) _
  have rW : W.heap[V]? = some (.cells #[.int .i64 k, .int .i64 n, .string (str t), .slice a1 n1 c1, .slice a2 n2 c2] 25 (0, 0)) := by rw [hW, hV]; exact heap_alloc_new _ _
  have HB := hide bW
  have HRW := hide rW
  have HC := hide (rcheckJ_any j S _ W (JV.keep (fun k hk => ⟨hk, bW.block k (hS k hk)⟩) _ _ hJ) (fun k hk => Nat.lt_of_lt_of_le (hS k hk) bW.size) hz)
  have HTX : Hid (ck 16 j = 0 → ∀ u, Below W.heap.size W u → Calls Tryz.prog 27 #[.agg #[.int .i64 k, .int .i64 n, .string (str t), .slice a1 n1 c1, .slice a2 n2 c2]] u fun e w' => e = .returned (.string (str (prN 16 j))) ∧ Hid (Below u.heap.size u w')) := fun hc u hu =>
    HT S _ u (JV.keep (fun k hk => ⟨hk, (hu.block k (Nat.lt_of_lt_of_le (hS k hk) bW.size)).trans (bW.block k (hS k hk))⟩) _ _ hJ) (fun k hk => Nat.lt_of_lt_of_le (hS k hk) (Nat.le_trans bW.size hu.size)) hc hz (by have := hb hc; omega)
  have HBN := hide hb
  have HP : Hid (prM j = if ck 16 j ≠ 0 then ([], ck 16 j) else if 65536 < (prN 16 j).length then ([], 4) else (prN 16 j, 0)) := rfl
  generalize hPR : prM j = PR at HP ⊢
  generalize hE : ck 16 j = E at HC HTX HBN HP
  generalize hT : prN 16 j = T at HTX HBN HP
  obtain ⟨p0, p1, p2, p3, p4⟩ := cells5 rW
  clear hJ hS hz rW bW hb hPR hE hT HT
  go_enter Tryz.func13, Tryz.ntmps13
  go_upto_region 1 with fail
  rw [← hW, ← hV]
  clear hW hV
  go_wp2_with fail
  refine (unhide HC).mono ?_
  rintro e w1 ⟨rfl, h1⟩
  clear HC p0 p1 p2 p3 p4
  by_cases hE0 : E = 0
  · subst hE0
    have HT1 := hide (unhide HTX rfl w1 (unhide h1))
    have hTl := unhide HBN rfl
    have HP2 : Hid (PR = if 65536 < T.length then ([], 4) else (T, 0)) := by show _ = _; rw [unhide HP, if_neg (by simp)]
    have zT : (str T).size = T.length := str_size T
    obtain ⟨p0, p1, p2, p3, p4⟩ := cells5 (((unhide h1).block V (Array.getElem?_eq_some_iff.1 (unhide HRW)).1).trans (unhide HRW))
    simp only [show ((0 : Nat) : Int) = 0 from rfl]
    have HBN0 := HBN
    clear HTX HP HBN HBN0
    go_wp2_with fail
    refine (unhide HT1).mono ?_
    rintro e w2 ⟨rfl, h2⟩
    have HF : Hid (Below w.heap.size w w2) := (unhide HB).trans (((unhide h1).trans ((unhide h2).mono (unhide h1).size)).mono (unhide HB).size)
    clear HT1 p0 p1 p2 p3 p4 h1 h2
    by_cases hl : 65536 < T.length
    · have hl' : (65536 : Int) < (T.length : Int) := by omega
      have HE : Hid (PR = ([], 4)) := by show _ = _; rw [unhide HP2, if_pos hl]
      clear hl HP2
      go_wp2_with fail
      refine ⟨rfl, _, by simp [results, Tryz.results13, go_sem]; rfl, ?_⟩
      rw [unhide HE]
      exact ⟨rfl, HF⟩
    · have hl' : ¬ (65536 : Int) < (T.length : Int) := by omega
      have HE : Hid (PR = (T, 0)) := by show _ = _; rw [unhide HP2, if_neg hl]
      clear hl HP2
      go_wp2_with fail
      refine ⟨rfl, _, by simp [results, Tryz.results13, go_sem]; rfl, ?_⟩
      rw [unhide HE]
      exact ⟨rfl, HF⟩
  · have hE1 : (((E : Nat) : Int) != 0) = true := by simp; omega
    have HE : Hid (PR = ([], E)) := by show _ = _; rw [unhide HP, if_pos hE0]
    have HF : Hid (Below w.heap.size w w1) := (unhide HB).trans ((unhide h1).mono (unhide HB).size)
    clear hE0 HTX HP HBN h1
    go_wp2_with fail
    refine ⟨rfl, _, by simp [results, Tryz.results13, go_sem]; rfl, ?_⟩
    rw [unhide HE]
    exact ⟨rfl, HF⟩
#print axioms rprint_of
end Go.Proofs.YtbnbngmnoffmkaaGreatDoor
end
