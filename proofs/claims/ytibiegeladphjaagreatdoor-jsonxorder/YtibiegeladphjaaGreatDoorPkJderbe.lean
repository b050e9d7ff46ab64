/-
  jsonx as mathematics: a beginning of a print.; for all numbers and texts JsonxDeep answers true.
-/
import Derived.Test.YtibiegeladphjaaGreatDoorPkJderbd
import Derived.Test.YtibiegeladphjaaGreatDoorPkJderbc
section
set_option linter.unusedVariables false
namespace Go.Proofs.YtibiegeladphjaaGreatDoor
open Go.RowKit

/-- A beginning, and not the whole. -/
def Pp (p l : List UInt8) : Prop := ∃ r, l = p ++ r ∧ r ≠ []
theorem Pp.lt {p l : List UInt8} (h : Pp p l) : p.length < l.length := by
  obtain ⟨r, e, hr⟩ := h
  have := List.length_pos_iff.2 hr
  rw [e, List.length_append]
  omega
/-- A beginning of two texts, one behind the other. -/
theorem pp_app {p a b : List UInt8} (h : Pp p (a ++ b)) : Pp p a ∨ ∃ q, p = a ++ q ∧ Pp q b := by
  obtain ⟨r, e, hr⟩ := h
  rcases List.append_eq_append_iff.1 e with ⟨z, h1, h2⟩ | ⟨z, h1, h2⟩
  · exact .inr ⟨z, h1, r, h2, hr⟩
  · by_cases hz : z = []
    · subst hz
      rw [List.append_nil] at h1
      refine .inr ⟨[], by rw [List.append_nil, h1], r, ?_, hr⟩
      rw [List.nil_append] at h2 ⊢
      exact h2.symm
    · exact .inl ⟨z, h1, hz⟩
theorem pp_cons {p : List UInt8} {c : UInt8} {b : List UInt8} (h : Pp p (c :: b)) : p = [] ∨ ∃ q, p = c :: q ∧ Pp q b := by
  rcases pp_app (a := [c]) h with ⟨r, e, hr⟩ | ⟨q, e, hq⟩
  · left
    cases p with
    | nil => rfl
    | cons x p =>
      have k1 := congrArg List.length e
      have k2 := List.length_pos_iff.2 hr
      simp only [List.length_cons, List.length_append, List.length_nil] at k1
      omega
  · exact .inr ⟨q, e, hq⟩
theorem pp_nil {p : List UInt8} (h : Pp p []) : False := by have := h.lt; simp at this
theorem chl_cut : ∀ (q p : List UInt8), (∀ a b, p ++ q = a ++ b → a ≠ [] → fuB a = false) → chL p q = .no [] 40
  | [], p, _ => rfl
  | c :: q, p, h => by
    have h1 := h (p ++ [c]) q (by simp) (by simp)
    rw [chL, if_neg (by rw [h1]; simp)]
    refine chl_cut q (p ++ [c]) (fun a b e ha => h a b ?_ ha)
    rw [← e]; simp
def isNo (R : Rs Nat) : Bool := match R with | .no [] 40 => true | _ => false
theorem isNo_eq {R : Rs Nat} (h : isNo R = true) : R = .no [] 40 := by
  unfold isNo at h
  split at h
  · rfl
  · cases h
theorem es_cut : ∀ (c : Fin 128) (k : Fin 6), 1 ≤ k.val → k.val < (qcB (UInt8.ofNat c.val)).length → (((qcB (UInt8.ofNat c.val)).take k.val).getD 0 0 = 92 ∧ isNo (esM ((qcB (UInt8.ofNat c.val)).take k.val)) = true) := by decide +kernel
theorem uql_cut : ∀ (N : Nat) (t acc q : List UInt8) (f : Nat), t.length ≤ N → chr t = none → (q = qtA t ∨ Pp q (qtA t)) → q.length < f → uqL f acc q = .no [] 40
  | N, [], acc, q, f, hN, hc, hq, hf => by
    have e : q = [] := by
      rcases hq with e | h
      · exact e
      · exact (pp_nil h).elim
    subst e
    obtain ⟨f', rfl⟩ : ∃ f', f = f' + 1 := ⟨f - 1, by omega⟩
    rfl
  | 0, c :: t, acc, q, f, hN, hc, hq, hf => by simp at hN
  | N + 1, c0 :: t0, acc, q, f, hN, hc, hq, hf => by
    obtain ⟨p, r, e, hp, hpc, hrc, hpre, hfull, hk⟩ := char_one (c0 :: t0) (by simp) hc
    rw [e] at hN hq
    have hpl := List.length_pos_iff.2 hp
    have eq0 : qtA (p ++ r) = qtA p ++ qtA r := by unfold qtA; exact List.flatMap_append
    rw [eq0] at hq
    simp only [List.length_append] at hN
    obtain ⟨f', rfl⟩ : ∃ f', f = f' + 1 := ⟨f - 1, by omega⟩
    have hq2 : Pp q (qtA p) ∨ ∃ q', q = qtA p ++ q' ∧ (q' = qtA r ∨ Pp q' (qtA r)) := by
      rcases hq with h | h
      · exact .inr ⟨qtA r, h, .inl rfl⟩
      · rcases pp_app h with h | ⟨q', h1, h2⟩
        · exact .inl h
        · exact .inr ⟨q', h1, .inr h2⟩
    by_cases hqn : q = []
    · subst hqn; rfl
    rcases hk with ⟨c, rfl, hcl⟩ | hk
    · have e1 : qtA [c] = qcB c := by unfold qtA; simp
      rw [e1] at hq2
      rcases hq2 with h | ⟨q', rfl, h⟩
      · obtain ⟨z, hz, hzn⟩ := h
        have hz2 := List.length_pos_iff.2 hzn
        have hq3 := List.length_pos_iff.2 hqn
        have hlz := congrArg List.length hz
        rw [List.length_append] at hlz
        have hq6 : q.length < 6 := by have := qc_len c; omega
        have eq : q = (qcB c).take q.length := by rw [hz]; simp
        have ec : UInt8.ofNat c.toNat = c := by simp
        have hes := es_cut ⟨c.toNat, hcl⟩ ⟨q.length, hq6⟩ hq3
        simp only at hes
        rw [ec, ← eq] at hes
        obtain ⟨h1, h2⟩ := hes (by omega)
        have h3 := isNo_eq h2
        cases q with
        | nil => exact absurd rfl hqn
        | cons x q =>
          simp only [List.getD_cons_zero] at h1
          subst h1
          rw [uqL, if_neg (by decide), if_pos rfl, h3]
      · have e4 : enB c.toNat = [c] := by unfold enB; rw [if_pos hcl]; simp
        by_cases h1 : c = 34 ∨ c = 92
        · have e2 : qcB c = [92, c] := by unfold qcB; rw [if_pos h1]
          rw [e2] at hf ⊢
          have e3 : esM (92 :: c :: q') = .ok c.toNat q' := by
            unfold esM
            simp only [tkM]
            rw [if_pos trivial]
            simp only
            rcases h1 with rfl | rfl <;> rfl
          simp only [List.cons_append, List.nil_append]
          rw [uqL, if_neg (by decide), if_pos rfl, e3]
          simp only
          simp only [List.cons_append, List.nil_append, List.length_cons] at hf
          exact uql_cut N r _ q' f' (by simp at hN; omega) hrc h (by omega)
        · by_cases h2 : c.toNat < 32
          · obtain ⟨a, b, k1, k2⟩ := hc_low ⟨c.toNat, h2⟩
            simp only at k1 k2
            rw [show UInt8.ofNat c.toNat = c by simp] at k1
            rw [k1] at hf ⊢
            have e3 : esM (92 :: 117 :: 48 :: 48 :: a :: b :: q') = .ok c.toNat q' := by
              unfold esM
              simp only [tkM]
              rw [if_pos trivial]
              simp only
              rw [if_pos trivial]
              exact k2 _
            simp only [List.cons_append, List.nil_append]
            rw [uqL, if_neg (by decide), if_pos rfl, e3]
            simp only
            simp only [List.cons_append, List.nil_append, List.length_cons] at hf
            exact uql_cut N r _ q' f' (by simp at hN; omega) hrc h (by omega)
          · have e2 : qcB c = [c] := by unfold qcB; rw [if_neg h1, if_neg h2]
            rw [e2] at hf ⊢
            have e3 : chM ([c] ++ q') = .ok [c] q' := chl_char [c] [] _ hpre (by simp) hfull hpc
            simp only [List.cons_append, List.nil_append] at e3 ⊢
            rw [uqL, if_neg (fun e => h1 (.inl e)), if_neg (fun e => h1 (.inr e)), if_neg h2, e3]
            simp only
            simp only [List.cons_append, List.nil_append, List.length_cons] at hf
            exact uql_cut N r _ q' f' (by simp at hN; omega) hrc h (by omega)
    · rw [qtA_high p hk] at hq2
      have first : ∀ x ys, q = x :: ys → x ∈ p → uqL (f' + 1) acc q = (match chM q with | .no r2 y => .no r2 y | .ok p r2 => uqL f' (acc ++ p) r2) := by
        rintro x ys rfl hx
        have hc8 := hk x hx
        rw [uqL, if_neg (fun e => by rw [e] at hc8; exact absurd hc8 (by decide)), if_neg (fun e => by rw [e] at hc8; exact absurd hc8 (by decide)), if_neg (by omega)]
        rfl
      rcases hq2 with h | ⟨q', rfl, h⟩
      · obtain ⟨z, hz, hzn⟩ := h
        cases q with
        | nil => exact absurd rfl hqn
        | cons x q =>
          rw [first x q rfl (by rw [hz]; simp)]
          have : chM (x :: q) = .no [] 40 := chl_cut (x :: q) [] (fun a b e2 ha => by
            rw [List.nil_append] at e2
            refine hpre a (b ++ z) ?_ ha (by simp [hzn])
            rw [hz, e2, List.append_assoc])
          rw [this]
      · obtain ⟨x, p', rfl⟩ : ∃ c p', p = c :: p' := by
          cases p with
          | nil => exact absurd rfl hp
          | cons c p' => exact ⟨c, p', rfl⟩
        have e3 : chM ((x :: p') ++ q') = .ok (x :: p') q' := chl_char (x :: p') [] _ hpre (by simp) hfull hpc
        rw [first x (p' ++ q') rfl List.mem_cons_self, e3]
        simp only
        simp only [List.length_append, List.length_cons] at hf
        exact uql_cut N r _ q' f' (by simp at hN; omega) hrc h (by omega)
theorem uq_cut (t q : List UInt8) (hc : chr t = none) (h : Pp q (quo t)) : uqM q = .no [] 40 := by
  have e : quo t = 34 :: (qtA t ++ [34]) := by unfold quo; simp
  rw [e] at h
  rcases pp_cons h with rfl | ⟨q', rfl, h'⟩
  · rfl
  · unfold uqM
    simp only [tkM]
    rw [if_pos trivial]
    simp only
    refine uql_cut _ t [] q' _ (Nat.le_refl _) hc ?_ (Nat.lt_succ_self _)
    rcases pp_app h' with h1 | ⟨z, rfl, hz⟩
    · exact .inr h1
    · rcases pp_cons hz with rfl | ⟨y, _, hy⟩
      · exact .inl (by simp)
      · exact (pp_nil hy).elim
theorem dec_digs : ∀ (u : Nat), ∀ c ∈ Lib.decDigits u, dgB4 c = true := by
  intro u
  induction u using Nat.strongRecOn with
  | ind u ih =>
    intro c hc
    by_cases h : u < 10
    · rw [Lib.decDigits_one h, List.mem_singleton] at hc
      rw [hc]; exact (d10 h).1
    · rw [Lib.decDigits, dif_neg h, List.mem_append, List.mem_singleton] at hc
      rcases hc with hc | rfl
      · exact ih (u / 10) (by omega) c hc
      · exact (d10 (by omega)).1
theorem dgl_pre (m : Nat) : ∀ (l r : List UInt8) (n k : Nat) (z : List UInt8), (∀ c ∈ l, dgB4 c = true) → dgL m n (l ++ r) = .ok k z → ∃ n', dgL m n l = .ok n' []
  | [], r, n, k, z, _, _ => ⟨n, rfl⟩
  | c :: l, r, n, k, z, h, hd => by
    have hc := h c List.mem_cons_self
    rw [List.cons_append, dgL, if_pos hc] at hd
    rw [dgL, if_pos hc]
    split at hd
    · cases hd
    · rename_i h1
      rw [if_neg h1]
      exact dgl_pre m l r _ k z (fun x hx => h x (List.mem_cons_of_mem _ hx)) hd
theorem dgm_pre (m u : Nat) (hm : u ≤ m) (p : List UInt8) (h : Pp p (Lib.decDigits u)) (hp : p ≠ []) : ∃ n', dgM m p = .ok n' [] := by
  have hd := dgm_dec m u [] ns_nil hm
  rw [List.append_nil] at hd
  have hdig := dec_digs u
  obtain ⟨k, t, h1, h2, h3⟩ := dec_head u
  have hk : k ≠ 0 := by
    intro e
    obtain ⟨_, rfl⟩ := h3 e
    rw [h2] at h
    rcases pp_cons h with e | ⟨q, _, hq⟩
    · exact hp e
    · exact pp_nil hq
  obtain ⟨r, e, hr⟩ := h
  rw [e] at hd hdig
  cases p with
  | nil => exact absurd rfl hp
  | cons c p =>
    have hcc : c = UInt8.ofNat (48 + k) := (List.cons.inj (show UInt8.ofNat (48 + k) :: t = c :: (p ++ r) from h2.symm.trans e)).1.symm
    have hne : c ≠ 48 := by
      intro e2
      rw [hcc] at e2
      have e3 := congrArg UInt8.toNat e2
      rw [(d10 h1).2] at e3
      have : (48 : UInt8).toNat = 48 := rfl
      omega
    have hcd : dgB4 c = true := hdig c (by simp)
    simp only [List.cons_append, dgM] at hd
    rw [if_neg hne, if_pos hcd] at hd
    simp only [dgM]
    rw [if_neg hne, if_pos hcd]
    exact dgl_pre m (c :: p) r 0 u [] (fun x hx => hdig x (by simp at hx ⊢; rcases hx with h | h; exact .inl h; exact .inr (.inl h))) hd
theorem nu_cut (n : Int) (h0 : -9223372036854775808 ≤ n) (h1 : n ≤ 9223372036854775807) (p : List UInt8) (h : Pp p (Lib.itoa n)) (hp : p ≠ []) : (∃ c t, p = c :: t ∧ (c = 45 ∨ dgB4 c = true)) ∧ (nuM p = .no [] 40 ∨ ∃ v, nuM p = .ok v []) := by
  unfold Lib.itoa at h
  split at h
  · rename_i hn
    rcases pp_cons h with e | ⟨q, rfl, hq⟩
    · exact absurd e hp
    · refine ⟨⟨45, q, rfl, .inl rfl⟩, ?_⟩
      rw [nu_neg _ q rfl]
      by_cases hqn : q = []
      · subst hqn; exact .inl rfl
      · obtain ⟨n', e⟩ := dgm_pre 9223372036854775808 n.natAbs (by omega) q hq hqn
        rw [e]
        exact .inr ⟨_, rfl⟩
  · rename_i hn
    have hdig := dec_digs n.toNat
    obtain ⟨n', e⟩ := dgm_pre 9223372036854775807 n.toNat (by omega) p h hp
    obtain ⟨r, er, _⟩ := h
    cases p with
    | nil => exact absurd rfl hp
    | cons c p =>
      have hcd : dgB4 c = true := hdig c (by rw [er]; simp)
      refine ⟨⟨c, p, rfl, .inr hcd⟩, ?_⟩
      have e45 : nxI (c :: p) ≠ 45 := by
        show ((c.toNat : Nat) : Int) ≠ 45
        unfold dgB4 at hcd
        simp only [Bool.and_eq_true, decide_eq_true_eq] at hcd
        omega
      rw [nu_pos _ e45, e]
      exact .inr ⟨_, rfl⟩
/-- A beginning of a print is given up at its end; or it is a number. -/
def CutP (n : Nat) : Prop := ∀ (j : Js) (p : List UInt8), ck n j = 0 → Sz j → Pp p (prN n j) → vaM n p = .no [] 40 ∨ (kd j = 2 ∧ ∃ v, vaM n p = .ok v [])
theorem fl_cut (V : Option (List UInt8 → Rs Js)) (P : Js → List UInt8) (k n : Int) (t : List UInt8) (ns : List (List UInt8)) (is : List Js) (h : wfB (.mk k n t ns is) = true) (hk : k < 4) (hz : -9223372036854775808 ≤ n ∧ n ≤ 9223372036854775807) (p : List UInt8) (hp : Pp p (prF P (.mk k n t ns is))) :
    vaF V p = .no [] 40 ∨ (k = 2 ∧ ∃ v, vaF V p = .ok v []) := by
  obtain ⟨rfl, rfl, hh⟩ := wf_flat h hk
  rw [prF_eq] at hp
  by_cases hpn : p = []
  · subst hpn; exact .inl rfl
  rcases hh with ⟨rfl, rfl, rfl⟩ | ⟨rfl, hn, rfl⟩ | ⟨rfl, rfl⟩ | ⟨rfl, rfl, hc⟩
  · left
    rw [if_pos rfl] at hp
    clear hpn
    rcases pp_cons hp with rfl | ⟨q0, rfl, g0⟩
    · rfl
    rcases pp_cons g0 with rfl | ⟨q1, rfl, g1⟩
    · rfl
    rcases pp_cons g1 with rfl | ⟨q2, rfl, g2⟩
    · rfl
    rcases pp_cons g2 with rfl | ⟨q3, rfl, g3⟩
    · rfl
    exact (pp_nil g3).elim
  · left
    rw [if_neg (by decide), if_pos rfl] at hp
    clear hpn
    rcases hn with rfl | rfl
    · rw [if_neg (by decide)] at hp
      rcases pp_cons hp with rfl | ⟨q0, rfl, g0⟩
      · rfl
      rcases pp_cons g0 with rfl | ⟨q1, rfl, g1⟩
      · rfl
      rcases pp_cons g1 with rfl | ⟨q2, rfl, g2⟩
      · rfl
      rcases pp_cons g2 with rfl | ⟨q3, rfl, g3⟩
      · rfl
      rcases pp_cons g3 with rfl | ⟨q4, rfl, g4⟩
      · rfl
      exact (pp_nil g4).elim
    · rw [if_pos rfl] at hp
      rcases pp_cons hp with rfl | ⟨q0, rfl, g0⟩
      · rfl
      rcases pp_cons g0 with rfl | ⟨q1, rfl, g1⟩
      · rfl
      rcases pp_cons g1 with rfl | ⟨q2, rfl, g2⟩
      · rfl
      rcases pp_cons g2 with rfl | ⟨q3, rfl, g3⟩
      · rfl
      exact (pp_nil g3).elim
  · rw [if_neg (by decide), if_neg (by decide), if_pos rfl] at hp
    obtain ⟨⟨c, r, rfl, hc⟩, hv⟩ := nu_cut n hz.1 hz.2 p hp hpn
    have hd : c ≠ 123 ∧ c ≠ 91 ∧ c ≠ 34 := by
      rcases hc with rfl | hc
      · decide
      · refine ⟨?_, ?_, ?_⟩ <;> (rintro rfl; exact absurd hc (by decide))
    unfold vaF
    simp only
    rw [if_neg hd.1, if_neg hd.2.1, if_neg hd.2.2, if_pos hc]
    rcases hv with e | ⟨v, e⟩
    · rw [e]; exact .inl rfl
    · rw [e]; exact .inr ⟨by first | exact rfl | trivial, _, rfl⟩
  · left
    rw [if_neg (by decide), if_neg (by decide), if_neg (by decide), if_pos rfl] at hp
    have e2 := uq_cut t p hc hp
    have e : quo t = 34 :: (qtA t ++ [34]) := by unfold quo; simp
    rw [e] at hp
    rcases pp_cons hp with rfl | ⟨q, rfl, hq⟩
    · rfl
    · unfold vaF
      simp only
      rw [if_neg (by decide), if_neg (by decide), if_pos trivial, e2]
theorem va_nil (n : Nat) : vaM n [] = .no [] 40 := by
  obtain ⟨V, hV⟩ := vaM_eq n
  rw [hV]; rfl
/-- What a list's items come to, of a beginning. -/
theorem li_cut (n : Nat) (hn : PrR n) (hc : CutP n) : ∀ (is : List Js) (acc : List Js) (f : Nat) (p : List UInt8), is ≠ [] → (∀ j ∈ is, ck n j = 0 ∧ Sz j) → Pp p (joF true (is.map (prN n)) ++ [93]) → p.length < f → liL (vaM n) f acc p = .no [] 40 ∨ ∃ x, liL (vaM n) f acc p = .ok x []
  | [], acc, f, p, h, _, _, _ => absurd rfl h
  | j :: r, acc, 0, p, _, _, _, hf => by omega
  | j :: r, acc, f + 1, p, _, hj, hp, hf => by
    obtain ⟨h1, h2⟩ := hj j List.mem_cons_self
    have one : (Pp p (prN n j) ∨ p = prN n j) → liL (vaM n) (f + 1) acc p = .no [] 40 ∨ ∃ x, liL (vaM n) (f + 1) acc p = .ok x [] := by
      rintro (h | rfl)
      · rw [liL]
        rcases hc j p h1 h2 h with e | ⟨_, v, e⟩
        · rw [e]; exact .inl rfl
        · rw [e]; exact .inr ⟨_, rfl⟩
      · have e := hn j [] h1 h2 ns_nil
        rw [List.append_nil] at e
        rw [liL, e]
        exact .inr ⟨_, rfl⟩
    cases r with
    | nil =>
      have e : joF true ([j].map (prN n)) ++ [93] = prN n j ++ [93] := by simp [joF]
      rw [e] at hp
      rcases pp_app hp with h | ⟨q, rfl, hq⟩
      · exact one (.inl h)
      · rcases pp_cons hq with rfl | ⟨_, _, hq⟩
        · exact one (.inr (by simp))
        · exact (pp_nil hq).elim
    | cons j2 r =>
      have e : joF true ((j :: j2 :: r).map (prN n)) ++ [93] = prN n j ++ (44 :: (joF true ((j2 :: r).map (prN n)) ++ [93])) := by
        rw [List.map_cons, joF]
        have := joF_false (prN n j2) (r.map (prN n))
        rw [List.map_cons, this]
        simp
      rw [e] at hp
      rcases pp_app hp with h | ⟨q, rfl, hq⟩
      · exact one (.inl h)
      · rcases pp_cons hq with rfl | ⟨z, rfl, hz⟩
        · exact one (.inr (by simp))
        · simp only [List.length_append, List.length_cons] at hf
          have hsk : skB z = z := by
            cases z with
            | nil => rfl
            | cons c z =>
              obtain ⟨y, hy, _⟩ := hz
              obtain ⟨c', tt, hc', hb, _⟩ := pr_head n j2 (hj j2 (by simp)).1
              rw [List.map_cons, joF, hc'] at hy
              simp at hy
              rw [← hy.1]
              exact sk_head hb
          rw [liL, hn j _ h1 h2 (ns44 _)]
          simp only
          rw [sk_head (show blB4 44 = false by decide)]
          simp only
          rw [if_pos trivial, hsk]
          exact li_cut n hn hc (j2 :: r) _ f z (by simp) (fun y hy => hj y (List.mem_cons_of_mem _ hy)) hz (by omega)
theorem mb_cut (n : Nat) (hn : PrR n) (hc : CutP n) (ns : List (List UInt8)) (is : List Js) (seen : List (List UInt8)) (i : Nat) (p : List UInt8) (hch : chr (nmA ns i) = none) (hs : nmA ns i ∉ seen) (hj : ck n (is.getD i Js.nul) = 0) (hz : Sz (is.getD i Js.nul)) (hp : Pp p (memP (prN n) ns is i)) :
    mbM (vaM n) seen p = .no [] 40 ∨ ∃ x, mbM (vaM n) seen p = .ok x [] := by
  have e : memP (prN n) ns is i = quo (nmA ns i) ++ (58 :: prN n (is.getD i Js.nul)) := by unfold memP; simp
  rw [e] at hp
  unfold mbM
  rcases pp_app hp with h | ⟨q, rfl, hq⟩
  · rw [uq_cut _ p hch h]; exact .inl rfl
  · rw [uq_quo _ _ hch]
    simp only
    rw [if_neg hs]
    simp only [tkM]
    rw [if_pos trivial]
    simp only
    rcases pp_cons hq with rfl | ⟨z, rfl, hz2⟩
    · exact .inl rfl
    · rw [sk_head (show blB4 58 = false by decide)]
      simp only
      rw [if_pos trivial]
      simp only
      have hsk : skB z = z := by
        cases z with
        | nil => rfl
        | cons c z =>
          obtain ⟨y, hy, _⟩ := hz2
          obtain ⟨c', tt, hc', hb, _⟩ := pr_head n _ hj
          rw [hc'] at hy
          simp at hy
          rw [← hy.1]
          exact sk_head hb
      rw [hsk]
      rcases hc _ z hj hz hz2 with e | ⟨_, v, e⟩
      · rw [e]; exact .inl rfl
      · rw [e]; exact .inr ⟨_, rfl⟩
theorem ob_cut (n : Nat) (hn : PrR n) (hc : CutP n) (ns : List (List UInt8)) (is : List Js) (hch : ∀ s ∈ ns, chr s = none) (hl : ns.length = is.length) (hj : ∀ j ∈ is, ck n j = 0 ∧ Sz j) :
    ∀ (o : List Nat) (an : List (List UInt8)) (ai : List Js) (f : Nat) (p : List UInt8), o ≠ [] → (∀ i ∈ o, i < ns.length ∧ nmA ns i ∉ an) → (o.map (nmA ns)).Nodup → Pp p (joF true (o.map (memP (prN n) ns is)) ++ [125]) → p.length < f →
      obL (vaM n) f an ai p = .no [] 40 ∨ ∃ x, obL (vaM n) f an ai p = .ok x []
  | [], an, ai, f, p, h, _, _, _, _ => absurd rfl h
  | i :: r, an, ai, 0, p, _, _, _, _, hf => by omega
  | i :: r, an, ai, f + 1, p, _, ho, hd, hp, hf => by
    obtain ⟨h1, h2⟩ := ho i List.mem_cons_self
    obtain ⟨k1, k2⟩ := hj _ (getD_mem (show i < is.length by omega))
    have hci : chr (nmA ns i) = none := by rw [nmA_get h1]; exact hch _ (List.getElem_mem h1)
    have one : (Pp p (memP (prN n) ns is i) ∨ p = memP (prN n) ns is i) → obL (vaM n) (f + 1) an ai p = .no [] 40 ∨ ∃ x, obL (vaM n) (f + 1) an ai p = .ok x [] := by
      rintro (h | rfl)
      · rw [obL]
        rcases mb_cut n hn hc ns is an i p hci h2 k1 k2 h with e | ⟨v, e⟩
        · rw [e]; exact .inl rfl
        · rw [e]; exact .inr ⟨_, rfl⟩
      · have e := mb_print n hn ns is an i [] hci h2 k1 k2 ns_nil
        rw [List.append_nil] at e
        rw [obL, e]
        exact .inr ⟨_, rfl⟩
    cases r with
    | nil =>
      have e : joF true ([i].map (memP (prN n) ns is)) ++ [125] = memP (prN n) ns is i ++ [125] := by simp [joF]
      rw [e] at hp
      rcases pp_app hp with h | ⟨q, rfl, hq⟩
      · exact one (.inl h)
      · rcases pp_cons hq with rfl | ⟨_, _, hq⟩
        · exact one (.inr (by simp))
        · exact (pp_nil hq).elim
    | cons i2 r =>
      have e : joF true ((i :: i2 :: r).map (memP (prN n) ns is)) ++ [125] = memP (prN n) ns is i ++ (44 :: (joF true ((i2 :: r).map (memP (prN n) ns is)) ++ [125])) := by
        rw [List.map_cons, joF]
        have := joF_false (memP (prN n) ns is i2) (r.map (memP (prN n) ns is))
        rw [List.map_cons, this]
        simp
      rw [e] at hp
      rcases pp_app hp with h | ⟨q, rfl, hq⟩
      · exact one (.inl h)
      · rcases pp_cons hq with rfl | ⟨z, rfl, hz⟩
        · exact one (.inr (by simp))
        · simp only [List.length_append, List.length_cons] at hf
          have hsk : skB z = z := by
            cases z with
            | nil => rfl
            | cons c z =>
              obtain ⟨y, hy, _⟩ := hz
              obtain ⟨qq, hq⟩ := qs_head (nmA ns i2)
              rw [List.map_cons, joF] at hy
              unfold memP at hy
              rw [hq] at hy
              simp at hy
              rw [← hy.1]
              exact sk_head (by decide)
          rw [List.map_cons, List.nodup_cons] at hd
          rw [obL, mb_print n hn ns is an i _ hci h2 k1 k2 (ns44 _)]
          simp only
          rw [sk_head (show blB4 44 = false by decide)]
          simp only
          rw [if_pos trivial, hsk]
          exact ob_cut n hn hc ns is hch hl hj (i2 :: r) _ _ f z (by simp) (fun y hy => ⟨(ho y (List.mem_cons_of_mem _ hy)).1, fun hm => by
            rcases List.mem_append.1 hm with hm | hm
            · exact (ho y (List.mem_cons_of_mem _ hy)).2 hm
            · rw [List.mem_singleton] at hm
              exact hd.1 (List.mem_map.2 ⟨y, hy, hm⟩)⟩) hd.2 hz (by omega)
theorem mm_cut {α : Type} (cl : UInt8) (z : α) (L : List UInt8 → Rs α) (l : List UInt8) (h : (skB l = [] ∧ L [] = .no [] 40) ∨ ∃ c t, skB l = c :: t ∧ c ≠ cl ∧ (L (c :: t) = .no [] 40 ∨ ∃ x, L (c :: t) = .ok x [])) : mmM cl z L l = .no [] 40 := by
  unfold mmM
  rcases h with ⟨e, h⟩ | ⟨c, t, e, hc, h⟩
  · rw [e]; simp only; rw [h]
  · rw [e]
    simp only
    rw [if_neg hc]
    rcases h with h | ⟨x, h⟩
    · rw [h]
    · rw [h]; rfl
theorem pr_cut : ∀ n, CutP n := by
  intro n
  induction n with
  | zero =>
    intro j p hck hz hp
    cases j with
    | mk k i t ns is =>
    obtain ⟨hw, hnd, h45⟩ := ck_zero 0 k i t ns is hck
    obtain ⟨hkk, _⟩ := wf_kind hw
    have hk : k < 4 := by
      rcases hkk with h | h | h | h | h | h
      · omega
      · omega
      · omega
      · omega
      · obtain ⟨m, e, _⟩ := h45 (.inl h); cases e
      · obtain ⟨m, e, _⟩ := h45 (.inr h); cases e
    simp only [Sz] at hz
    exact fl_cut none _ k i t ns is hw hk hz.1 p hp
  | succ n ih =>
    intro j p hck hz hp
    cases j with
    | mk k i t ns is =>
    obtain ⟨hw, hnd, h45⟩ := ck_zero (n + 1) k i t ns is hck
    obtain ⟨hkk, _⟩ := wf_kind hw
    simp only [Sz] at hz
    obtain ⟨hz1, hz2, hz3, hz4, hz5, hz6⟩ := hz
    show vaF (some (vaM n)) p = _ ∨ _
    by_cases hk4 : k < 4
    · exact fl_cut (some (vaM n)) _ k i t ns is hw hk4 hz1 p hp
    · left
      have hit : ∀ j ∈ is, ck n j = 0 ∧ Sz j := by
        obtain ⟨m, e, h⟩ := h45 (by omega)
        cases e
        exact fun j hj => ⟨h j hj, (szs_iff is).1 hz6 j hj⟩
      by_cases hk : k = 4
      · obtain ⟨rfl, rfl, rfl⟩ := wf4 hw hk
        subst hk
        have hp' : Pp p (prF (prN n) (.mk 4 0 [] [] is)) := hp
        rw [pr4] at hp'
        have e : [91] ++ joF true (is.map (prN n)) ++ [93] = 91 :: (joF true (is.map (prN n)) ++ [93]) := by simp
        rw [e] at hp'
        rcases pp_cons hp' with rfl | ⟨q, rfl, hq⟩
        · rfl
        · unfold vaF
          simp only
          rw [if_neg (by decide), if_pos trivial]
          have hmm : mmM 93 [] (fun l => liL (vaM n) (l.length + 1) [] l) q = .no [] 40 := by
            apply mm_cut
            cases is with
            | nil =>
              left
              rcases pp_cons hq with rfl | ⟨_, _, hq⟩
              · refine ⟨rfl, ?_⟩
                show liL (vaM n) 1 [] [] = _
                rw [liL, va_nil]
              · exact (pp_nil hq).elim
            | cons j r =>
              cases q with
              | nil =>
                left
                refine ⟨rfl, ?_⟩
                show liL (vaM n) 1 [] [] = _
                rw [liL, va_nil]
              | cons c q =>
                right
                obtain ⟨c', tt, hc', hb, h93⟩ := pr_head n j (hit j List.mem_cons_self).1
                have hcc : c' = c := by
                  obtain ⟨y, hy, _⟩ := hq
                  rw [List.map_cons, joF, hc'] at hy
                  simp at hy
                  exact hy.1
                subst hcc
                exact ⟨c', q, sk_head hb, h93, li_cut n (pr_read n) ih (j :: r) [] _ _ (by simp) hit hq (Nat.lt_succ_self _)⟩
          rw [hmm]
      · have hk5 : k = 5 := by omega
        obtain ⟨rfl, rfl, hnl, hch⟩ := wf5 hw hk5
        subst hk5
        have hp' : Pp p (prF (prN n) (.mk 5 0 [] ns is)) := hp
        rw [pr5] at hp'
        have hris := ordS_ris ns
        have hnod : ((ordS ns).map (nmA ns)).Nodup := (ris_names hris).nodup_iff.2 hnd
        generalize ordS ns = o at hris hnod hp'
        have e : [123] ++ joF true (o.map (memP (prN n) ns is)) ++ [125] = 123 :: (joF true (o.map (memP (prN n) ns is)) ++ [125]) := by simp
        rw [e] at hp'
        have obn : obL (vaM n) 1 [] [] [] = .no [] 40 := by
          rw [obL]
          rfl
        rcases pp_cons hp' with rfl | ⟨q, rfl, hq⟩
        · rfl
        · unfold vaF
          simp only
          rw [if_pos trivial]
          have hmm : mmM 125 ([], []) (fun l => obL (vaM n) (l.length + 1) [] [] l) q = .no [] 40 := by
            apply mm_cut
            cases o with
            | nil =>
              left
              rcases pp_cons hq with rfl | ⟨_, _, hq⟩
              · exact ⟨rfl, obn⟩
              · exact (pp_nil hq).elim
            | cons j r =>
              cases q with
              | nil => exact .inl ⟨rfl, obn⟩
              | cons c q =>
                right
                have hcc : 34 = c := by
                  obtain ⟨y, hy, _⟩ := hq
                  obtain ⟨qq, hq⟩ := qs_head (nmA ns j)
                  rw [List.map_cons, joF] at hy
                  unfold memP at hy
                  rw [hq] at hy
                  simp at hy
                  exact hy.1
                subst hcc
                exact ⟨34, q, sk_head (by decide), by decide, ob_cut n (pr_read n) ih ns is hch hnl hit (j :: r) [] [] _ _ (by simp) (fun i hi => ⟨hris.lt i hi, by simp⟩) hnod hq (Nat.lt_succ_self _)⟩
          rw [hmm]
#print axioms pr_cut
theorem cut_math (j : Js) (k : Nat) (h : ck 16 j = 0) (hz : Sz j) (hl : (prN 16 j).length ≤ 65536) (hk : k < (prN 16 j).length) (hkd : 3 ≤ kd j) : psM ((prN 16 j).take k) = (Js.nul, k, 40) := by
  have hlen : ((prN 16 j).take k).length = k := by rw [List.length_take]; omega
  have hpp : Pp ((prN 16 j).take k) (prN 16 j) := ⟨(prN 16 j).drop k, by rw [List.take_append_drop], by
    intro e
    have := congrArg List.length e
    rw [List.length_drop] at this
    simp at this
    omega⟩
  have hv : vaM 16 ((prN 16 j).take k) = .no [] 40 := by
    rcases pr_cut 16 j _ h hz hpp with e | ⟨e, _⟩
    · exact e
    · omega
  have hsk : skB ((prN 16 j).take k) = (prN 16 j).take k := by
    obtain ⟨c, t, e, hb, _⟩ := pr_head 16 j h
    rw [e]
    cases k with
    | zero => rfl
    | succ k => rw [List.take_succ_cons]; exact sk_head hb
  unfold psM
  rw [if_neg (by omega), hsk, hv]
  simp only
  rw [hlen]
  rfl
#print axioms cut_math
end Go.Proofs.YtibiegeladphjaaGreatDoor
end
section
set_option linter.unusedVariables false
set_option maxRecDepth 1000000
namespace Go.Proofs.YtibiegeladphjaaGreatDoor
open Go.RowKit

theorem op40 (o : Int) : ∃ r : Nat, r < 40 ∧ wrap64 ((IntKind.u64.wrap o).tmod 40) = (r : Int) := by
  have e : IntKind.u64.wrap o = o % 18446744073709551616 := by simp [IntKind.wrap, IntKind.bits, IntKind.signed]
  have h0 : 0 ≤ o % 18446744073709551616 := Int.emod_nonneg _ (by omega)
  have e2 : (o % 18446744073709551616).tmod 40 = o % 18446744073709551616 % 40 := Int.tmod_eq_emod_of_nonneg h0
  refine ⟨(o % 18446744073709551616 % 40).toNat, by omega, ?_⟩
  rw [e, e2, IntWalk.wrap64_in _ (by omega)]
  omega
theorem JV.kd {w : World} {S : Nat → Prop} {k : Int} {x1 x2 x3 x4 : Value} {j : Js} (h : JV w S (.agg #[.int .i64 k, x1, x2, x3, x4]) j) : Proofs.YtibiegeladphjaaGreatDoor.kd j = k := by
  cases j with
  | mk k' n t ns is =>
  simp only [JV] at h
  obtain ⟨a1, c1, a2, c2, e, _⟩ := h
  simp only [Value.agg.injEq, Array.mk.injEq, List.cons.injEq, Value.int.injEq, true_and] at e
  exact e.1.symm
/-- A value and its box, which is no part of it. -/
def Bxj (w : World) (B : Nat) (j : Js) : Prop := ∃ k n t a1 n1 c1 a2 n2 c2, w.heap[B]? = some (.cells #[.int .i64 k, .int .i64 n, .string (str t), .slice a1 n1 c1, .slice a2 n2 c2] 25 (0, 0)) ∧ JV w (fun x => x < w.heap.size ∧ x ≠ B) (.agg #[.int .i64 k, .int .i64 n, .string (str t), .slice a1 n1 c1, .slice a2 n2 c2]) j
theorem Bxj.step {w W : World} {B G : Nat} {j : Js} {k n : Int} {t : List UInt8} {a1 a2 : Option Addr} {n1 c1 n2 c2 : Nat} (hG : G = w.heap.size) (hB : B < G)
    (hJ : JV w (fun x => x < w.heap.size ∧ x ≠ B) (.agg #[.int .i64 k, .int .i64 n, .string (str t), .slice a1 n1 c1, .slice a2 n2 c2]) j)
    (hs : W.heap.size = G + 1) (hg : W.heap[G]? = some (.cells #[.int .i64 k, .int .i64 n, .string (str t), .slice a1 n1 c1, .slice a2 n2 c2] 25 (0, 0)))
    (hk : ∀ x, x < G → x ≠ B → W.heap[x]? = w.heap[x]?) (hb : W.heap[B]? = some (.cells #[.int .i64 4, .int .i64 0, .string ⟨#[]⟩, .slice none 0 0, .slice (some ⟨G, 0, none⟩) 1 1] 25 (0, 0))) : Bxj W B (.mk 4 0 [] [] [j]) := by
  refine ⟨4, 0, [], none, 0, 0, some ⟨G, 0, none⟩, 1, 1, hb, ?_⟩
  simp only [JV]
  obtain ⟨g0, g1, g2, g3, g4⟩ := cells5 hg
  refine ⟨none, 0, some ⟨G, 0, none⟩, 1, rfl, fun h => absurd rfl h, Nat.le_refl _, by unfold maxLen; omega, fun _ => rfl, Nat.le_refl _, by unfold maxLen; omega, (fun e => by cases e), ?_⟩
  simp only [JVs]
  refine ⟨⟨G, 0, _, _, _, _, _, rfl, ⟨by omega, by omega⟩, g0, g1, g2, g3, g4, ?_⟩, trivial⟩
  exact JV.keep (fun x hx => ⟨⟨by omega, hx.2⟩, hk x (by omega) hx.2⟩) _ _ hJ
theorem Bxj.round {w0 w : World} {B : Nat} {j : Js} {k n : Int} {t : List UInt8} {a1 a2 : Option Addr} {n1 c1 n2 c2 : Nat} (hB : B < w.heap.size) (hw : Below w0.heap.size w0 w) (hwB : w0.heap.size ≤ B)
    (hr : w.heap[B]? = some (.cells #[.int .i64 k, .int .i64 n, .string (str t), .slice a1 n1 c1, .slice a2 n2 c2] 25 (0, 0)))
    (hJ : JV w (fun x => x < w.heap.size ∧ x ≠ B) (.agg #[.int .i64 k, .int .i64 n, .string (str t), .slice a1 n1 c1, .slice a2 n2 c2]) j) :
    ∀ W, W = ((((((w.setCell ⟨B, 0, none⟩ (.int .i64 4)).setCell ⟨B, 1, none⟩ (.int .i64 0)).setCell ⟨B, 2, none⟩ (.string ⟨#[]⟩)).setCell ⟨B, 3, none⟩ (.slice none 0 0)).setCell ⟨B, 4, none⟩ (.slice (some ⟨w.heap.size, 0, none⟩) 1 1)).alloc (.cells #[.int .i64 k, .int .i64 n, .string (str t), .slice a1 n1 c1, .slice a2 n2 c2] 25)) →
      Hid (Bxj W B (.mk 4 0 [] [] [j])) ∧ Hid (Below w0.heap.size w0 W) ∧ Hid (B < W.heap.size) := by
  intro W hW
  obtain ⟨w5, h5⟩ : ∃ w5, w5 = (((((w.setCell ⟨B, 0, none⟩ (.int .i64 4)).setCell ⟨B, 1, none⟩ (.int .i64 0)).setCell ⟨B, 2, none⟩ (.string ⟨#[]⟩)).setCell ⟨B, 3, none⟩ (.slice none 0 0)).setCell ⟨B, 4, none⟩ (.slice (some ⟨w.heap.size, 0, none⟩) 1 1)) := ⟨_, rfl⟩
  rw [← h5] at hW
  have s5 : w5.heap.size = w.heap.size := by rw [h5]; exact siz5 _ _ _ _ _ _ _ _ _ _ _ _
  have r5 : w5.heap[B]? = some (.cells #[.int .i64 4, .int .i64 0, .string ⟨#[]⟩, .slice none 0 0, .slice (some ⟨w.heap.size, 0, none⟩) 1 1] 25 (0, 0)) := by
    rw [h5]
    exact heap_setCell_same _ _ _ _ _ _ (heap_setCell_same _ _ _ _ _ _ (heap_setCell_same _ _ _ _ _ _ (heap_setCell_same _ _ _ _ _ _ (heap_setCell_same _ _ _ _ _ _ hr))))
  have f5 : ∀ x, x ≠ B → w5.heap[x]? = w.heap[x]? := fun x hx => by rw [h5]; exact far5 _ _ _ _ _ _ _ _ _ _ _ _ _ hx
  have b5 : Below w0.heap.size w0 w5 := by
    obtain ⟨o1, o2, o3⟩ := oth5 w B 0 1 2 3 4 (.int .i64 4) (.int .i64 0) (.string ⟨#[]⟩) (.slice none 0 0) (.slice (some ⟨w.heap.size, 0, none⟩) 1 1)
    rw [← h5] at o1 o2 o3
    exact ⟨o1.trans hw.os, o2.trans hw.tape, o3.trans hw.output, by rw [s5]; exact hw.size, fun x hx => (f5 x (by omega)).trans (hw.block x hx)⟩
  have sW : W.heap.size = w.heap.size + 1 := by rw [hW]; simp [s5]
  have old : ∀ x, x < w.heap.size → W.heap[x]? = w5.heap[x]? := fun x hx => by rw [hW]; exact heap_alloc_old _ _ (by rw [s5]; omega)
  refine ⟨?_, ?_, ?_⟩
  · exact Bxj.step rfl hB hJ sW (by rw [hW, ← s5]; exact heap_alloc_new _ _) (fun x hx hxB => (old x hx).trans (f5 x hxB)) ((old B hB).trans r5)
  · show Below _ _ _
    rw [hW]
    exact b5.alloc (by rw [s5]; exact hw.size) _
  · show _ < _
    omega
theorem str_tn (i : Nat) (s : List UInt8) : (⟨#[91]⟩ : ByteArray) ++ str (tnL i s) ++ (⟨#[93]⟩ : ByteArray) = str (tnL (i + 1) s) := by
  rw [show (⟨#[91]⟩ : ByteArray) = str [91] from rfl, show (⟨#[93]⟩ : ByteArray) = str [93] from rfl, str_app4, str_app4]
  rfl
set_option maxHeartbeats 8000000 in
theorem jdeep_any (n0 : Int) (s : List UInt8) (w : World) (hE : Env4 w) (hl : s.length ≤ maxLen) :
    Calls Tryz.prog 8 #[.int .i64 n0, .string (str s)] w fun e w' => e = .returned (.bool true) ∧ Hid (Below w.heap.size w w') := by
  obtain ⟨n, hn, hr⟩ := op40 n0
  have hsz : (str s).size = s.length := str_size s
  have HAW : Hid (∀ u, Below w.heap.size w u → Calls Tryz.prog 10 #[] u fun e w' => e = .returned (.bool true) ∧ Hid (Below u.heap.size u w')) := fun u hb => awake4 u (hE.below hb)
  have HAw0 := hide (unhide HAW w (Below.refl _ _))
  by_cases hbig : 1000 < s.length
  · have hbig' : (1000 : Int) < (s.length : Int) := by omega
    go_enter Tryz.func8, Tryz.ntmps8
    go_wp2_with fail
    refine (unhide HAw0).mono ?_
    rintro e w1 ⟨rfl, h1⟩
    go_wp2_with fail
    go_ret
    exact ⟨rfl, h1⟩
  · have hbig' : ¬ (1000 : Int) < (s.length : Int) := by omega
    clear HAw0
    have hdm := deep_math n s (by omega) hn
    have HP1 := hide (parse_any s w hE.tb hE.et)
    have HP2 : Hid (∀ u, Below w.heap.size w u → Calls Tryz.prog 13 #[.string (str (tnL n s))] u fun e w' => PsP u (tnL n s) e w') := fun u hb => parse_any _ u (hE.below hb).tb (hE.below hb).et
    have hz := (psM_good s).2
    have HTB : Hid (∀ u, Below w.heap.size w u → Tb4 u) := fun u hb => (hE.below hb).tb
    unfold PsP at HP1 HP2
    generalize hR1 : psM s = R1 at hdm HP1 hz
    generalize hR2 : psM (tnL n s) = R2 at hdm HP2
    clear hR1 hR2 hE
    obtain ⟨j1, P1, E1⟩ := R1
    obtain ⟨j2, P2, E2⟩ := R2
    simp only at hdm HP1 HP2 hz
    have HDM := hide hdm
    have HZ := hide hz
    clear hdm hz
    go_enter Tryz.func8, Tryz.ntmps8
    go_wp2_with fail
    refine (unhide HP1).mono ?_
    rintro e w2 ⟨hb2, ht2, v1, rfl, hJ1⟩
    obtain ⟨jk, jn, jt, ja1, jn1, jc1, ja2, jn2, jc2, rfl⟩ := hJ1.form
    have hkd := hJ1.kd
    clear HP1 ht2
    obtain ⟨V, hV⟩ : ∃ V, V = w2.heap.size := ⟨_, rfl⟩
    obtain ⟨U, hU⟩ : ∃ U, U = w2.alloc (.cells #[.int .i64 jk, .int .i64 jn, .string (str jt), .slice ja1 jn1 jc1, .slice ja2 jn2 jc2] 25) := ⟨_, rfl⟩
    have bU : Below w2.heap.size w2 U := by rw [hU]; exact (Below.refl _ _).alloc (Nat.le_refl _) _
    have hbU := hb2.trans (bU.mono hb2.size)
    have rU : U.heap[V]? = some (.cells #[.int .i64 jk, .int .i64 jn, .string (str jt), .slice ja1 jn1 jc1, .slice ja2 jn2 jc2] 25 (0, 0)) := by rw [hU, hV]; exact heap_alloc_new _ _
    have HJ1 : Hid (JV U (Al U) _ j1) := hJ1.al (fun k hk => hk.2) bU
    have HBU := hide hbU
    have HKD := hide hkd
    obtain ⟨p0, p1, p2, p3, p4⟩ := cells5 rU
    clear bU hbU rU hb2 hJ1 hkd
    go_upto_region 5 with fail
    rw [← hU, ← hV]
    clear hU hV
    have HA5 := hide (unhide HAW U (unhide HBU))
    by_cases hE1 : E1 = 0
    · subst hE1
      simp only [show ((0 : Nat) : Int) = 0 from rfl]
      by_cases hk4 : 4 ≤ jk
      · go_wp2_with fail
        refine (unhide HA5).mono ?_
        rintro e w5 ⟨rfl, h5⟩
        have HB5 : Hid (Below w.heap.size w w5) := (unhide HBU).trans ((unhide h5).mono (unhide HBU).size)
        go_wp2_with fail
        go_ret
        exact ⟨rfl, HB5⟩
      · have hk4' : ¬ (4 : Int) ≤ jk := hk4
        have HDM2 := hide (unhide HDM rfl (by rw [unhide HKD]; omega))
        clear HDM HA5
        clear hr
        obtain ⟨B, hB⟩ : ∃ B, B = U.heap.size := ⟨_, rfl⟩
        obtain ⟨Y, hY⟩ : ∃ Y, Y = U.alloc (.cells #[.int .i64 jk, .int .i64 jn, .string (str jt), .slice ja1 jn1 jc1, .slice ja2 jn2 jc2] 25) := ⟨_, rfl⟩
        have bY : Below U.heap.size U Y := by rw [hY]; exact (Below.refl _ _).alloc (Nat.le_refl _) _
        have HX : Hid (Bxj Y B j1) := ⟨_, _, _, _, _, _, _, _, _, by rw [hY, hB]; exact heap_alloc_new _ _, JV.keep (fun x hx => ⟨⟨Nat.lt_of_lt_of_le hx bY.size, by have : x < U.heap.size := hx; omega⟩, bY.block x hx⟩) _ _ (unhide HJ1)⟩
        have HBY : Hid (Below w.heap.size w Y) := (unhide HBU).trans (bY.mono (unhide HBU).size)
        have HBB : Hid (w.heap.size ≤ B ∧ B < Y.heap.size) := ⟨by rw [hB]; exact (unhide HBU).size, by rw [hY, hB]; simp⟩
        clear bY
        go_upto_region 8 with fail
        rw [← hY, ← hB]
        clear hY hB p0 p1 p2 p3 p4
        go_wp2_with fail
        go_loopw [9, 38] (fun tv iv wr => ∃ i : Nat, i ≤ n ∧ iv = .int .i64 (i : Int) ∧ tv = .string (str (tnL i s)) ∧ Hid (Bxj wr B (nsJ i j1)) ∧ Hid (Below w.heap.size w wr) ∧ Hid (B < wr.heap.size)) (fun _ iv _ => n - (intOf iv).toNat)
        case atStart => exact ⟨0, Nat.zero_le _, rfl, rfl, HX, HBY, (unhide HBB).2⟩
        case round =>
          obtain ⟨i, hi, rfl, rfl, HXi, HBi, HLi⟩ := hrel
          by_cases hlt : i < n
          · have hlt' : (i : Int) < (n : Int) := by omega
            obtain ⟨ik, inn, it, ia1, in1, ic1, ia2, in2, ic2, rB, hJ⟩ := unhide HXi
            obtain ⟨q0, q1, q2, q3, q4⟩ := cells5 rB
            have zs : (str (tnL i s)).size = s.length + 2 * i := by rw [str_size, tn_len]
            have f0 := frozen_of_row wr B 0 _ _ rB
            have f1 := frozen_of_row wr B 1 _ _ rB
            have f2 := frozen_of_row wr B 2 _ _ rB
            have f3 := frozen_of_row wr B 3 _ _ rB
            have f4 := frozen_of_row wr B 4 _ _ rB
            have HRB := hide rB
            have hLi : B < wr.heap.size := unhide HLi
            have HJJ := hide hJ
            clear HXi rB hJ
            go_wp2_with fail
            go_roundw
            case rel =>
              obtain ⟨k1, k2, k3⟩ := Bxj.round hLi (unhide HBi) (unhide HBB).1 (unhide HRB) (unhide HJJ) _ rfl
              exact ⟨i + 1, by omega, by go_num, by rw [str_tn], k1, k2, k3⟩
            case measure => simp [intOf]; omega
          · have hin : i = n := by omega
            subst hin
            have hlt' : ¬ (i : Int) < (i : Int) := by omega
            have HQ2 := hide (unhide HP2 wr (unhide HBi))
            obtain ⟨ik, inn, it, ia1, in1, ic1, ia2, in2, ic2, rB, hJ⟩ := unhide HXi
            have HJV : Hid (JV wr (Al wr) _ (nsJ i j1)) := JV.keep (fun x hx => ⟨hx.1, rfl⟩) _ _ hJ
            have HRB := hide rB
            clear HXi rB hJ HP2
            go_wp2_with fail
            refine (unhide HQ2).mono ?_
            rintro e w3 ⟨hb3, ht3, v2, rfl, hJ2⟩
            obtain ⟨lk, ln, lt, la1, ln1, lc1, la2, ln2, lc2, rfl⟩ := hJ2.form
            clear HQ2 ht3
            obtain ⟨X, hX⟩ : ∃ X, X = w3.heap.size := ⟨_, rfl⟩
            obtain ⟨Z, hZ⟩ : ∃ Z, Z = w3.alloc (.cells #[.int .i64 lk, .int .i64 ln, .string (str lt), .slice la1 ln1 lc1, .slice la2 ln2 lc2] 25) := ⟨_, rfl⟩
            have bZ : Below w3.heap.size w3 Z := by rw [hZ]; exact (Below.refl _ _).alloc (Nat.le_refl _) _
            have bwZ := hb3.trans (bZ.mono hb3.size)
            have rX : Z.heap[X]? = some (.cells #[.int .i64 lk, .int .i64 ln, .string (str lt), .slice la1 ln1 lc1, .slice la2 ln2 lc2] 25 (0, 0)) := by rw [hZ, hX]; exact heap_alloc_new _ _
            have rBZ := (bwZ.block B (unhide HLi)).trans (unhide HRB)
            have HJ2 : Hid (JV Z (Al Z) _ j2) := hJ2.al (fun k hk => hk.2) bZ
            have HJV' : Hid (JV Z (Al Z) _ (nsJ i j1)) := (unhide HJV).al (fun k hk => hk) bwZ
            have HBZ : Hid (Below w.heap.size w Z) := (unhide HBi).trans (bwZ.mono (unhide HBi).size)
            have hRX := hide rX
            have hRB := hide rBZ
            obtain ⟨p0, p1, p2, p3, p4⟩ := cells5 rBZ
            obtain ⟨q0, q1, q2, q3, q4⟩ := cells5 rX
            clear HJV HRB bZ bwZ rX rBZ hb3 hJ2 HBi HLi HBB
            go_upto_region 13 with fail
            rw [← hZ, ← hX]
            clear hZ hX
            have hzz := sz_deep j1 (unhide HZ) i
            by_cases h16 : 16 < i
            · have h16' : (16 : Int) < (i : Int) := by omega
              obtain ⟨hps, hck⟩ := (unhide HDM2).2 h16
              simp only [Prod.mk.injEq] at hps
              obtain ⟨rfl, rfl, rfl⟩ := hps
              have HCK := hide (checkJ_any (nsJ i j1) (Al Z) _ Z (unhide HTB Z (unhide HBZ)) (unhide HJV') (fun k hk => hk) hzz)
              rw [hck] at HCK
              simp only [show ((16 : Nat) : Int) = 16 from rfl, show ((41 : Nat) : Int) = 41 from rfl] at HCK ⊢
              clear HDM2 hck hzz HJ2 HJV'
              go_wp2_with fail
              refine (unhide HCK).mono ?_
              rintro e w4 ⟨rfl, h4⟩
              have HB4 : Hid (Below w.heap.size w w4) := (unhide HBZ).trans ((unhide h4).mono (unhide HBZ).size)
              have HA4 := hide (unhide HAW w4 (unhide HB4))
              clear HCK HAW HBZ h4 p0 p1 p2 p3 p4 q0 q1 q2 q3 q4
              go_wp2_with fail
              refine (unhide HA4).mono ?_
              rintro e w5 ⟨rfl, h5⟩
              have HB5 : Hid (Below w.heap.size w w5) := (unhide HB4).trans ((unhide h5).mono (unhide HB4).size)
              go_wp2_with fail
              go_ret
              exact ⟨rfl, HB5⟩
            · have h16' : ¬ (16 : Int) < (i : Int) := by omega
              obtain ⟨hps, hck⟩ := (unhide HDM2).1 (by omega)
              simp only [Prod.mk.injEq] at hps
              obtain ⟨rfl, rfl, rfl⟩ := hps
              have HEQ := hide (equal_same (nsJ i j1) (Al Z) _ _ Z (unhide HJV') (unhide HJ2) (fun k hk => hk))
              have HCK : Hid (∀ u, Below Z.heap.size Z u → Calls Tryz.prog 15 #[.agg #[.int .i64 ik, .int .i64 inn, .string (str it), .slice ia1 in1 ic1, .slice ia2 in2 ic2]] u fun e w' => e = .returned (.int .i64 0) ∧ Hid (Below u.heap.size u w')) := fun u hb => by
                have := checkJ_any (nsJ i j1) (Al u) _ u (unhide HTB u ((unhide HBZ).trans (hb.mono (unhide HBZ).size))) ((unhide HJV').al (fun k hk => hk) hb) (fun k hk => hk) hzz
                rw [hck] at this
                exact this
              simp only [show ((0 : Nat) : Int) = 0 from rfl]
              clear HDM2 hck hzz HJ2 HJV'
              go_wp2_with fail
              refine (unhide HEQ).mono ?_
              rintro e w4 ⟨rfl, h4⟩
              have HB4 : Hid (Below w.heap.size w w4) := (unhide HBZ).trans ((unhide h4).mono (unhide HBZ).size)
              have HC4 := hide (unhide HCK w4 (unhide h4))
              have rB4 := ((unhide h4).block B (Array.getElem?_eq_some_iff.1 (unhide hRB)).1).trans (unhide hRB)
              clear HCK HEQ HBZ h4 p0 p1 p2 p3 p4 q0 q1 q2 q3 q4
              obtain ⟨p0, p1, p2, p3, p4⟩ := cells5 rB4
              clear rB4
              go_wp2_with fail
              refine (unhide HC4).mono ?_
              rintro e w5 ⟨rfl, h5⟩
              have HB5 : Hid (Below w.heap.size w w5) := (unhide HB4).trans ((unhide h5).mono (unhide HB4).size)
              have HA5 := hide (unhide HAW w5 (unhide HB5))
              clear HC4 HAW h5 p0 p1 p2 p3 p4
              go_wp2_with fail
              refine (unhide HA5).mono ?_
              rintro e w6 ⟨rfl, h6⟩
              have HB6 : Hid (Below w.heap.size w w6) := (unhide HB5).trans ((unhide h6).mono (unhide HB5).size)
              go_wp2_with fail
              go_ret
              exact ⟨rfl, HB6⟩
    · have hEb : (((E1 : Nat) : Int) != 0) = true := by simp; omega
      have hEi : ¬ ((E1 : Nat) : Int) = 0 := by omega
      go_wp2_with fail
      refine (unhide HA5).mono ?_
      rintro e w5 ⟨rfl, h5⟩
      have HB5 : Hid (Below w.heap.size w w5) := (unhide HBU).trans ((unhide h5).mono (unhide HBU).size)
      go_wp2_with fail
      go_ret
      exact ⟨rfl, HB5⟩
#print axioms jdeep_any
theorem jsonxDeep_walk (n : Int) (s : List UInt8) (w : World) (hl : s.length ≤ maxLen) (hE : Env4 w) :
    Calls Tryz.prog 8 #[.int .i64 n, .string (str s)] w fun e w' => e = .returned (.bool true) ∧ Below w.heap.size w w' :=
  (jdeep_any n s w hE hl).mono fun e w' h => ⟨h.1, unhide h.2⟩
end Go.Proofs.YtibiegeladphjaaGreatDoor
end
