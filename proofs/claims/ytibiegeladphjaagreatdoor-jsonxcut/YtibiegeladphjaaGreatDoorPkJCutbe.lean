/-
  jsonx: alike; Same.; for all pairs of texts JsonxOne answers true.; for all numbers and texts JsonxDeep answers true.
-/
import Derived.Test.YtibiegeladphjaaGreatDoorPkJCutbd
import Derived.Test.YtibiegeladphjaaGreatDoorPkJCutbc
section
set_option linter.unusedVariables false
set_option maxRecDepth 1000000
namespace Go.Proofs.YtibiegeladphjaaGreatDoor
open Go.RowKit

theorem al_off {A : Js → Js → Bool} {k n : Int} {t : List UInt8} {ns : List (List UInt8)} {is : List Js} {k' n' : Int} {t' : List UInt8} {ns' : List (List UInt8)} {is' : List Js} (h : ¬ (k = k' ∧ n = n' ∧ t = t' ∧ is.length = is'.length)) : alF A (.mk k n t ns is) (.mk k' n' t' ns' is') = false := by
  rw [alF_eq]
  have e : (decide (k = k') && decide (n = n') && decide (t = t') && decide (is.length = is'.length)) = false := by
    rw [Bool.eq_false_iff]
    intro h2
    simp only [Bool.and_eq_true, decide_eq_true_eq] at h2
    exact h ⟨h2.1.1.1, h2.1.1.2, h2.1.2, h2.2⟩
  rw [e, Bool.false_and]
theorem al_on {A : Js → Js → Bool} {k n : Int} {t : List UInt8} {ns : List (List UInt8)} {is : List Js} {ns' : List (List UInt8)} {is' : List Js} (h : is.length = is'.length) : alF A (.mk k n t ns is) (.mk k n t ns' is') = if k = 5 then smA A ns ns' is is' (ordS ns) (ordS ns') else eqA A is is' := by
  rw [alF_eq, decide_eq_true rfl, decide_eq_true rfl, decide_eq_true rfl, decide_eq_true h]
  rfl
set_option maxHeartbeats 8000000 in
theorem al_core (A : Js → Js → Bool) (k n : Int) (t : List UInt8) (ns : List (List UInt8)) (is : List Js) (k' n' : Int) (t' : List UInt8) (ns' : List (List UInt8)) (is' : List Js)
    (h5 : k = 5 → ns.Nodup ∧ ns.length = is.length) (h5' : k' = 5 → ns'.Nodup ∧ ns'.length = is'.length) (hm : is.length ≤ 100000) (hm' : is'.length ≤ 100000) (hC : ∀ x ∈ is, ∀ y ∈ is', AlP A x y) : AlP (alF A) (.mk k n t ns is) (.mk k' n' t' ns' is') := by
  intro S v v' w hJ hJ' hS
  have HJ0 := hide hJ
  have HJ0' := hide hJ'
  simp only [JV] at hJ hJ'
  obtain ⟨a1, c1, a2, c2, rfl, hN, hnc, hnm, _, hic, him, _, hIt⟩ := hJ
  obtain ⟨b1, d1, b2, d2, rfl, hN', hnc', hnm', _, hic', him', _, hIt'⟩ := hJ'
  obtain ⟨m, hmm⟩ : ∃ m, m = is.length := ⟨_, rfl⟩
  obtain ⟨m', hmm'⟩ : ∃ m', m' = is'.length := ⟨_, rfl⟩
  obtain ⟨g, hg⟩ : ∃ g, g = ns.length := ⟨_, rfl⟩
  obtain ⟨g', hg'⟩ : ∃ g', g' = ns'.length := ⟨_, rfl⟩
  have HLL : Hid (is.length = m ∧ is'.length = m' ∧ ns.length = g ∧ ns'.length = g') := ⟨hmm.symm, hmm'.symm, hg.symm, hg'.symm⟩
  rw [← hmm] at hic hm
  rw [← hmm'] at hic' hm'
  rw [← hmm, ← hmm', ← hg, ← hg']
  clear hmm hmm' hg hg'
  obtain ⟨V, hV⟩ : ∃ V, V = w.heap.size := ⟨_, rfl⟩
  obtain ⟨X, hX⟩ : ∃ X, X = w.heap.size + 1 := ⟨_, rfl⟩
  obtain ⟨W, hW⟩ : ∃ W, W = (w.alloc (.cells #[.int .i64 k, .int .i64 n, .string (str t), .slice a1 g c1, .slice a2 m c2] 25)).alloc (.cells #[.int .i64 k', .int .i64 n', .string (str t'), .slice b1 g' d1, .slice b2 m' d2] 25) := ⟨_, rfl⟩
  have bW : Below w.heap.size w W := by rw [hW]; exact below2 w _ _
  have rV : W.heap[V]? = some (.cells #[.int .i64 k, .int .i64 n, .string (str t), .slice a1 g c1, .slice a2 m c2] 25 (0, 0)) := by rw [hW, hV, heap_alloc_old _ _ (by simp)]; exact heap_alloc_new _ _
  have rX : W.heap[X]? = some (.cells #[.int .i64 k', .int .i64 n', .string (str t'), .slice b1 g' d1, .slice b2 m' d2] 25 (0, 0)) := by rw [hW, hX]; exact heap_alloc2_new _ _ _
  obtain ⟨p0, p1, p2, p3, p4⟩ := cells5 rV
  obtain ⟨q0, q1, q2, q3, q4⟩ := cells5 rX
  have HW := hide bW
  have HI := hide hIt
  have HI' := hide hIt'
  have HS := hide hS
  have HC := hide hC
  have H5 := hide h5
  have H5' := hide h5'
  have HSW : Hid (∀ k, S k → S k ∧ W.heap[k]? = w.heap[k]?) := fun k hk => ⟨hk, bW.block k (hS k hk)⟩
  clear hN hN' hIt hIt' hS hC h5 h5' rV rX bW hnc hnc' hnm hnm' him him'
  have HF : Hid (∀ u : World, Hid (Below W.heap.size W u) → Hid (Below w.heap.size w u)) := fun u h => (unhide HW).trans ((unhide h).mono (unhide HW).size)
  by_cases hall : k = k' ∧ n = n' ∧ t = t' ∧ m = m'
  · obtain ⟨rfl, rfl, rfl, rfl⟩ := hall
    have e1 : ((str t).toList != (str t).toList) = false := by simp
    have hl : is.length = is'.length := (unhide HLL).1.trans (unhide HLL).2.1.symm
    by_cases hk : k = 5
    · subst hk
      obtain ⟨g1, g2⟩ := unhide H5 rfl
      obtain ⟨g3, g4⟩ := unhide H5' rfl
      have HM := hide (sm_any A 5 n t ns is 5 n t ns' is' S _ _ W (JV.keep (unhide HSW) _ _ (unhide HJ0)) (JV.keep (unhide HSW) _ _ (unhide HJ0')) (fun k hk => Nat.lt_of_lt_of_le (unhide HS k hk) (unhide HW).size) g1 g3 g2 (by omega) hl.symm (by rw [(unhide HLL).1]; exact hm) (unhide HC))
      rw [(unhide HLL).1, (unhide HLL).2.1, (unhide HLL).2.2.1, (unhide HLL).2.2.2] at HM
      have hR : alF A (.mk 5 n t ns is) (.mk 5 n t ns' is') = smA A ns ns' is is' (ordS ns) (ordS ns') := by rw [al_on hl, if_pos rfl]
      rw [hR]
      generalize smA A ns ns' is is' (ordS ns) (ordS ns') = R at HM ⊢
      clear g1 g2 g3 g4 HJ0 HJ0' HI HI' HC H5 H5' HSW hl hR HLL
      go_enter Tryz.func24, Tryz.ntmps24
      go_upto_region 1 with fail
      rw [← hW, ← hX, ← hV]
      clear hW hV hX
      go_wp2_with fail
      refine (unhide HM).mono ?_
      rintro e w1 ⟨rfl, h1⟩
      have HF1 := unhide HF w1 h1
      clear HM h1 p0 p1 p2 p3 p4 q0 q1 q2 q3 q4
      go_wp2_with fail
      go_ret
      exact ⟨rfl, HF1⟩
    · have HM := hide (eqf_any A is is' hl a2 b2 c2 d2 S W (JVs.keep (unhide HSW) _ _ _ (unhide HI)) (JVs.keep (unhide HSW) _ _ _ (unhide HI')) (fun k hk => Nat.lt_of_lt_of_le (unhide HS k hk) (unhide HW).size) (by rw [(unhide HLL).1]; exact hm) (unhide HC))
      rw [(unhide HLL).1, (unhide HLL).2.1] at HM
      have hR : alF A (.mk k n t ns is) (.mk k n t ns' is') = eqA A is is' := by rw [al_on hl, if_neg hk]
      rw [hR]
      generalize eqA A is is' = R at HM ⊢
      have hkb : (k == 5) = false := by simpa using hk
      clear HJ0 HJ0' HI HI' HC H5 H5' HSW hl hR HLL
      go_enter Tryz.func24, Tryz.ntmps24
      go_upto_region 1 with fail
      rw [← hW, ← hX, ← hV]
      clear hW hV hX
      go_wp2_with fail
      refine (unhide HM).mono ?_
      rintro e w1 ⟨rfl, h1⟩
      have HF1 := unhide HF w1 h1
      clear HM h1 p0 p1 p2 p3 p4 q0 q1 q2 q3 q4
      go_wp2_with fail
      go_ret
      exact ⟨rfl, HF1⟩
  · have hR : alF A (.mk k n t ns is) (.mk k' n' t' ns' is') = false := al_off (fun h => hall ⟨h.1, h.2.1, h.2.2.1, by rw [← (unhide HLL).1, ← (unhide HLL).2.1]; exact h.2.2.2⟩)
    rw [hR]
    have HF1 := unhide HF W (hide (Below.refl _ _))
    clear HJ0 HJ0' HI HI' HC H5 H5' HSW hR HLL HF
    go_enter Tryz.func24, Tryz.ntmps24
    go_upto_region 1 with fail
    rw [← hW, ← hX, ← hV]
    clear hW hV hX
    by_cases h1 : k = k'
    · subst h1
      by_cases h2 : n = n'
      · subst h2
        by_cases h3 : t = t'
        · subst h3
          have h4 : ¬ m = m' := fun e => hall ⟨rfl, rfl, rfl, e⟩
          have e1 : ((str t).toList != (str t).toList) = false := by simp
          have e4 : ((m : Int) != (m' : Int)) = true := by simp; omega
          have e5 : ((m : Int) == (m' : Int)) = false := by simp; omega
          have e6 : ¬ (m : Int) = (m' : Int) := by omega
          clear hall h4
          go_wp2_with fail
          go_ret
          exact ⟨rfl, HF1⟩
        · have e1 : ((str t).toList != (str t').toList) = true := by rw [toList_str, toList_str]; simpa using h3
          have e2 : ((str t).toList == (str t').toList) = false := by rw [toList_str, toList_str]; simpa using h3
          clear hall h3
          go_wp2_with fail
          go_ret
          exact ⟨rfl, HF1⟩
      · have e1 : (n != n') = true := by simpa using h2
        have e2 : (n == n') = false := by simpa using h2
        clear hall
        go_wp2_with fail
        go_ret
        exact ⟨rfl, HF1⟩
    · have e1 : (k != k') = true := by simpa using h1
      have e2 : (k == k') = false := by simpa using h1
      clear hall
      go_wp2_with fail
      go_ret
      exact ⟨rfl, HF1⟩
#print axioms al_core
theorem ck_five {n : Nat} {k i : Int} {t : List UInt8} {ns : List (List UInt8)} {is : List Js} (h : ck n (.mk k i t ns is) = 0) (hk : k = 5) : ns.Nodup ∧ ns.length = is.length := by
  obtain ⟨hw, hnd, _⟩ := ck_zero n k i t ns is h
  exact ⟨hnd, (wf5 hw hk).2.2.1⟩
theorem ck_items {n : Nat} {k i : Int} {t : List UInt8} {ns : List (List UInt8)} {is : List Js} (h : ck n (.mk k i t ns is) = 0) : is = [] ∨ ∃ m, n = m + 1 ∧ ∀ x ∈ is, ck m x = 0 := by
  obtain ⟨hw, _, h45⟩ := ck_zero n k i t ns is h
  obtain ⟨hkk, _⟩ := wf_kind hw
  rcases hkk with h | h | h | h | h | h
  · left; exact (wf_flat hw (by rw [h]; decide)).2.1
  · left; exact (wf_flat hw (by rw [h]; decide)).2.1
  · left; exact (wf_flat hw (by rw [h]; decide)).2.1
  · left; exact (wf_flat hw (by rw [h]; decide)).2.1
  · right; exact h45 (.inl h)
  · right; exact h45 (.inr h)
/-- alike, of two values that can be. -/
theorem al_any : ∀ (n : Nat) (a b : Js), ck n a = 0 → ck n b = 0 → Sz a → Sz b → AlP (alN n) a b
  | 0, .mk k i t ns is, .mk k' i' t' ns' is', ha, hb, za, zb => by
    simp only [Sz] at za zb
    have e1 : is = [] := (ck_items ha).elim id (fun ⟨m, e, _⟩ => by cases e)
    refine al_core _ k i t ns is k' i' t' ns' is' (ck_five ha) (ck_five hb) za.2.2.2.1 zb.2.2.2.1 (fun x hx => ?_)
    rw [e1] at hx
    cases hx
  | n + 1, .mk k i t ns is, .mk k' i' t' ns' is', ha, hb, za, zb => by
    simp only [Sz] at za zb
    refine al_core _ k i t ns is k' i' t' ns' is' (ck_five ha) (ck_five hb) za.2.2.2.1 zb.2.2.2.1 (fun x hx y hy => ?_)
    have h1 : ck n x = 0 := by
      rcases ck_items ha with e | ⟨m, e, h⟩
      · rw [e] at hx; cases hx
      · cases e; exact h x hx
    have h2 : ck n y = 0 := by
      rcases ck_items hb with e | ⟨m, e, h⟩
      · rw [e] at hy; cases hy
      · cases e; exact h y hy
    exact al_any n x y h1 h2 ((szs_iff is).1 za.2.2.2.2.2 x hx) ((szs_iff is').1 zb.2.2.2.2.2 y hy)
set_option maxHeartbeats 8000000 in
theorem same_any (a b : Js) (S : Nat → Prop) (v v' : Value) (w : World) (hT : Tb4 w) (hJ : JV w S v a) (hJ' : JV w S v' b) (hS : ∀ k, S k → k < w.heap.size) (za : Sz a) (zb : Sz b) :
    Calls Tryz.prog 14 #[v, v'] w fun e w' => e = .returned (.bool (saM a b)) ∧ Hid (Below w.heap.size w w') := by
  obtain ⟨k, n, t, a1, n1, c1, a2, n2, c2, rfl⟩ := hJ.form
  obtain ⟨k', n', t', b1, m1, d1, b2, m2, d2, rfl⟩ := hJ'.form
  obtain ⟨V, hV⟩ : ∃ V, V = w.heap.size := ⟨_, rfl⟩
  obtain ⟨X, hX⟩ : ∃ X, X = w.heap.size + 1 := ⟨_, rfl⟩
  obtain ⟨W, hW⟩ : ∃ W, W = (w.alloc (.cells #[.int .i64 k, .int .i64 n, .string (str t), .slice a1 n1 c1, .slice a2 n2 c2] 25)).alloc (.cells #[.int .i64 k', .int .i64 n', .string (str t'), .slice b1 m1 d1, .slice b2 m2 d2] 25) := ⟨_, rfl⟩
  have bW : Below w.heap.size w W := by rw [hW]; exact below2 w _ _
  have rV : W.heap[V]? = some (.cells #[.int .i64 k, .int .i64 n, .string (str t), .slice a1 n1 c1, .slice a2 n2 c2] 25 (0, 0)) := by rw [hW, hV, heap_alloc_old _ _ (by simp)]; exact heap_alloc_new _ _
  have rX : W.heap[X]? = some (.cells #[.int .i64 k', .int .i64 n', .string (str t'), .slice b1 m1 d1, .slice b2 m2 d2] 25 (0, 0)) := by rw [hW, hX]; exact heap_alloc2_new _ _ _
  have HKV : Hid (∀ u, Below W.heap.size W u → u.heap[V]? = some (.cells #[.int .i64 k, .int .i64 n, .string (str t), .slice a1 n1 c1, .slice a2 n2 c2] 25 (0, 0))) := fun u hb => (hb.block V (Array.getElem?_eq_some_iff.1 rV).1).trans rV
  have HKX : Hid (∀ u, Below W.heap.size W u → u.heap[X]? = some (.cells #[.int .i64 k', .int .i64 n', .string (str t'), .slice b1 m1 d1, .slice b2 m2 d2] 25 (0, 0))) := fun u hb => (hb.block X (Array.getElem?_eq_some_iff.1 rX).1).trans rX
  have HF : Hid (∀ u, Below W.heap.size W u → Below w.heap.size w u) := fun u hb => bW.trans (hb.mono bW.size)
  have HA : Hid (∀ u, Below W.heap.size W u → JV u S _ a ∧ JV u S _ b ∧ (∀ k, S k → k < u.heap.size) ∧ Tb4 u) := fun u hb => ⟨JV.keep (fun k hk => ⟨hk, (unhide HF u hb).block k (hS k hk)⟩) _ _ hJ, JV.keep (fun k hk => ⟨hk, (unhide HF u hb).block k (hS k hk)⟩) _ _ hJ', fun k hk => Nat.lt_of_lt_of_le (hS k hk) (unhide HF u hb).size, hT.below (unhide HF u hb)⟩
  have HCa := hide (checkJ_any a S _ W (unhide HA W (Below.refl _ _)).2.2.2 (unhide HA W (Below.refl _ _)).1 (unhide HA W (Below.refl _ _)).2.2.1 za)
  have HCb : Hid (∀ u, Below W.heap.size W u → Calls Tryz.prog 15 #[.agg #[.int .i64 k', .int .i64 n', .string (str t'), .slice b1 m1 d1, .slice b2 m2 d2]] u fun e w' => e = .returned (.int .i64 ((ck 16 b : Nat) : Int)) ∧ Hid (Below u.heap.size u w')) := fun u hb => checkJ_any b S _ u (unhide HA u hb).2.2.2 (unhide HA u hb).2.1 (unhide HA u hb).2.2.1 zb
  have HAl : Hid (ck 16 a = 0 → ck 16 b = 0 → ∀ u, Below W.heap.size W u → Calls Tryz.prog 24 #[.agg #[.int .i64 k, .int .i64 n, .string (str t), .slice a1 n1 c1, .slice a2 n2 c2], .agg #[.int .i64 k', .int .i64 n', .string (str t'), .slice b1 m1 d1, .slice b2 m2 d2]] u fun e w' => e = .returned (.bool (alN 16 a b)) ∧ Hid (Below u.heap.size u w')) := fun h1 h2 u hb => al_any 16 a b h1 h2 za zb S _ _ u (unhide HA u hb).1 (unhide HA u hb).2.1 (unhide HA u hb).2.2.1
  have HR : Hid (saM a b = (decide (ck 16 a = 0) && (decide (ck 16 b = 0) && alN 16 a b))) := rfl
  generalize saM a b = R at HR ⊢
  generalize alN 16 a b = A at HR HAl
  generalize ck 16 a = Ea at HR HCa HAl
  generalize ck 16 b = Eb at HR HCb HAl
  obtain ⟨p0, p1, p2, p3, p4⟩ := cells5 rV
  clear hT hJ hJ' hS za zb bW rV rX HA
  go_enter Tryz.func14, Tryz.ntmps14
  go_upto_region 1 with fail
  rw [← hW, ← hX, ← hV]
  clear hW hV hX
  by_cases ha : Ea = 0
  · subst ha
    simp only [show ((0 : Nat) : Int) = 0 from rfl] at HCa
    go_wp2_with fail
    refine (unhide HCa).mono ?_
    rintro e w1 ⟨rfl, h1⟩
    have HC1 := hide (unhide HCb w1 (unhide h1))
    obtain ⟨q0, q1, q2, q3, q4⟩ := cells5 (unhide HKX w1 (unhide h1))
    clear HCa HCb p0 p1 p2 p3 p4
    by_cases hb : Eb = 0
    · subst hb
      simp only [show ((0 : Nat) : Int) = 0 from rfl] at HC1
      go_wp2_with fail
      refine (unhide HC1).mono ?_
      rintro e w2 ⟨rfl, h2⟩
      have HB2 : Hid (Below W.heap.size W w2) := (unhide h1).trans ((unhide h2).mono (unhide h1).size)
      have HA2 := hide (unhide HAl (by first | exact rfl | trivial) (by first | exact rfl | trivial) w2 (unhide HB2))
      clear HC1 HAl q0 q1 q2 q3 q4 h1 h2
      obtain ⟨q0, q1, q2, q3, q4⟩ := cells5 (unhide HKX w2 (unhide HB2))
      obtain ⟨p0, p1, p2, p3, p4⟩ := cells5 (unhide HKV w2 (unhide HB2))
      have HR2 : Hid (R = A) := by show _ = _; rw [unhide HR]; rfl
      go_wp2_with fail
      refine (unhide HA2).mono ?_
      rintro e w3 ⟨rfl, h3⟩
      have HF3 := hide (unhide HF w3 ((unhide HB2).trans ((unhide h3).mono (unhide HB2).size)))
      clear HA2 h3 p0 p1 p2 p3 p4 q0 q1 q2 q3 q4
      go_wp2_with fail
      go_ret
      rw [unhide HR2]
      exact ⟨rfl, HF3⟩
    · have e1 : (((Eb : Nat) : Int) == 0) = false := by simp; omega
      have e2 : ¬ ((Eb : Nat) : Int) = 0 := by omega
      have HR2 : Hid (R = false) := by show _ = _; rw [unhide HR, decide_eq_false hb]; rfl
      go_wp2_with fail
      refine (unhide HC1).mono ?_
      rintro e w2 ⟨rfl, h2⟩
      have HF3 := hide (unhide HF w2 ((unhide h1).trans ((unhide h2).mono (unhide h1).size)))
      clear HC1 HAl q0 q1 q2 q3 q4 h1 h2
      go_wp2_with fail
      go_ret
      rw [unhide HR2]
      exact ⟨rfl, HF3⟩
  · have e1 : (((Ea : Nat) : Int) == 0) = false := by simp; omega
    have e2 : ¬ ((Ea : Nat) : Int) = 0 := by omega
    have HR2 : Hid (R = false) := by show _ = _; rw [unhide HR, decide_eq_false ha]; rfl
    go_wp2_with fail
    refine (unhide HCa).mono ?_
    rintro e w1 ⟨rfl, h1⟩
    have HF3 := hide (unhide HF w1 (unhide h1))
    clear HCa HCb HAl p0 p1 p2 p3 p4 h1
    go_wp2_with fail
    go_ret
    rw [unhide HR2]
    exact ⟨rfl, HF3⟩
#print axioms same_any
end Go.Proofs.YtibiegeladphjaaGreatDoor
end
section
set_option linter.unusedVariables false
set_option maxRecDepth 1000000
namespace Go.Proofs.YtibiegeladphjaaGreatDoor
open Go.RowKit

theorem prM_ok (j : Js) (h : ck 16 j = 0) : ((prM j).2 = 0 ∧ (prM j).1 = prN 16 j ∧ (prN 16 j).length ≤ 65536) ∨ (prM j).2 = 4 := by
  unfold prM
  rw [if_neg (by rw [h]; simp)]
  by_cases hl : 65536 < (prN 16 j).length
  · rw [if_pos hl]; exact .inr rfl
  · rw [if_neg hl]; exact .inl ⟨rfl, rfl, by omega⟩
theorem prM_len (j : Js) : (prM j).1.length ≤ 65536 := by
  unfold prM
  split
  · exact Nat.zero_le _
  · split
    · exact Nat.zero_le _
    · simp only; omega
theorem saM_iff (a b : Js) (ha : Gd 16 a) (hb : Gd 16 b) : saM a b = decide (prN 16 a = prN 16 b) := by
  unfold saM
  rw [decide_eq_true ha.1, decide_eq_true hb.1, Bool.true_and, Bool.true_and]
  have h := al_iff 16 a b ha.1 hb.1
  by_cases e : prN 16 a = prN 16 b
  · rw [decide_eq_true e, h]
    exact sr_of_pr 16 a b ha.1 hb.1 ha.2 hb.2 e
  · rw [decide_eq_false e, Bool.eq_false_iff]
    intro h2
    apply e
    rw [← pr_sr 16 a ha.1, ← pr_sr 16 b hb.1, h.1 h2]
/-- What is printed, read again. -/
theorem one_math (a b : Js) (ha : Gd 16 a) (hb : Gd 16 b) (h1 : (prM a).2 = 0) (h2 : (prM b).2 = 0) : psM (prM a).1 = (srN 16 a, 0, 0) ∧ Gd 16 (srN 16 a) ∧ saM (srN 16 a) a = true ∧ saM a b = decide ((prM a).1 = (prM b).1) := by
  obtain ⟨_, e1, l1⟩ : (prM a).2 = 0 ∧ (prM a).1 = prN 16 a ∧ (prN 16 a).length ≤ 65536 := by
    rcases prM_ok a ha.1 with h | h
    · exact h
    · omega
  obtain ⟨_, e2, l2⟩ : (prM b).2 = 0 ∧ (prM b).1 = prN 16 b ∧ (prN 16 b).length ≤ 65536 := by
    rcases prM_ok b hb.1 with h | h
    · exact h
    · omega
  have hs := ck_sr 16 a ha.1 ha.2
  rw [e1, e2]
  refine ⟨ps_print a ha.1 ha.2 l1, hs, ?_, saM_iff a b ha hb⟩
  rw [saM_iff _ a hs ha, decide_eq_true_eq]
  exact pr_sr 16 a ha.1
/-- A box with a value, all of it in the world. -/
structure Bj (w : World) (V : Nat) (k n : Int) (t : List UInt8) (a1 : Option Addr) (n1 c1 : Nat) (a2 : Option Addr) (n2 c2 : Nat) (j : Js) : Prop where
  row : w.heap[V]? = some (.cells #[.int .i64 k, .int .i64 n, .string (str t), .slice a1 n1 c1, .slice a2 n2 c2] 25 (0, 0))
  jv : JV w (Al w) (.agg #[.int .i64 k, .int .i64 n, .string (str t), .slice a1 n1 c1, .slice a2 n2 c2]) j
theorem Bj.below {w u : World} {V : Nat} {k n : Int} {t : List UInt8} {a1 : Option Addr} {n1 c1 : Nat} {a2 : Option Addr} {n2 c2 : Nat} {j : Js} (h : Bj w V k n t a1 n1 c1 a2 n2 c2 j) (hb : Below w.heap.size w u) : Bj u V k n t a1 n1 c1 a2 n2 c2 j :=
  ⟨(hb.block V (Array.getElem?_eq_some_iff.1 h.row).1).trans h.row, h.jv.al (fun k hk => hk) hb⟩
theorem Bj.made {w : World} {S : Nat → Prop} {k n : Int} {t : List UInt8} {a1 : Option Addr} {n1 c1 : Nat} {a2 : Option Addr} {n2 c2 : Nat} {j : Js} (h : JV w S (.agg #[.int .i64 k, .int .i64 n, .string (str t), .slice a1 n1 c1, .slice a2 n2 c2]) j) (hS : ∀ k, S k → k < w.heap.size) :
    ∀ U, U = w.alloc (.cells #[.int .i64 k, .int .i64 n, .string (str t), .slice a1 n1 c1, .slice a2 n2 c2] 25) → Bj U w.heap.size k n t a1 n1 c1 a2 n2 c2 j ∧ Below w.heap.size w U := by
  intro U hU
  have bU : Below w.heap.size w U := by rw [hU]; exact (Below.refl _ _).alloc (Nat.le_refl _) _
  exact ⟨⟨by rw [hU]; exact heap_alloc_new _ _, h.al hS bU⟩, bU⟩
set_option maxHeartbeats 8000000 in
theorem jone_any (s t : List UInt8) (w : World) (hE : Env4 w) :
    Calls Tryz.prog 4 #[.string (str s), .string (str t)] w fun e w' => e = .returned (.bool true) ∧ Hid (Below w.heap.size w w') := by
  have HEn : Hid (∀ u, Below w.heap.size w u → Env4 u) := fun u hb => hE.below hb
  have HAW : Hid (∀ u, Below w.heap.size w u → Calls Tryz.prog 10 #[] u fun e w' => e = .returned (.bool true) ∧ Hid (Below u.heap.size u w')) := fun u hb => awake4 u (hE.below hb)
  have HP1 := hide (parse_any s w hE.tb hE.et)
  have hg1 := psM_good s
  have hg2 := psM_good t
  unfold PsP at HP1
  have HP2 : Hid (∀ u, Below w.heap.size w u → Calls Tryz.prog 13 #[.string (str t)] u fun e w' => PsP u t e w') := fun u hb => parse_any _ u (hE.below hb).tb (hE.below hb).et
  unfold PsP at HP2
  generalize hR1 : psM s = R1 at HP1 hg1
  generalize hR2 : psM t = R2 at HP2 hg2
  clear hR1 hR2 hE
  obtain ⟨j1, P1, E1⟩ := R1
  obtain ⟨j2, P2, E2⟩ := R2
  simp only at HP1 HP2 hg1 hg2
  have HG1 := hide hg1
  have HG2 := hide hg2
  clear hg1 hg2
  go_enter Tryz.func4, Tryz.ntmps4
  go_wp2_with fail
  refine (unhide HP1).mono ?_
  rintro e w1 ⟨hb1, ht1, v1, rfl, hJ1⟩
  obtain ⟨jk, jn, jt, ja1, jn1, jc1, ja2, jn2, jc2, rfl⟩ := hJ1.form
  obtain ⟨V, hV⟩ : ∃ V, V = w1.heap.size := ⟨_, rfl⟩
  obtain ⟨U, hU⟩ : ∃ U, U = w1.alloc (.cells #[.int .i64 jk, .int .i64 jn, .string (str jt), .slice ja1 jn1 jc1, .slice ja2 jn2 jc2] 25) := ⟨_, rfl⟩
  obtain ⟨hb, bU⟩ := Bj.made hJ1 (fun k hk => hk.2) U hU
  rw [← hV] at hb
  have hwU := hb1.trans (bU.mono hb1.size)
  have HQ2 := hide (unhide HP2 U hwU)
  have HB1 := hide hb
  have HWU := hide hwU
  clear HP1 HP2 hb1 ht1 hJ1 hb bU hwU
  go_upto_region 2 with fail
  rw [← hU, ← hV]
  clear hU hV
  go_wp2_with fail
  refine (unhide HQ2).mono ?_
  rintro e w2 ⟨hb2, ht2, v2, rfl, hJ2⟩
  obtain ⟨ik, inn, it, ia1, in1, ic1, ia2, in2, ic2, rfl⟩ := hJ2.form
  obtain ⟨X, hX⟩ : ∃ X, X = w2.heap.size := ⟨_, rfl⟩
  obtain ⟨Y, hY⟩ : ∃ Y, Y = w2.alloc (.cells #[.int .i64 ik, .int .i64 inn, .string (str it), .slice ia1 in1 ic1, .slice ia2 in2 ic2] 25) := ⟨_, rfl⟩
  obtain ⟨hb, bY⟩ := Bj.made hJ2 (fun k hk => hk.2) Y hY
  rw [← hX] at hb
  have hUY := hb2.trans (bY.mono hb2.size)
  have HBV : Hid (Bj Y V jk jn jt ja1 jn1 jc1 ja2 jn2 jc2 j1) := (unhide HB1).below hUY
  have HBX : Hid (Bj Y X ik inn it ia1 in1 ic1 ia2 in2 ic2 j2) := hb
  have HWY : Hid (Below w.heap.size w Y) := (unhide HWU).trans (hUY.mono (unhide HWU).size)
  clear HQ2 HB1 HWU hb2 ht2 hJ2 hb bY hUY
  go_upto_region 3 with fail
  rw [← hY, ← hX]
  clear hY hX
  have HAY := hide (unhide HAW Y (unhide HWY))
  by_cases hE1 : E1 = 0
  · subst hE1
    simp only [show ((0 : Nat) : Int) = 0 from rfl]
    by_cases hE2 : E2 = 0
    · subst hE2
      simp only [show ((0 : Nat) : Int) = 0 from rfl]
      clear HAY
      have HPa := hide (print_any j1 (Al Y) _ Y (unhide HEn Y (unhide HWY)).tb (unhide HEn Y (unhide HWY)).pt (unhide HBV).jv (fun k hk => hk) (unhide HG1).2)
      have HPb : Hid (∀ u, Below Y.heap.size Y u → Calls Tryz.prog 11 #[.agg #[.int .i64 ik, .int .i64 inn, .string (str it), .slice ia1 in1 ic1, .slice ia2 in2 ic2]] u fun e w' => e = .returned (.tuple #[.string (str (prM j2).1), .int .i64 ((prM j2).2 : Int)]) ∧ Hid (Below u.heap.size u w')) := fun u hb =>
        print_any j2 (Al u) _ u (unhide HEn u ((unhide HWY).trans (hb.mono (unhide HWY).size))).tb (unhide HEn u ((unhide HWY).trans (hb.mono (unhide HWY).size))).pt ((unhide HBX).below hb).jv (fun k hk => hk) (unhide HG2).2
      have HCa : Hid (∀ u, Below Y.heap.size Y u → Calls Tryz.prog 15 #[.agg #[.int .i64 jk, .int .i64 jn, .string (str jt), .slice ja1 jn1 jc1, .slice ja2 jn2 jc2]] u fun e w' => e = .returned (.int .i64 0) ∧ Hid (Below u.heap.size u w')) := fun u hb => by
        have := checkJ_any j1 (Al u) _ u (unhide HEn u ((unhide HWY).trans (hb.mono (unhide HWY).size))).tb ((unhide HBV).below hb).jv (fun k hk => hk) (unhide HG1).2
        rw [(unhide HG1).1] at this
        exact this
      have HCb : Hid (∀ u, Below Y.heap.size Y u → Calls Tryz.prog 15 #[.agg #[.int .i64 ik, .int .i64 inn, .string (str it), .slice ia1 in1 ic1, .slice ia2 in2 ic2]] u fun e w' => e = .returned (.int .i64 0) ∧ Hid (Below u.heap.size u w')) := fun u hb => by
        have := checkJ_any j2 (Al u) _ u (unhide HEn u ((unhide HWY).trans (hb.mono (unhide HWY).size))).tb ((unhide HBX).below hb).jv (fun k hk => hk) (unhide HG2).2
        rw [(unhide HG2).1] at this
        exact this
      have HM := hide (one_math j1 j2 (unhide HG1) (unhide HG2))
      have HO1 := hide (prM_ok j1 (unhide HG1).1)
      have HO2 := hide (prM_ok j2 (unhide HG2).1)
      generalize hpa : prM j1 = PA at HPa HM HO1
      generalize hpb : prM j2 = PB at HPb HM HO2
      obtain ⟨pa, ea⟩ := PA
      obtain ⟨pb, eb⟩ := PB
      simp only at HPa HPb HM HO1 HO2
      clear hpa hpb
      obtain ⟨p0, p1, p2, p3, p4⟩ := cells5 (unhide HBV).row
      go_wp2_with fail
      refine (unhide HPa).mono ?_
      rintro e w3 ⟨rfl, h3⟩
      have HP4 := hide (unhide HPb w3 (unhide h3))
      clear HPa HPb p0 p1 p2 p3 p4
      obtain ⟨q0, q1, q2, q3, q4⟩ := cells5 ((unhide HBX).below (unhide h3)).row
      go_wp2_with fail
      refine (unhide HP4).mono ?_
      rintro e w4 ⟨rfl, h4⟩
      have HB4 : Hid (Below Y.heap.size Y w4) := (unhide h3).trans ((unhide h4).mono (unhide h3).size)
      have HC4 := hide (unhide HCa w4 (unhide HB4))
      clear HP4 q0 q1 q2 q3 q4 h3 h4 HCa
      obtain ⟨p0, p1, p2, p3, p4⟩ := cells5 ((unhide HBV).below (unhide HB4)).row
      go_wp2_with fail
      refine (unhide HC4).mono ?_
      rintro e w5 ⟨rfl, h5⟩
      have HB5 : Hid (Below Y.heap.size Y w5) := (unhide HB4).trans ((unhide h5).mono (unhide HB4).size)
      have HC5 := hide (unhide HCb w5 (unhide HB5))
      clear HC4 p0 p1 p2 p3 p4 HB4 h5 HCb
      obtain ⟨q0, q1, q2, q3, q4⟩ := cells5 ((unhide HBX).below (unhide HB5)).row
      go_wp2_with fail
      refine (unhide HC5).mono ?_
      rintro e w6 ⟨rfl, h6⟩
      have HB6 : Hid (Below Y.heap.size Y w6) := (unhide HB5).trans ((unhide h6).mono (unhide HB5).size)
      have HW6 : Hid (Below w.heap.size w w6) := (unhide HWY).trans ((unhide HB6).mono (unhide HWY).size)
      clear HC5 q0 q1 q2 q3 q4 HB5 h6
      have HA6 := hide (unhide HAW w6 (unhide HW6))
      by_cases ha : ea = 0
      · subst ha
        simp only [show ((0 : Nat) : Int) = 0 from rfl]
        by_cases hb : eb = 0
        · subst hb
          simp only [show ((0 : Nat) : Int) = 0 from rfl]
          obtain ⟨m1, m2, m3, m4⟩ := unhide HM (by first | exact rfl | trivial) (by first | exact rfl | trivial)
          have HP7 := hide (parse_any pa w6 (unhide HEn w6 (unhide HW6)).tb (unhide HEn w6 (unhide HW6)).et)
          unfold PsP at HP7
          rw [m1] at HP7
          simp only at HP7
          have HM2 := hide m2
          have HM3 := hide m3
          have HM4 := hide m4
          clear HM HA6 HO1 HO2 m1 m2 m3 m4
          go_wp2_with fail
          refine (unhide HP7).mono ?_
          rintro e w7 ⟨hb7, ht7, v7, rfl, hJ7⟩
          obtain ⟨lk, ln, lt, la1, ln1, lc1, la2, ln2, lc2, rfl⟩ := hJ7.form
          obtain ⟨Z, hZ⟩ : ∃ Z, Z = w7.heap.size := ⟨_, rfl⟩
          obtain ⟨Q, hQ⟩ : ∃ Q, Q = w7.alloc (.cells #[.int .i64 lk, .int .i64 ln, .string (str lt), .slice la1 ln1 lc1, .slice la2 ln2 lc2] 25) := ⟨_, rfl⟩
          obtain ⟨hb, bQ⟩ := Bj.made hJ7 (fun k hk => hk.2) Q hQ
          rw [← hZ] at hb
          have h6Q := hb7.trans (bQ.mono hb7.size)
          have hYQ := (unhide HB6).trans (h6Q.mono (unhide HB6).size)
          have HBV' := hide ((unhide HBV).below hYQ)
          have HBX' := hide ((unhide HBX).below hYQ)
          have HBZ := hide hb
          have HWQ : Hid (Below w.heap.size w Q) := (unhide HW6).trans (h6Q.mono (unhide HW6).size)
          have HS1 := hide (same_any (srN 16 j1) j1 (Al Q) _ _ Q (unhide HEn Q (unhide HWQ)).tb hb.jv (unhide HBV').jv (fun k hk => hk) (unhide HM2).2 (unhide HG1).2)
          rw [unhide HM3] at HS1
          have HS2 : Hid (∀ u, Below Q.heap.size Q u → Calls Tryz.prog 14 #[.agg #[.int .i64 jk, .int .i64 jn, .string (str jt), .slice ja1 jn1 jc1, .slice ja2 jn2 jc2], .agg #[.int .i64 ik, .int .i64 inn, .string (str it), .slice ia1 in1 ic1, .slice ia2 in2 ic2]] u fun e w' => e = .returned (.bool (decide (pa = pb))) ∧ Hid (Below u.heap.size u w')) := fun u hb => by
            have := same_any j1 j2 (Al u) _ _ u (unhide HEn u ((unhide HWQ).trans (hb.mono (unhide HWQ).size))).tb ((unhide HBV').below hb).jv ((unhide HBX').below hb).jv (fun k hk => hk) (unhide HG1).2 (unhide HG2).2
            rw [unhide HM4] at this
            exact this
          obtain ⟨p0, p1, p2, p3, p4⟩ := cells5 (unhide HBV').row
          obtain ⟨q0, q1, q2, q3, q4⟩ := cells5 (unhide HBZ).row
          clear HP7 hb7 ht7 hJ7 hb bQ h6Q hYQ HBV HBX HB6 HW6
          go_upto_region 12 with fail
          rw [← hQ, ← hZ]
          clear hQ hZ
          go_wp2_with fail
          refine (unhide HS1).mono ?_
          rintro e w8 ⟨rfl, h8⟩
          have HS8 := hide (unhide HS2 w8 (unhide h8))
          clear HS1 HS2 p0 p1 p2 p3 p4 q0 q1 q2 q3 q4
          obtain ⟨p0, p1, p2, p3, p4⟩ := cells5 ((unhide HBV').below (unhide h8)).row
          obtain ⟨q0, q1, q2, q3, q4⟩ := cells5 ((unhide HBX').below (unhide h8)).row
          have HW8 : Hid (Below w.heap.size w w8) := (unhide HWQ).trans ((unhide h8).mono (unhide HWQ).size)
          clear h8 HWQ
          by_cases hpq : pa = pb
          · subst hpq
            rw [decide_eq_true rfl] at HS8
            have e1 : ((str pa).toList == (str pa).toList) = true := by simp
            go_wp2_with fail
            refine (unhide HS8).mono ?_
            rintro e w9 ⟨rfl, h9⟩
            have HW9 : Hid (Below w.heap.size w w9) := (unhide HW8).trans ((unhide h9).mono (unhide HW8).size)
            have HA9 := hide (unhide HAW w9 (unhide HW9))
            clear HS8 h9 p0 p1 p2 p3 p4 q0 q1 q2 q3 q4
            go_wp2_with fail
            refine (unhide HA9).mono ?_
            rintro e w10 ⟨rfl, h10⟩
            have HF : Hid (Below w.heap.size w w10) := (unhide HW9).trans ((unhide h10).mono (unhide HW9).size)
            go_wp2_with fail
            go_ret
            exact ⟨rfl, HF⟩
          · rw [decide_eq_false hpq] at HS8
            have e1 : ((str pa).toList == (str pb).toList) = false := by rw [toList_str, toList_str]; simpa using hpq
            clear hpq
            go_wp2_with fail
            refine (unhide HS8).mono ?_
            rintro e w9 ⟨rfl, h9⟩
            have HW9 : Hid (Below w.heap.size w w9) := (unhide HW8).trans ((unhide h9).mono (unhide HW8).size)
            have HA9 := hide (unhide HAW w9 (unhide HW9))
            clear HS8 h9 p0 p1 p2 p3 p4 q0 q1 q2 q3 q4
            go_wp2_with fail
            refine (unhide HA9).mono ?_
            rintro e w10 ⟨rfl, h10⟩
            have HF : Hid (Below w.heap.size w w10) := (unhide HW9).trans ((unhide h10).mono (unhide HW9).size)
            go_wp2_with fail
            go_ret
            exact ⟨rfl, HF⟩
        · have hb4 : eb = 4 := by
            rcases unhide HO2 with h | h
            · exact absurd h.1 hb
            · exact h
          subst hb4
          simp only [show ((4 : Nat) : Int) = 4 from rfl]
          clear hb HM HO1 HO2
          go_wp2_with fail
          refine (unhide HA6).mono ?_
          rintro e w10 ⟨rfl, h10⟩
          have HF : Hid (Below w.heap.size w w10) := (unhide HW6).trans ((unhide h10).mono (unhide HW6).size)
          go_wp2_with fail
          go_ret
          exact ⟨rfl, HF⟩
      · have ha4 : ea = 4 := by
          rcases unhide HO1 with h | h
          · exact absurd h.1 ha
          · exact h
        subst ha4
        simp only [show ((4 : Nat) : Int) = 4 from rfl]
        clear ha HM HO1
        by_cases hb : eb = 0
        · subst hb
          simp only [show ((0 : Nat) : Int) = 0 from rfl]
          clear HO2
          go_wp2_with fail
          refine (unhide HA6).mono ?_
          rintro e w10 ⟨rfl, h10⟩
          have HF : Hid (Below w.heap.size w w10) := (unhide HW6).trans ((unhide h10).mono (unhide HW6).size)
          go_wp2_with fail
          go_ret
          exact ⟨rfl, HF⟩
        · have hb4 : eb = 4 := by
            rcases unhide HO2 with h | h
            · exact absurd h.1 hb
            · exact h
          subst hb4
          simp only [show ((4 : Nat) : Int) = 4 from rfl]
          clear hb HO2
          go_wp2_with fail
          refine (unhide HA6).mono ?_
          rintro e w10 ⟨rfl, h10⟩
          have HF : Hid (Below w.heap.size w w10) := (unhide HW6).trans ((unhide h10).mono (unhide HW6).size)
          go_wp2_with fail
          go_ret
          exact ⟨rfl, HF⟩
    · have hEb : (((E2 : Nat) : Int) != 0) = true := by simp; omega
      have hEi : ¬ ((E2 : Nat) : Int) = 0 := by omega
      clear hE2
      go_wp2_with fail
      refine (unhide HAY).mono ?_
      rintro e w10 ⟨rfl, h10⟩
      have HF : Hid (Below w.heap.size w w10) := (unhide HWY).trans ((unhide h10).mono (unhide HWY).size)
      go_wp2_with fail
      go_ret
      exact ⟨rfl, HF⟩
  · have hEb : (((E1 : Nat) : Int) != 0) = true := by simp; omega
    have hEi : ¬ ((E1 : Nat) : Int) = 0 := by omega
    clear hE1
    go_wp2_with fail
    refine (unhide HAY).mono ?_
    rintro e w10 ⟨rfl, h10⟩
    have HF : Hid (Below w.heap.size w w10) := (unhide HWY).trans ((unhide h10).mono (unhide HWY).size)
    go_wp2_with fail
    go_ret
    exact ⟨rfl, HF⟩
#print axioms jone_any
theorem jsonxOne_walk (s t : List UInt8) (w : World) (hs : s.length ≤ maxLen) (ht : t.length ≤ maxLen) (hE : Env4 w) :
    Calls Tryz.prog 4 #[.string (str s), .string (str t)] w fun e w' => e = .returned (.bool true) ∧ Below w.heap.size w w' :=
  (jone_any s t w hE).mono fun e w' h => ⟨h.1, unhide h.2⟩
end Go.Proofs.YtibiegeladphjaaGreatDoor
end
section
set_option linter.unusedVariables false
set_option maxRecDepth 1000000
namespace Go.Proofs.YtibiegeladphjaaGreatDoor
open Go.RowKit

theorem op40 (o : Int) : ∃ r : Nat, r < 40 ∧ wrap64 ((IntKind.u64.wrap o).tmod 40) = (r : Int) := by
  have e : IntKind.u64.wrap o = o % 18446744073709551616 := by simp [IntKind.wrap, IntKind.bits, IntKind.signed]
  have h0 : 0 ≤ o % 18446744073709551616 := Int.emod_nonneg _ (by omega)
  have e2 : (o % 18446744073709551616).tmod 40 = o % 18446744073709551616 % 40 := Int.tmod_eq_emod_of_nonneg h0
  refine ⟨(o % 18446744073709551616 % 40).toNat, by omega, ?_⟩
  rw [e, e2, IntWalk.wrap64_in _ (by omega)]
  omega
theorem JV.kd {w : World} {S : Nat → Prop} {k : Int} {x1 x2 x3 x4 : Value} {j : Js} (h : JV w S (.agg #[.int .i64 k, x1, x2, x3, x4]) j) : Proofs.YtibiegeladphjaaGreatDoor.kd j = k := by
  cases j with
  | mk k' n t ns is =>
  simp only [JV] at h
  obtain ⟨a1, c1, a2, c2, e, _⟩ := h
  simp only [Value.agg.injEq, Array.mk.injEq, List.cons.injEq, Value.int.injEq, true_and] at e
  exact e.1.symm
/-- A value and its box, which is no part of it. -/
def Bxj (w : World) (B : Nat) (j : Js) : Prop := ∃ k n t a1 n1 c1 a2 n2 c2, w.heap[B]? = some (.cells #[.int .i64 k, .int .i64 n, .string (str t), .slice a1 n1 c1, .slice a2 n2 c2] 25 (0, 0)) ∧ JV w (fun x => x < w.heap.size ∧ x ≠ B) (.agg #[.int .i64 k, .int .i64 n, .string (str t), .slice a1 n1 c1, .slice a2 n2 c2]) j
theorem Bxj.step {w W : World} {B G : Nat} {j : Js} {k n : Int} {t : List UInt8} {a1 a2 : Option Addr} {n1 c1 n2 c2 : Nat} (hG : G = w.heap.size) (hB : B < G)
    (hJ : JV w (fun x => x < w.heap.size ∧ x ≠ B) (.agg #[.int .i64 k, .int .i64 n, .string (str t), .slice a1 n1 c1, .slice a2 n2 c2]) j)
    (hs : W.heap.size = G + 1) (hg : W.heap[G]? = some (.cells #[.int .i64 k, .int .i64 n, .string (str t), .slice a1 n1 c1, .slice a2 n2 c2] 25 (0, 0)))
    (hk : ∀ x, x < G → x ≠ B → W.heap[x]? = w.heap[x]?) (hb : W.heap[B]? = some (.cells #[.int .i64 4, .int .i64 0, .string ⟨#[]⟩, .slice none 0 0, .slice (some ⟨G, 0, none⟩) 1 1] 25 (0, 0))) : Bxj W B (.mk 4 0 [] [] [j]) := by
  refine ⟨4, 0, [], none, 0, 0, some ⟨G, 0, none⟩, 1, 1, hb, ?_⟩
  simp only [JV]
  obtain ⟨g0, g1, g2, g3, g4⟩ := cells5 hg
  refine ⟨none, 0, some ⟨G, 0, none⟩, 1, rfl, fun h => absurd rfl h, Nat.le_refl _, by unfold maxLen; omega, fun _ => rfl, Nat.le_refl _, by unfold maxLen; omega, (fun e => by cases e), ?_⟩
  simp only [JVs]
  refine ⟨⟨G, 0, _, _, _, _, _, rfl, ⟨by omega, by omega⟩, g0, g1, g2, g3, g4, ?_⟩, trivial⟩
  exact JV.keep (fun x hx => ⟨⟨by omega, hx.2⟩, hk x (by omega) hx.2⟩) _ _ hJ
theorem Bxj.round {w0 w : World} {B : Nat} {j : Js} {k n : Int} {t : List UInt8} {a1 a2 : Option Addr} {n1 c1 n2 c2 : Nat} (hB : B < w.heap.size) (hw : Below w0.heap.size w0 w) (hwB : w0.heap.size ≤ B)
    (hr : w.heap[B]? = some (.cells #[.int .i64 k, .int .i64 n, .string (str t), .slice a1 n1 c1, .slice a2 n2 c2] 25 (0, 0)))
    (hJ : JV w (fun x => x < w.heap.size ∧ x ≠ B) (.agg #[.int .i64 k, .int .i64 n, .string (str t), .slice a1 n1 c1, .slice a2 n2 c2]) j) :
    ∀ W, W = ((((((w.setCell ⟨B, 0, none⟩ (.int .i64 4)).setCell ⟨B, 1, none⟩ (.int .i64 0)).setCell ⟨B, 2, none⟩ (.string ⟨#[]⟩)).setCell ⟨B, 3, none⟩ (.slice none 0 0)).setCell ⟨B, 4, none⟩ (.slice (some ⟨w.heap.size, 0, none⟩) 1 1)).alloc (.cells #[.int .i64 k, .int .i64 n, .string (str t), .slice a1 n1 c1, .slice a2 n2 c2] 25)) →
      Hid (Bxj W B (.mk 4 0 [] [] [j])) ∧ Hid (Below w0.heap.size w0 W) ∧ Hid (B < W.heap.size) := by
  intro W hW
  obtain ⟨w5, h5⟩ : ∃ w5, w5 = (((((w.setCell ⟨B, 0, none⟩ (.int .i64 4)).setCell ⟨B, 1, none⟩ (.int .i64 0)).setCell ⟨B, 2, none⟩ (.string ⟨#[]⟩)).setCell ⟨B, 3, none⟩ (.slice none 0 0)).setCell ⟨B, 4, none⟩ (.slice (some ⟨w.heap.size, 0, none⟩) 1 1)) := ⟨_, rfl⟩
  rw [← h5] at hW
  have s5 : w5.heap.size = w.heap.size := by rw [h5]; exact siz5 _ _ _ _ _ _ _ _ _ _ _ _
  have r5 : w5.heap[B]? = some (.cells #[.int .i64 4, .int .i64 0, .string ⟨#[]⟩, .slice none 0 0, .slice (some ⟨w.heap.size, 0, none⟩) 1 1] 25 (0, 0)) := by
    rw [h5]
    exact heap_setCell_same _ _ _ _ _ _ (heap_setCell_same _ _ _ _ _ _ (heap_setCell_same _ _ _ _ _ _ (heap_setCell_same _ _ _ _ _ _ (heap_setCell_same _ _ _ _ _ _ hr))))
  have f5 : ∀ x, x ≠ B → w5.heap[x]? = w.heap[x]? := fun x hx => by rw [h5]; exact far5 _ _ _ _ _ _ _ _ _ _ _ _ _ hx
  have b5 : Below w0.heap.size w0 w5 := by
    obtain ⟨o1, o2, o3⟩ := oth5 w B 0 1 2 3 4 (.int .i64 4) (.int .i64 0) (.string ⟨#[]⟩) (.slice none 0 0) (.slice (some ⟨w.heap.size, 0, none⟩) 1 1)
    rw [← h5] at o1 o2 o3
    exact ⟨o1.trans hw.os, o2.trans hw.tape, o3.trans hw.output, by rw [s5]; exact hw.size, fun x hx => (f5 x (by omega)).trans (hw.block x hx)⟩
  have sW : W.heap.size = w.heap.size + 1 := by rw [hW]; simp [s5]
  have old : ∀ x, x < w.heap.size → W.heap[x]? = w5.heap[x]? := fun x hx => by rw [hW]; exact heap_alloc_old _ _ (by rw [s5]; omega)
  refine ⟨?_, ?_, ?_⟩
  · exact Bxj.step rfl hB hJ sW (by rw [hW, ← s5]; exact heap_alloc_new _ _) (fun x hx hxB => (old x hx).trans (f5 x hxB)) ((old B hB).trans r5)
  · show Below _ _ _
    rw [hW]
    exact b5.alloc (by rw [s5]; exact hw.size) _
  · show _ < _
    omega
theorem str_tn (i : Nat) (s : List UInt8) : (⟨#[91]⟩ : ByteArray) ++ str (tnL i s) ++ (⟨#[93]⟩ : ByteArray) = str (tnL (i + 1) s) := by
  rw [show (⟨#[91]⟩ : ByteArray) = str [91] from rfl, show (⟨#[93]⟩ : ByteArray) = str [93] from rfl, str_app4, str_app4]
  rfl
set_option maxHeartbeats 8000000 in
theorem jdeep_any (n0 : Int) (s : List UInt8) (w : World) (hE : Env4 w) (hl : s.length ≤ maxLen) :
    Calls Tryz.prog 8 #[.int .i64 n0, .string (str s)] w fun e w' => e = .returned (.bool true) ∧ Hid (Below w.heap.size w w') := by
  obtain ⟨n, hn, hr⟩ := op40 n0
  have hsz : (str s).size = s.length := str_size s
  have HAW : Hid (∀ u, Below w.heap.size w u → Calls Tryz.prog 10 #[] u fun e w' => e = .returned (.bool true) ∧ Hid (Below u.heap.size u w')) := fun u hb => awake4 u (hE.below hb)
  have HAw0 := hide (unhide HAW w (Below.refl _ _))
  by_cases hbig : 1000 < s.length
  · have hbig' : (1000 : Int) < (s.length : Int) := by omega
    go_enter Tryz.func8, Tryz.ntmps8
    go_wp2_with fail
    refine (unhide HAw0).mono ?_
    rintro e w1 ⟨rfl, h1⟩
    go_wp2_with fail
    go_ret
    exact ⟨rfl, h1⟩
  · have hbig' : ¬ (1000 : Int) < (s.length : Int) := by omega
    clear HAw0
    have hdm := deep_math n s (by omega) hn
    have HP1 := hide (parse_any s w hE.tb hE.et)
    have HP2 : Hid (∀ u, Below w.heap.size w u → Calls Tryz.prog 13 #[.string (str (tnL n s))] u fun e w' => PsP u (tnL n s) e w') := fun u hb => parse_any _ u (hE.below hb).tb (hE.below hb).et
    have hz := (psM_good s).2
    have HTB : Hid (∀ u, Below w.heap.size w u → Tb4 u) := fun u hb => (hE.below hb).tb
    unfold PsP at HP1 HP2
    generalize hR1 : psM s = R1 at hdm HP1 hz
    generalize hR2 : psM (tnL n s) = R2 at hdm HP2
    clear hR1 hR2 hE
    obtain ⟨j1, P1, E1⟩ := R1
    obtain ⟨j2, P2, E2⟩ := R2
    simp only at hdm HP1 HP2 hz
    have HDM := hide hdm
    have HZ := hide hz
    clear hdm hz
    go_enter Tryz.func8, Tryz.ntmps8
    go_wp2_with fail
    refine (unhide HP1).mono ?_
    rintro e w2 ⟨hb2, ht2, v1, rfl, hJ1⟩
    obtain ⟨jk, jn, jt, ja1, jn1, jc1, ja2, jn2, jc2, rfl⟩ := hJ1.form
    have hkd := hJ1.kd
    clear HP1 ht2
    obtain ⟨V, hV⟩ : ∃ V, V = w2.heap.size := ⟨_, rfl⟩
    obtain ⟨U, hU⟩ : ∃ U, U = w2.alloc (.cells #[.int .i64 jk, .int .i64 jn, .string (str jt), .slice ja1 jn1 jc1, .slice ja2 jn2 jc2] 25) := ⟨_, rfl⟩
    have bU : Below w2.heap.size w2 U := by rw [hU]; exact (Below.refl _ _).alloc (Nat.le_refl _) _
    have hbU := hb2.trans (bU.mono hb2.size)
    have rU : U.heap[V]? = some (.cells #[.int .i64 jk, .int .i64 jn, .string (str jt), .slice ja1 jn1 jc1, .slice ja2 jn2 jc2] 25 (0, 0)) := by rw [hU, hV]; exact heap_alloc_new _ _
    have HJ1 : Hid (JV U (Al U) _ j1) := hJ1.al (fun k hk => hk.2) bU
    have HBU := hide hbU
    have HKD := hide hkd
    obtain ⟨p0, p1, p2, p3, p4⟩ := cells5 rU
    clear bU hbU rU hb2 hJ1 hkd
    go_upto_region 5 with fail
    rw [← hU, ← hV]
    clear hU hV
    have HA5 := hide (unhide HAW U (unhide HBU))
    by_cases hE1 : E1 = 0
    · subst hE1
      simp only [show ((0 : Nat) : Int) = 0 from rfl]
      by_cases hk4 : 4 ≤ jk
      · go_wp2_with fail
        refine (unhide HA5).mono ?_
        rintro e w5 ⟨rfl, h5⟩
        have HB5 : Hid (Below w.heap.size w w5) := (unhide HBU).trans ((unhide h5).mono (unhide HBU).size)
        go_wp2_with fail
        go_ret
        exact ⟨rfl, HB5⟩
      · have hk4' : ¬ (4 : Int) ≤ jk := hk4
        have HDM2 := hide (unhide HDM rfl (by rw [unhide HKD]; omega))
        clear HDM HA5
        clear hr
        obtain ⟨B, hB⟩ : ∃ B, B = U.heap.size := ⟨_, rfl⟩
        obtain ⟨Y, hY⟩ : ∃ Y, Y = U.alloc (.cells #[.int .i64 jk, .int .i64 jn, .string (str jt), .slice ja1 jn1 jc1, .slice ja2 jn2 jc2] 25) := ⟨_, rfl⟩
        have bY : Below U.heap.size U Y := by rw [hY]; exact (Below.refl _ _).alloc (Nat.le_refl _) _
        have HX : Hid (Bxj Y B j1) := ⟨_, _, _, _, _, _, _, _, _, by rw [hY, hB]; exact heap_alloc_new _ _, JV.keep (fun x hx => ⟨⟨Nat.lt_of_lt_of_le hx bY.size, by have : x < U.heap.size := hx; omega⟩, bY.block x hx⟩) _ _ (unhide HJ1)⟩
        have HBY : Hid (Below w.heap.size w Y) := (unhide HBU).trans (bY.mono (unhide HBU).size)
        have HBB : Hid (w.heap.size ≤ B ∧ B < Y.heap.size) := ⟨by rw [hB]; exact (unhide HBU).size, by rw [hY, hB]; simp⟩
        clear bY
        go_upto_region 8 with fail
        rw [← hY, ← hB]
        clear hY hB p0 p1 p2 p3 p4
        go_wp2_with fail
        go_loopw [9, 38] (fun tv iv wr => ∃ i : Nat, i ≤ n ∧ iv = .int .i64 (i : Int) ∧ tv = .string (str (tnL i s)) ∧ Hid (Bxj wr B (nsJ i j1)) ∧ Hid (Below w.heap.size w wr) ∧ Hid (B < wr.heap.size)) (fun _ iv _ => n - (intOf iv).toNat)
        case atStart => exact ⟨0, Nat.zero_le _, rfl, rfl, HX, HBY, (unhide HBB).2⟩
        case round =>
          obtain ⟨i, hi, rfl, rfl, HXi, HBi, HLi⟩ := hrel
          by_cases hlt : i < n
          · have hlt' : (i : Int) < (n : Int) := by omega
            obtain ⟨ik, inn, it, ia1, in1, ic1, ia2, in2, ic2, rB, hJ⟩ := unhide HXi
            obtain ⟨q0, q1, q2, q3, q4⟩ := cells5 rB
            have zs : (str (tnL i s)).size = s.length + 2 * i := by rw [str_size, tn_len]
            have f0 := frozen_of_row wr B 0 _ _ rB
            have f1 := frozen_of_row wr B 1 _ _ rB
            have f2 := frozen_of_row wr B 2 _ _ rB
            have f3 := frozen_of_row wr B 3 _ _ rB
            have f4 := frozen_of_row wr B 4 _ _ rB
            have HRB := hide rB
            have hLi : B < wr.heap.size := unhide HLi
            have HJJ := hide hJ
            clear HXi rB hJ
            go_wp2_with fail
            go_roundw
            case rel =>
              obtain ⟨k1, k2, k3⟩ := Bxj.round hLi (unhide HBi) (unhide HBB).1 (unhide HRB) (unhide HJJ) _ rfl
              exact ⟨i + 1, by omega, by go_num, by rw [str_tn], k1, k2, k3⟩
            case measure => simp [intOf]; omega
          · have hin : i = n := by omega
            subst hin
            have hlt' : ¬ (i : Int) < (i : Int) := by omega
            have HQ2 := hide (unhide HP2 wr (unhide HBi))
            obtain ⟨ik, inn, it, ia1, in1, ic1, ia2, in2, ic2, rB, hJ⟩ := unhide HXi
            have HJV : Hid (JV wr (Al wr) _ (nsJ i j1)) := JV.keep (fun x hx => ⟨hx.1, rfl⟩) _ _ hJ
            have HRB := hide rB
            clear HXi rB hJ HP2
            go_wp2_with fail
            refine (unhide HQ2).mono ?_
            rintro e w3 ⟨hb3, ht3, v2, rfl, hJ2⟩
            obtain ⟨lk, ln, lt, la1, ln1, lc1, la2, ln2, lc2, rfl⟩ := hJ2.form
            clear HQ2 ht3
            obtain ⟨X, hX⟩ : ∃ X, X = w3.heap.size := ⟨_, rfl⟩
            obtain ⟨Z, hZ⟩ : ∃ Z, Z = w3.alloc (.cells #[.int .i64 lk, .int .i64 ln, .string (str lt), .slice la1 ln1 lc1, .slice la2 ln2 lc2] 25) := ⟨_, rfl⟩
            have bZ : Below w3.heap.size w3 Z := by rw [hZ]; exact (Below.refl _ _).alloc (Nat.le_refl _) _
            have bwZ := hb3.trans (bZ.mono hb3.size)
            have rX : Z.heap[X]? = some (.cells #[.int .i64 lk, .int .i64 ln, .string (str lt), .slice la1 ln1 lc1, .slice la2 ln2 lc2] 25 (0, 0)) := by rw [hZ, hX]; exact heap_alloc_new _ _
            have rBZ := (bwZ.block B (unhide HLi)).trans (unhide HRB)
            have HJ2 : Hid (JV Z (Al Z) _ j2) := hJ2.al (fun k hk => hk.2) bZ
            have HJV' : Hid (JV Z (Al Z) _ (nsJ i j1)) := (unhide HJV).al (fun k hk => hk) bwZ
            have HBZ : Hid (Below w.heap.size w Z) := (unhide HBi).trans (bwZ.mono (unhide HBi).size)
            have hRX := hide rX
            have hRB := hide rBZ
            obtain ⟨p0, p1, p2, p3, p4⟩ := cells5 rBZ
            obtain ⟨q0, q1, q2, q3, q4⟩ := cells5 rX
            clear HJV HRB bZ bwZ rX rBZ hb3 hJ2 HBi HLi HBB
            go_upto_region 13 with fail
            rw [← hZ, ← hX]
            clear hZ hX
            have hzz := sz_deep j1 (unhide HZ) i
            by_cases h16 : 16 < i
            · have h16' : (16 : Int) < (i : Int) := by omega
              obtain ⟨hps, hck⟩ := (unhide HDM2).2 h16
              simp only [Prod.mk.injEq] at hps
              obtain ⟨rfl, rfl, rfl⟩ := hps
              have HCK := hide (checkJ_any (nsJ i j1) (Al Z) _ Z (unhide HTB Z (unhide HBZ)) (unhide HJV') (fun k hk => hk) hzz)
              rw [hck] at HCK
              simp only [show ((16 : Nat) : Int) = 16 from rfl, show ((41 : Nat) : Int) = 41 from rfl] at HCK ⊢
              clear HDM2 hck hzz HJ2 HJV'
              go_wp2_with fail
              refine (unhide HCK).mono ?_
              rintro e w4 ⟨rfl, h4⟩
              have HB4 : Hid (Below w.heap.size w w4) := (unhide HBZ).trans ((unhide h4).mono (unhide HBZ).size)
              have HA4 := hide (unhide HAW w4 (unhide HB4))
              clear HCK HAW HBZ h4 p0 p1 p2 p3 p4 q0 q1 q2 q3 q4
              go_wp2_with fail
              refine (unhide HA4).mono ?_
              rintro e w5 ⟨rfl, h5⟩
              have HB5 : Hid (Below w.heap.size w w5) := (unhide HB4).trans ((unhide h5).mono (unhide HB4).size)
              go_wp2_with fail
              go_ret
              exact ⟨rfl, HB5⟩
            · have h16' : ¬ (16 : Int) < (i : Int) := by omega
              obtain ⟨hps, hck⟩ := (unhide HDM2).1 (by omega)
              simp only [Prod.mk.injEq] at hps
              obtain ⟨rfl, rfl, rfl⟩ := hps
              have HEQ := hide (equal_same (nsJ i j1) (Al Z) _ _ Z (unhide HJV') (unhide HJ2) (fun k hk => hk))
              have HCK : Hid (∀ u, Below Z.heap.size Z u → Calls Tryz.prog 15 #[.agg #[.int .i64 ik, .int .i64 inn, .string (str it), .slice ia1 in1 ic1, .slice ia2 in2 ic2]] u fun e w' => e = .returned (.int .i64 0) ∧ Hid (Below u.heap.size u w')) := fun u hb => by
                have := checkJ_any (nsJ i j1) (Al u) _ u (unhide HTB u ((unhide HBZ).trans (hb.mono (unhide HBZ).size))) ((unhide HJV').al (fun k hk => hk) hb) (fun k hk => hk) hzz
                rw [hck] at this
                exact this
              simp only [show ((0 : Nat) : Int) = 0 from rfl]
              clear HDM2 hck hzz HJ2 HJV'
              go_wp2_with fail
              refine (unhide HEQ).mono ?_
              rintro e w4 ⟨rfl, h4⟩
              have HB4 : Hid (Below w.heap.size w w4) := (unhide HBZ).trans ((unhide h4).mono (unhide HBZ).size)
              have HC4 := hide (unhide HCK w4 (unhide h4))
              have rB4 := ((unhide h4).block B (Array.getElem?_eq_some_iff.1 (unhide hRB)).1).trans (unhide hRB)
              clear HCK HEQ HBZ h4 p0 p1 p2 p3 p4 q0 q1 q2 q3 q4
              obtain ⟨p0, p1, p2, p3, p4⟩ := cells5 rB4
              clear rB4
              go_wp2_with fail
              refine (unhide HC4).mono ?_
              rintro e w5 ⟨rfl, h5⟩
              have HB5 : Hid (Below w.heap.size w w5) := (unhide HB4).trans ((unhide h5).mono (unhide HB4).size)
              have HA5 := hide (unhide HAW w5 (unhide HB5))
              clear HC4 HAW h5 p0 p1 p2 p3 p4
              go_wp2_with fail
              refine (unhide HA5).mono ?_
              rintro e w6 ⟨rfl, h6⟩
              have HB6 : Hid (Below w.heap.size w w6) := (unhide HB5).trans ((unhide h6).mono (unhide HB5).size)
              go_wp2_with fail
              go_ret
              exact ⟨rfl, HB6⟩
    · have hEb : (((E1 : Nat) : Int) != 0) = true := by simp; omega
      have hEi : ¬ ((E1 : Nat) : Int) = 0 := by omega
      go_wp2_with fail
      refine (unhide HA5).mono ?_
      rintro e w5 ⟨rfl, h5⟩
      have HB5 : Hid (Below w.heap.size w w5) := (unhide HBU).trans ((unhide h5).mono (unhide HBU).size)
      go_wp2_with fail
      go_ret
      exact ⟨rfl, HB5⟩
#print axioms jdeep_any
theorem jsonxDeep_walk (n : Int) (s : List UInt8) (w : World) (hl : s.length ≤ maxLen) (hE : Env4 w) :
    Calls Tryz.prog 8 #[.int .i64 n, .string (str s)] w fun e w' => e = .returned (.bool true) ∧ Below w.heap.size w w' :=
  (jdeep_any n s w hE hl).mono fun e w' h => ⟨h.1, unhide h.2⟩
end Go.Proofs.YtibiegeladphjaaGreatDoor
end
