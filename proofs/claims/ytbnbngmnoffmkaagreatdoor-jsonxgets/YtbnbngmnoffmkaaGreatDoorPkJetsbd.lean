/-
  jsonx as mathematics: what is printed is read as the same value, its members by rising names.; jsonx as mathematics: which values are alike.; for all texts and numbers JsonxBlanks answers true: blanks ahead of a text and behind it.; jsonx: slices.EqualFunc by alike; sameMembers; alike; Same.; jsonx: sameMembers.; jsonx: alike; Same.; for all pairs of texts JsonxOne answers true.
-/
import Derived.Test.YtbnbngmnoffmkaaGreatDoorPkJetsbc
import Derived.Test.YtbnbngmnoffmkaaGreatDoorPkJetsau
import Derived.Test.YtbnbngmnoffmkaaGreatDoorPkJetsax
import Derived.BigQuiet
import Derived.Deep.RegionHeld3
section
set_option linter.unusedVariables false
namespace Go.Proofs.YtbnbngmnoffmkaaGreatDoor
open Go.RowKit

def srF (S : Js → Js) : Js → Js
  | .mk k n t ns is => if k = 5 then .mk k n t ((ordS ns).map (nmA ns)) ((ordS ns).map fun i => S (is.getD i Js.nul)) else .mk k n t ns (is.map S)
def srN : Nat → Js → Js
  | 0, j => j
  | n + 1, j => srF (srN n) j
theorem srF_eq (S : Js → Js) (k n : Int) (t : List UInt8) (ns : List (List UInt8)) (is : List Js) : srF S (.mk k n t ns is) = if k = 5 then .mk k n t ((ordS ns).map (nmA ns)) ((ordS ns).map fun i => S (is.getD i Js.nul)) else .mk k n t ns (is.map S) := rfl
theorem prF_eq (P : Js → List UInt8) (k n : Int) (t : List UInt8) (ns : List (List UInt8)) (is : List Js) : prF P (.mk k n t ns is) =
    if k = 0 then [110, 117, 108, 108]
    else if k = 1 then (if n = 1 then [116, 114, 117, 101] else [102, 97, 108, 115, 101])
    else if k = 2 then Lib.itoa n
    else if k = 3 then quo t
    else if k = 4 then [91] ++ joF true (is.map P) ++ [93]
    else if k = 5 then [123] ++ joF true ((ordS ns).map (memP P ns is)) ++ [125]
    else [] := rfl
theorem pr4 (P : Js → List UInt8) (n : Int) (t : List UInt8) (ns : List (List UInt8)) (is : List Js) : prF P (.mk 4 n t ns is) = [91] ++ joF true (is.map P) ++ [93] := by
  rw [prF_eq, if_neg (by decide), if_neg (by decide), if_neg (by decide), if_neg (by decide), if_pos rfl]
theorem pr5 (P : Js → List UInt8) (n : Int) (t : List UInt8) (ns : List (List UInt8)) (is : List Js) : prF P (.mk 5 n t ns is) = [123] ++ joF true ((ordS ns).map (memP P ns is)) ++ [125] := by
  rw [prF_eq, if_neg (by decide), if_neg (by decide), if_neg (by decide), if_neg (by decide), if_neg (by decide), if_pos rfl]
theorem wf_flat {k n : Int} {t : List UInt8} {ns : List (List UInt8)} {is : List Js} (h : wfB (.mk k n t ns is) = true) (hk : k < 4) : ns = [] ∧ is = [] ∧ ((k = 0 ∧ n = 0 ∧ t = []) ∨ (k = 1 ∧ (n = 0 ∨ n = 1) ∧ t = []) ∨ (k = 2 ∧ t = []) ∨ (k = 3 ∧ n = 0 ∧ chr t = none)) := by
  obtain ⟨hkk, _⟩ := wf_kind h
  rw [wfB] at h
  rcases hkk with rfl | rfl | rfl | rfl | rfl | rfl
  · simp at h; exact ⟨h.1.2, h.2, .inl ⟨rfl, h.1.1.1, h.1.1.2⟩⟩
  · simp at h; exact ⟨h.1.2, h.2, .inr (.inl ⟨rfl, h.1.1.1, h.1.1.2⟩)⟩
  · simp at h; exact ⟨h.1.2, h.2, .inr (.inr (.inl ⟨rfl, h.1.1⟩))⟩
  · simp at h; exact ⟨h.1.2, h.2, .inr (.inr (.inr ⟨rfl, h.1.1.1, h.1.1.2⟩))⟩
  · omega
  · omega
theorem va_fl (V : Option (List UInt8 → Rs Js)) (P : Js → List UInt8) (k n : Int) (t : List UInt8) (ns : List (List UInt8)) (is : List Js) (h : wfB (.mk k n t ns is) = true) (hk : k < 4) (hz : -9223372036854775808 ≤ n ∧ n ≤ 9223372036854775807) (x : List UInt8) (hx : Ns x) :
    vaF V (prF P (.mk k n t ns is) ++ x) = .ok (.mk k n t ns is) x := by
  obtain ⟨rfl, rfl, hh⟩ := wf_flat h hk
  rw [prF_eq]
  rcases hh with ⟨rfl, rfl, rfl⟩ | ⟨rfl, hn, rfl⟩ | ⟨rfl, rfl⟩ | ⟨rfl, rfl, hc⟩
  · rfl
  · rcases hn with rfl | rfl <;> rfl
  · rw [if_neg (by decide), if_neg (by decide), if_pos rfl]
    obtain ⟨c, r, e, hc⟩ := itoa_head n
    have e2 := nu_itoa n hz.1 hz.2 x hx
    rw [e, List.cons_append] at e2 ⊢
    unfold vaF
    simp only
    have hd : c ≠ 123 ∧ c ≠ 91 ∧ c ≠ 34 := by
      rcases hc with rfl | hc
      · decide
      · refine ⟨?_, ?_, ?_⟩ <;> (rintro rfl; exact absurd hc (by decide))
    rw [if_neg hd.1, if_neg hd.2.1, if_neg hd.2.2, if_pos hc, e2]
  · rw [if_neg (by decide), if_neg (by decide), if_neg (by decide), if_pos rfl]
    have e2 := uq_quo t x hc
    have e : quo t ++ x = 34 :: (qtA t ++ 34 :: x) := by unfold quo; simp
    rw [e] at e2 ⊢
    unfold vaF
    simp only
    rw [if_neg (by decide), if_neg (by decide), if_pos trivial, e2]
    simp [tkM]
theorem qs_head (t : List UInt8) : ∃ r, quo t = 34 :: r := ⟨_, rfl⟩
/-- With what a print begins. -/
theorem pr_head (n : Nat) (j : Js) (h : ck n j = 0) : ∃ c t, prN n j = c :: t ∧ blB4 c = false ∧ c ≠ 93 := by
  cases j with
  | mk k i t ns is =>
  obtain ⟨hw, _, _⟩ := ck_zero n k i t ns is h
  obtain ⟨hkk, _⟩ := wf_kind hw
  obtain ⟨P, hP, _⟩ := prN_eq n (.mk k i t ns is)
  rw [hP, prF_eq]
  rcases hkk with rfl | rfl | rfl | rfl | rfl | rfl
  · exact ⟨_, _, rfl, by decide, by decide⟩
  · rw [if_neg (by decide), if_pos rfl]
    split
    · exact ⟨_, _, rfl, by decide, by decide⟩
    · exact ⟨_, _, rfl, by decide, by decide⟩
  · rw [if_neg (by decide), if_neg (by decide), if_pos rfl]
    obtain ⟨c, r, e, hc⟩ := itoa_head i
    refine ⟨c, r, e, ?_, ?_⟩
    · rcases hc with rfl | hc
      · decide
      · cases hb : blB4 c with
        | false => rfl
        | true => rw [bl_dg hb] at hc; cases hc
    · rcases hc with rfl | hc
      · decide
      · rintro rfl; exact absurd hc (by decide)
  · exact ⟨_, _, rfl, by decide, by decide⟩
  · exact ⟨_, _, rfl, by decide, by decide⟩
  · exact ⟨_, _, rfl, by decide, by decide⟩
theorem sk_head {c : UInt8} {t : List UInt8} (h : blB4 c = false) : skB (c :: t) = c :: t := by rw [skB_cons, if_neg (by rw [h]; simp)]
theorem sk_pr (n : Nat) (j : Js) (h : ck n j = 0) (x : List UInt8) : skB (prN n j ++ x) = prN n j ++ x := by
  obtain ⟨c, t, e, hb, _⟩ := pr_head n j h
  rw [e, List.cons_append, sk_head hb]
theorem joF_false : ∀ (x : List UInt8) (l : List (List UInt8)), joF false (x :: l) = 44 :: joF true (x :: l)
  | x, l => by simp [joF]
theorem joF_len (l : List (List UInt8)) : ∀ f, (∀ x ∈ l, x ≠ []) → l.length ≤ (joF f l).length := by
  induction l with
  | nil => intro f _; simp
  | cons x r ih =>
    intro f h
    have h1 := ih false (fun y hy => h y (List.mem_cons_of_mem _ hy))
    have h2 := List.length_pos_iff.2 (h x List.mem_cons_self)
    rw [joF]
    simp only [List.length_append, List.length_cons]
    omega
theorem ns44 (x : List UInt8) : Ns (44 :: x) := ns_cons (by decide) rfl
theorem ns125 (x : List UInt8) : Ns (125 :: x) := ns_cons (by decide) rfl
/-- Values that are printed at a depth are read at it. -/
def PrR (n : Nat) : Prop := ∀ (j : Js) (x : List UInt8), ck n j = 0 → Sz j → Ns x → vaM n (prN n j ++ x) = .ok (srN n j) x
theorem li_print (n : Nat) (hn : PrR n) (x : List UInt8) : ∀ (is : List Js) (acc : List Js) (f : Nat), is ≠ [] → (∀ j ∈ is, ck n j = 0 ∧ Sz j) → is.length ≤ f → liL (vaM n) f acc (joF true (is.map (prN n)) ++ 93 :: x) = .ok (acc ++ is.map (srN n)) (93 :: x)
  | [], acc, f, h, _, _ => absurd rfl h
  | j :: r, acc, 0, _, _, hf => by simp at hf
  | [j], acc, f + 1, _, hj, hf => by
    obtain ⟨h1, h2⟩ := hj j List.mem_cons_self
    have e : joF true ([j].map (prN n)) ++ 93 :: x = prN n j ++ 93 :: x := by simp [joF]
    rw [e, liL, hn j _ h1 h2 (ns93 x)]
    simp only
    rw [sk_head (show blB4 93 = false by decide)]
    simp only
    rw [if_neg (by decide)]
    rfl
  | j :: j2 :: r, acc, f + 1, _, hj, hf => by
    obtain ⟨h1, h2⟩ := hj j List.mem_cons_self
    have e : joF true ((j :: j2 :: r).map (prN n)) ++ 93 :: x = prN n j ++ 44 :: (joF true ((j2 :: r).map (prN n)) ++ 93 :: x) := by
      rw [List.map_cons, joF]
      have := joF_false (prN n j2) (r.map (prN n))
      rw [List.map_cons, this]
      simp
    have hh : ∀ y, skB (joF true ((j2 :: r).map (prN n)) ++ y) = joF true ((j2 :: r).map (prN n)) ++ y := by
      intro y
      have := sk_pr n j2 (hj j2 (by simp)).1 (joF false (r.map (prN n)) ++ y)
      rw [List.map_cons, joF]
      simpa using this
    rw [e, liL, hn j _ h1 h2 (ns44 _)]
    simp only
    rw [sk_head (show blB4 44 = false by decide)]
    simp only
    rw [if_pos trivial, hh, li_print n hn x (j2 :: r) (acc ++ [srN n j]) f (by simp) (fun y hy => hj y (List.mem_cons_of_mem _ hy)) (by simp at hf ⊢; omega)]
    simp
theorem getD_mem {is : List Js} {i : Nat} (h : i < is.length) : is.getD i Js.nul ∈ is := by
  rw [List.getD_eq_getElem?_getD, List.getElem?_eq_getElem h]
  exact List.getElem_mem h
theorem mb_print (n : Nat) (hn : PrR n) (ns : List (List UInt8)) (is : List Js) (seen : List (List UInt8)) (i : Nat) (y : List UInt8) (hc : chr (nmA ns i) = none) (hs : nmA ns i ∉ seen) (hj : ck n (is.getD i Js.nul) = 0) (hz : Sz (is.getD i Js.nul)) (hy : Ns y) :
    mbM (vaM n) seen (memP (prN n) ns is i ++ y) = .ok (nmA ns i, srN n (is.getD i Js.nul)) y := by
  have e : memP (prN n) ns is i ++ y = quo (nmA ns i) ++ (58 :: (prN n (is.getD i Js.nul) ++ y)) := by unfold memP; simp
  unfold mbM
  rw [e, uq_quo _ _ hc]
  simp only
  rw [if_neg hs]
  simp only [tkM]
  rw [if_pos trivial]
  simp only
  rw [sk_head (show blB4 58 = false by decide)]
  simp only
  rw [if_pos trivial]
  simp only
  rw [sk_pr n _ hj, hn _ _ hj hz hy]
theorem ob_print (n : Nat) (hn : PrR n) (ns : List (List UInt8)) (is : List Js) (hc : ∀ s ∈ ns, chr s = none) (hl : ns.length = is.length) (hj : ∀ j ∈ is, ck n j = 0 ∧ Sz j) (x : List UInt8) :
    ∀ (o : List Nat) (an : List (List UInt8)) (ai : List Js) (f : Nat), o ≠ [] → (∀ i ∈ o, i < ns.length ∧ nmA ns i ∉ an) → (o.map (nmA ns)).Nodup → o.length ≤ f →
      obL (vaM n) f an ai (joF true (o.map (memP (prN n) ns is)) ++ 125 :: x) = .ok (an ++ o.map (nmA ns), ai ++ o.map (fun i => srN n (is.getD i Js.nul))) (125 :: x)
  | [], an, ai, f, h, _, _, _ => absurd rfl h
  | i :: r, an, ai, 0, _, _, _, hf => by simp at hf
  | [i], an, ai, f + 1, _, ho, _, hf => by
    obtain ⟨h1, h2⟩ := ho i List.mem_cons_self
    obtain ⟨k1, k2⟩ := hj _ (getD_mem (show i < is.length by omega))
    have hci : chr (nmA ns i) = none := by rw [nmA_get h1]; exact hc _ (List.getElem_mem h1)
    have e : joF true ([i].map (memP (prN n) ns is)) ++ 125 :: x = memP (prN n) ns is i ++ 125 :: x := by simp [joF]
    rw [e, obL, mb_print n hn ns is an i _ hci h2 k1 k2 (ns125 x)]
    simp only
    rw [sk_head (show blB4 125 = false by decide)]
    simp only
    rw [if_neg (by decide)]
    rfl
  | i :: i2 :: r, an, ai, f + 1, _, ho, hd, hf => by
    obtain ⟨h1, h2⟩ := ho i List.mem_cons_self
    obtain ⟨k1, k2⟩ := hj _ (getD_mem (show i < is.length by omega))
    have hci : chr (nmA ns i) = none := by rw [nmA_get h1]; exact hc _ (List.getElem_mem h1)
    have e : joF true ((i :: i2 :: r).map (memP (prN n) ns is)) ++ 125 :: x = memP (prN n) ns is i ++ 44 :: (joF true ((i2 :: r).map (memP (prN n) ns is)) ++ 125 :: x) := by
      rw [List.map_cons, joF]
      have := joF_false (memP (prN n) ns is i2) (r.map (memP (prN n) ns is))
      rw [List.map_cons, this]
      simp
    have hh : ∀ y, skB (joF true ((i2 :: r).map (memP (prN n) ns is)) ++ y) = joF true ((i2 :: r).map (memP (prN n) ns is)) ++ y := by
      intro y
      obtain ⟨q, hq⟩ := qs_head (nmA ns i2)
      rw [List.map_cons, joF]
      unfold memP
      rw [hq]
      exact sk_head (by decide)
    rw [List.map_cons, List.nodup_cons] at hd
    rw [e, obL, mb_print n hn ns is an i _ hci h2 k1 k2 (ns44 _)]
    simp only
    rw [sk_head (show blB4 44 = false by decide)]
    simp only
    rw [if_pos trivial, hh, ob_print n hn ns is hc hl hj x (i2 :: r) (an ++ [nmA ns i]) (ai ++ [srN n (is.getD i Js.nul)]) f (by simp) (fun y hy => ⟨(ho y (List.mem_cons_of_mem _ hy)).1, fun hm => by
      rcases List.mem_append.1 hm with hm | hm
      · exact (ho y (List.mem_cons_of_mem _ hy)).2 hm
      · rw [List.mem_singleton] at hm
        exact hd.1 (List.mem_map.2 ⟨y, hy, hm⟩)⟩) hd.2 (by simp at hf ⊢; omega)]
    simp
theorem ris_names {ns : List (List UInt8)} {o : List Nat} (h : RisO ns o) : (o.map (nmA ns)).Perm ns := by
  have := h.1.map (nmA ns)
  rw [map_nmA] at this
  exact this
theorem wf5 {k n : Int} {t : List UInt8} {ns : List (List UInt8)} {is : List Js} (h : wfB (.mk k n t ns is) = true) (hk : k = 5) : n = 0 ∧ t = [] ∧ ns.length = is.length ∧ ∀ s ∈ ns, chr s = none := by
  subst hk
  rw [wfB] at h
  simp at h
  exact ⟨h.1.1.1, h.1.1.2, h.1.2, h.2⟩
theorem wf4 {k n : Int} {t : List UInt8} {ns : List (List UInt8)} {is : List Js} (h : wfB (.mk k n t ns is) = true) (hk : k = 4) : n = 0 ∧ t = [] ∧ ns = [] := by
  subst hk
  rw [wfB] at h
  simp at h
  exact ⟨h.1.1, h.1.2, h.2⟩
theorem pr_read : ∀ n, PrR n := by
  intro n
  induction n with
  | zero =>
    intro j x hck hz hx
    cases j with
    | mk k i t ns is =>
    obtain ⟨hw, hnd, h45⟩ := ck_zero 0 k i t ns is hck
    obtain ⟨hkk, _⟩ := wf_kind hw
    have hk : k < 4 := by
      rcases hkk with h | h | h | h | h | h
      · omega
      · omega
      · omega
      · omega
      · obtain ⟨m, e, _⟩ := h45 (.inl h); cases e
      · obtain ⟨m, e, _⟩ := h45 (.inr h); cases e
    simp only [Sz] at hz
    exact va_fl none _ k i t ns is hw hk hz.1 x hx
  | succ n ih =>
    intro j x hck hz hx
    cases j with
    | mk k i t ns is =>
    obtain ⟨hw, hnd, h45⟩ := ck_zero (n + 1) k i t ns is hck
    obtain ⟨hkk, _⟩ := wf_kind hw
    simp only [Sz] at hz
    obtain ⟨hz1, hz2, hz3, hz4, hz5, hz6⟩ := hz
    show vaF (some (vaM n)) (prF (prN n) (.mk k i t ns is) ++ x) = .ok (srF (srN n) (.mk k i t ns is)) x
    by_cases hk4 : k < 4
    · obtain ⟨e1, e2, _⟩ := wf_flat hw hk4
      rw [va_fl _ _ k i t ns is hw hk4 hz1 x hx, srF_eq, if_neg (by omega), e2]
      rfl
    · have hit : ∀ j ∈ is, ck n j = 0 ∧ Sz j := by
        obtain ⟨m, e, h⟩ := h45 (by omega)
        cases e
        exact fun j hj => ⟨h j hj, (szs_iff is).1 hz6 j hj⟩
      have hpne : ∀ j ∈ is, prN n j ≠ [] := fun j hj => by
        obtain ⟨c, t, e, _⟩ := pr_head n j (hit j hj).1
        rw [e]; simp
      by_cases hk : k = 4
      · obtain ⟨rfl, rfl, rfl⟩ := wf4 hw hk
        subst hk
        rw [prF_eq, srF_eq]
        rw [if_neg (by decide), if_neg (by decide), if_neg (by decide), if_neg (by decide), if_pos rfl, if_neg (by decide)]
        have e : [91] ++ joF true (is.map (prN n)) ++ [93] ++ x = 91 :: (joF true (is.map (prN n)) ++ 93 :: x) := by simp
        rw [e]
        unfold vaF
        simp only
        rw [if_neg (by decide), if_pos trivial]
        unfold mmM
        cases is with
        | nil =>
          simp only [List.map_nil, joF, List.nil_append]
          rw [sk_head (show blB4 93 = false by decide)]
          simp [tkM]
        | cons j r =>
          obtain ⟨c, tt, hc, hb, h93⟩ := pr_head n j (hit j List.mem_cons_self).1
          have e2 : ∃ T, joF true ((j :: r).map (prN n)) ++ 93 :: x = c :: T := by
            rw [List.map_cons, joF, hc]
            exact ⟨_, rfl⟩
          obtain ⟨T, hT⟩ := e2
          have hl := li_print n ih x (j :: r) [] ((c :: T).length + 1) (by simp) hit (by
            rw [← hT]
            have := joF_len ((j :: r).map (prN n)) true (fun y hy => by
              obtain ⟨z, hz, rfl⟩ := List.mem_map.1 hy
              exact hpne z hz)
            rw [List.length_map] at this
            rw [List.length_append]
            omega)
          rw [hT] at hl ⊢
          rw [sk_head hb]
          simp only
          rw [if_neg h93, hl]
          simp [tkM]
      · have hk5 : k = 5 := by omega
        obtain ⟨rfl, rfl, hnl, hch⟩ := wf5 hw hk5
        subst hk5
        rw [prF_eq, srF_eq]
        rw [if_neg (by decide), if_neg (by decide), if_neg (by decide), if_neg (by decide), if_neg (by decide), if_pos rfl, if_pos rfl]
        have e : [123] ++ joF true ((ordS ns).map (memP (prN n) ns is)) ++ [125] ++ x = 123 :: (joF true ((ordS ns).map (memP (prN n) ns is)) ++ 125 :: x) := by simp
        rw [e]
        unfold vaF
        simp only
        rw [if_pos trivial]
        unfold mmM
        have hris := ordS_ris ns
        have hnod : ((ordS ns).map (nmA ns)).Nodup := (ris_names hris).nodup_iff.2 hnd
        generalize ordS ns = o at hris hnod ⊢
        cases o with
        | nil =>
          simp only [List.map_nil, joF, List.nil_append]
          rw [sk_head (show blB4 125 = false by decide)]
          simp [tkM]
        | cons j r =>
          obtain ⟨q, hq⟩ := qs_head (nmA ns j)
          have e2 : ∃ T, joF true ((j :: r).map (memP (prN n) ns is)) ++ 125 :: x = 34 :: T := by
            rw [List.map_cons, joF]
            unfold memP
            rw [hq]
            exact ⟨_, rfl⟩
          obtain ⟨T, hT⟩ := e2
          have hl := ob_print n ih ns is hch hnl hit x (j :: r) [] [] (((34 : UInt8) :: T).length + 1) (by simp) (fun i hi => ⟨hris.lt i hi, by simp⟩) hnod (by
            rw [← hT]
            have := joF_len ((j :: r).map (memP (prN n) ns is)) true (fun y hy => by
              obtain ⟨z, hz, rfl⟩ := List.mem_map.1 hy
              unfold memP quo
              simp)
            rw [List.length_map] at this
            rw [List.length_append]
            omega)
          rw [hT] at hl ⊢
          rw [sk_head (show blB4 34 = false by decide)]
          simp only
          rw [if_neg (by decide), hl]
          simp [tkM]
#print axioms pr_read
theorem ps_print (j : Js) (h : ck 16 j = 0) (hz : Sz j) (hl : (prN 16 j).length ≤ 65536) : psM (prN 16 j) = (srN 16 j, 0, 0) := by
  have e := pr_read 16 j [] h hz ns_nil
  have e2 := sk_pr 16 j h []
  rw [List.append_nil] at e e2
  unfold psM
  rw [if_neg (by omega), e2, e]
  rfl
/-- Two values with one print are one. -/
theorem sr_of_pr (n : Nat) (a b : Js) (ha : ck n a = 0) (hb : ck n b = 0) (za : Sz a) (zb : Sz b) (h : prN n a = prN n b) : srN n a = srN n b := by
  have e1 := pr_read n a [] ha za ns_nil
  have e2 := pr_read n b [] hb zb ns_nil
  rw [h, e2] at e1
  simp only [Rs.ok.injEq, and_true] at e1
  exact e1.symm
/-- Sorted names, and their places. -/
theorem ord_sorted {ns : List (List UInt8)} (hd : ns.Nodup) : ordS ((ordS ns).map (nmA ns)) = List.range ns.length := by
  have hr := ordS_ris ns
  generalize ordS ns = o at hr ⊢
  have hlen : (o.map (nmA ns)).length = ns.length := by rw [List.length_map, hr.len]
  have hnd : (o.map (nmA ns)).Nodup := (ris_names hr).nodup_iff.2 hd
  rw [← hlen]
  refine (RisO.eq hnd (ordS_ris _) ⟨List.Perm.refl _, ?_⟩)
  rw [List.pairwise_iff_getElem]
  intro i j hi hj hij
  simp only [List.length_range] at hi hj
  simp only [List.getElem_range]
  have h1 := List.pairwise_iff_getElem.1 hr.2 i j (by rw [List.length_map] at hi; exact hi) (by rw [List.length_map] at hj; exact hj) hij
  unfold leN at h1 ⊢
  rw [nmA_get hi, nmA_get hj]
  simp only [List.getElem_map]
  exact h1
theorem pr_sr : ∀ (n : Nat) (j : Js), ck n j = 0 → prN n (srN n j) = prN n j
  | 0, j, h => rfl
  | n + 1, .mk k i t ns is, h => by
    obtain ⟨hw, hnd, h45⟩ := ck_zero (n + 1) k i t ns is h
    show prF (prN n) (srF (srN n) (.mk k i t ns is)) = prF (prN n) (.mk k i t ns is)
    by_cases hk4 : k < 4
    · obtain ⟨e1, e2, _⟩ := wf_flat hw hk4
      rw [srF_eq, if_neg (by omega), e2]
      rfl
    · by_cases hk : k = 4 ∨ k = 5
      · obtain ⟨m, e, hit⟩ := h45 hk
        cases e
        rcases hk with rfl | rfl
        · rw [srF_eq, if_neg (by decide), pr4, pr4]
          have e2 : (is.map (srN n)).map (prN n) = is.map (prN n) := by
            rw [List.map_map]
            exact List.map_congr_left (fun y hy => pr_sr n y (hit y hy))
          rw [e2]
        · obtain ⟨rfl, rfl, hnl, hch⟩ := wf5 hw rfl
          rw [srF_eq, if_pos rfl, pr5, pr5]
          have e2 : (ordS ((ordS ns).map (nmA ns))).map (memP (prN n) ((ordS ns).map (nmA ns)) ((ordS ns).map fun i => srN n (is.getD i Js.nul))) = (ordS ns).map (memP (prN n) ns is) := by
            rw [ord_sorted hnd]
            have hr := ordS_ris ns
            have hlen := hr.len
            generalize ordS ns = o at hr hlen ⊢
            apply List.ext_getElem
            · simp [hlen]
            · intro q h1 h2
              simp only [List.length_map] at h2
              simp only [List.getElem_map, List.getElem_range]
              unfold memP
              have q1 : nmA (o.map (nmA ns)) q = nmA ns o[q] := by
                rw [nmA_get (by rw [List.length_map]; exact h2), List.getElem_map]
              have q2 : (o.map fun i => srN n (is.getD i Js.nul)).getD q Js.nul = srN n (is.getD o[q] Js.nul) := by
                rw [List.getD_eq_getElem?_getD, List.getElem?_map, List.getElem?_eq_getElem h2]
                rfl
              have hol := hr.lt o[q] (List.getElem_mem h2)
              rw [q1, q2, pr_sr n _ (hit _ (getD_mem (by omega)))]
          rw [e2]
      · obtain ⟨hkk, _⟩ := wf_kind hw
        omega
theorem ck_sr : ∀ (n : Nat) (j : Js), ck n j = 0 → Sz j → ck n (srN n j) = 0 ∧ Sz (srN n j)
  | 0, j, h, hz => ⟨h, hz⟩
  | n + 1, .mk k i t ns is, h, hz => by
    obtain ⟨hw, hnd, h45⟩ := ck_zero (n + 1) k i t ns is h
    have hz0 := hz
    simp only [Sz] at hz
    obtain ⟨hz1, hz2, hz3, hz4, hz5, hz6⟩ := hz
    show ck (n + 1) (srF (srN n) (.mk k i t ns is)) = 0 ∧ Sz (srF (srN n) (.mk k i t ns is))
    by_cases hk4 : k < 4
    · obtain ⟨e1, e2, _⟩ := wf_flat hw hk4
      subst e2
      rw [srF_eq, if_neg (by omega)]
      exact ⟨h, hz0⟩
    · by_cases hk : k = 4 ∨ k = 5
      · obtain ⟨m, e, hit⟩ := h45 hk
        cases e
        have hall : ∀ y ∈ is, ck n (srN n y) = 0 ∧ Sz (srN n y) := fun y hy => ck_sr n y (hit y hy) ((szs_iff is).1 hz6 y hy)
        rcases hk with rfl | rfl
        · obtain ⟨rfl, rfl, rfl⟩ := wf4 hw rfl
          rw [srF_eq, if_neg (by decide)]
          refine ⟨?_, ?_⟩
          · show ckF (some (ck n)) _ = 0
            rw [ckF_eq, if_neg (by simp), if_neg (by rw [wfB]; simp), if_neg (by simp)]
            refine fsE_zero.2 (fun y hy => ?_)
            obtain ⟨z, hz, rfl⟩ := List.mem_map.1 hy
            exact (hall z hz).1
          · simp only [Sz]
            refine ⟨hz1, hz2, by simp, by rw [List.length_map]; exact hz4, (fun s hs => by cases hs), (szs_iff _).2 (fun y hy => ?_)⟩
            obtain ⟨z, hz, rfl⟩ := List.mem_map.1 hy
            exact (hall z hz).2
        · obtain ⟨rfl, rfl, hnl, hch⟩ := wf5 hw rfl
          rw [srF_eq, if_pos rfl]
          have hr := ordS_ris ns
          have hp := ris_names hr
          have hlen := hr.len
          have hgo : ∀ q ∈ ordS ns, is.getD q Js.nul ∈ is := fun q hq => getD_mem (by have := hr.lt q hq; omega)
          refine ⟨?_, ?_⟩
          · show ckF (some (ck n)) _ = 0
            rw [ckF_eq, if_neg (by simp), if_neg, if_neg (by simpa using hp.nodup_iff.2 hnd)]
            · refine fsE_zero.2 (fun y hy => ?_)
              obtain ⟨z, hz, rfl⟩ := List.mem_map.1 hy
              exact (hall _ (hgo z hz)).1
            · rw [wfB]
              simp
              intro a ha
              have := hr.lt a ha
              rw [nmA_get this]
              exact hch _ (List.getElem_mem this)
          · simp only [Sz]
            refine ⟨hz1, hz2, by rw [List.length_map, hlen]; exact hz3, by rw [List.length_map, hlen]; omega, (fun s hs => ?_), (szs_iff _).2 (fun y hy => ?_)⟩
            · exact hz5 s (hp.mem_iff.1 hs)
            · obtain ⟨z, hz, rfl⟩ := List.mem_map.1 hy
              exact (hall _ (hgo z hz)).2
      · obtain ⟨hkk, _⟩ := wf_kind hw
        omega
theorem sr_sr (n : Nat) (j : Js) (h : ck n j = 0) (hz : Sz j) : srN n (srN n j) = srN n j := by
  obtain ⟨h1, h2⟩ := ck_sr n j h hz
  exact sr_of_pr n _ _ h1 h h2 hz (pr_sr n j h)
#print axioms sr_sr
end Go.Proofs.YtbnbngmnoffmkaaGreatDoor
end
section
set_option linter.unusedVariables false
namespace Go.Proofs.YtbnbngmnoffmkaaGreatDoor
open Go.RowKit

def eqA (A : Js → Js → Bool) : List Js → List Js → Bool
  | x :: r, y :: s => A x y && eqA A r s
  | _, _ => true
def smA (A : Js → Js → Bool) (ns ms : List (List UInt8)) (is js : List Js) : List Nat → List Nat → Bool
  | i :: o, j :: p => (decide (nmA ns i = nmA ms j) && A (is.getD i Js.nul) (js.getD j Js.nul)) && smA A ns ms is js o p
  | _, _ => true
def alF (A : Js → Js → Bool) : Js → Js → Bool
  | .mk k n t ns is, .mk k' n' t' ns' is' => (decide (k = k') && decide (n = n') && decide (t = t') && decide (is.length = is'.length)) && (if k = 5 then smA A ns ns' is is' (ordS ns) (ordS ns') else eqA A is is')
theorem alF_eq (A : Js → Js → Bool) (k n : Int) (t : List UInt8) (ns : List (List UInt8)) (is : List Js) (k' n' : Int) (t' : List UInt8) (ns' : List (List UInt8)) (is' : List Js) : alF A (.mk k n t ns is) (.mk k' n' t' ns' is') = ((decide (k = k') && decide (n = n') && decide (t = t') && decide (is.length = is'.length)) && (if k = 5 then smA A ns ns' is is' (ordS ns) (ordS ns') else eqA A is is')) := rfl
def alN : Nat → Js → Js → Bool
  | 0 => alF (fun _ _ => true)
  | n + 1 => alF (alN n)
theorem eqA_iff (A : Js → Js → Bool) (S : Js → Js) : ∀ (is js : List Js), is.length = js.length → (∀ x ∈ is, ∀ y ∈ js, A x y = true ↔ S x = S y) → (eqA A is js = true ↔ is.map S = js.map S)
  | [], [], _, _ => by simp [eqA]
  | [], y :: s, h, _ => by simp at h
  | x :: r, [], h, _ => by simp at h
  | x :: r, y :: s, h, hA => by
    have ih := eqA_iff A S r s (by simpa using h) (fun a ha b hb => hA a (List.mem_cons_of_mem _ ha) b (List.mem_cons_of_mem _ hb))
    simp only [eqA, Bool.and_eq_true, List.map_cons, List.cons.injEq]
    rw [ih, hA x List.mem_cons_self y List.mem_cons_self]
theorem smA_iff (A : Js → Js → Bool) (S : Js → Js) (ns ms : List (List UInt8)) (is js : List Js) : ∀ (o p : List Nat), o.length = p.length → (∀ i ∈ o, ∀ j ∈ p, A (is.getD i Js.nul) (js.getD j Js.nul) = true ↔ S (is.getD i Js.nul) = S (js.getD j Js.nul)) →
    (smA A ns ms is js o p = true ↔ o.map (nmA ns) = p.map (nmA ms) ∧ (o.map fun i => S (is.getD i Js.nul)) = p.map fun i => S (js.getD i Js.nul))
  | [], [], _, _ => by simp [smA]
  | [], y :: s, h, _ => by simp at h
  | x :: r, [], h, _ => by simp at h
  | x :: r, y :: s, h, hA => by
    have ih := smA_iff A S ns ms is js r s (by simpa using h) (fun a ha b hb => hA a (List.mem_cons_of_mem _ ha) b (List.mem_cons_of_mem _ hb))
    simp only [smA, Bool.and_eq_true, List.map_cons, List.cons.injEq, decide_eq_true_eq]
    rw [ih, hA x List.mem_cons_self y List.mem_cons_self]
    constructor
    · rintro ⟨⟨h1, h2⟩, h3, h4⟩; exact ⟨⟨h1, h3⟩, h2, h4⟩
    · rintro ⟨⟨h1, h3⟩, h2, h4⟩; exact ⟨⟨h1, h2⟩, h3, h4⟩
theorem ck_small {n : Nat} {k i : Int} {t : List UInt8} {ns : List (List UInt8)} {is : List Js} (h : ck n (.mk k i t ns is) = 0) (hk : k ≠ 5) : ns = [] := by
  obtain ⟨hw, _, _⟩ := ck_zero n k i t ns is h
  obtain ⟨hkk, _⟩ := wf_kind hw
  by_cases h4 : k = 4
  · exact (wf4 hw h4).2.2
  · exact (wf_flat hw (by omega)).1
/-- Two values are alike just if they are the same, their members by rising names. -/
theorem al_iff : ∀ (n : Nat) (a b : Js), ck n a = 0 → ck n b = 0 → (alN n a b = true ↔ srN n a = srN n b)
  | 0, .mk k i t ns is, .mk k' i' t' ns' is', ha, hb => by
    have fl : ∀ {k i : Int} {t : List UInt8} {ns : List (List UInt8)} {is : List Js}, ck 0 (.mk k i t ns is) = 0 → ns = [] ∧ is = [] ∧ k < 4 := by
      intro k i t ns is h
      obtain ⟨hw, _, h45⟩ := ck_zero 0 k i t ns is h
      obtain ⟨hkk, _⟩ := wf_kind hw
      have hk : k < 4 := by
        rcases hkk with h | h | h | h | h | h
        · omega
        · omega
        · omega
        · omega
        · obtain ⟨m, e, _⟩ := h45 (.inl h); cases e
        · obtain ⟨m, e, _⟩ := h45 (.inr h); cases e
      obtain ⟨h1, h2, _⟩ := wf_flat hw hk
      exact ⟨h1, h2, hk⟩
    obtain ⟨rfl, rfl, hk⟩ := fl ha
    obtain ⟨rfl, rfl, hk'⟩ := fl hb
    show alF _ _ _ = true ↔ _
    rw [alF_eq, if_neg (by omega)]
    simp [eqA, srN, and_assoc]
  | n + 1, .mk k i t ns is, .mk k' i' t' ns' is', ha, hb => by
    show alF (alN n) _ _ = true ↔ srF (srN n) _ = srF (srN n) _
    rw [alF_eq, srF_eq, srF_eq]
    by_cases hk : k = k'
    · subst hk
      by_cases h5 : k = 5
      · subst h5
        rw [if_pos rfl, if_pos rfl, if_pos rfl]
        obtain ⟨hw, hnd, h45⟩ := ck_zero (n + 1) _ i t ns is ha
        obtain ⟨hw', hnd', h45'⟩ := ck_zero (n + 1) _ i' t' ns' is' hb
        obtain ⟨rfl, rfl, hnl, hch⟩ := wf5 hw rfl
        obtain ⟨rfl, rfl, hnl', hch'⟩ := wf5 hw' rfl
        obtain ⟨m, e, hit⟩ := h45 (.inr rfl)
        cases e
        obtain ⟨m, e, hit'⟩ := h45' (.inr rfl)
        cases e
        have hr := ordS_ris ns
        have hr' := ordS_ris ns'
        simp only [decide_true, Bool.true_and, Bool.and_eq_true, decide_eq_true_eq, Js.mk.injEq, true_and]
        by_cases hl : is.length = is'.length
        · rw [smA_iff (alN n) (srN n) ns ns' is is' (ordS ns) (ordS ns') (by rw [hr.len, hr'.len]; omega) (fun p hp q hq => al_iff n _ _ (hit _ (getD_mem (by have := hr.lt p hp; omega))) (hit' _ (getD_mem (by have := hr'.lt q hq; omega))))]
          exact ⟨fun h => h.2, fun h => ⟨hl, h⟩⟩
        · constructor
          · exact fun h => absurd h.1 hl
          · intro h
            have e := congrArg List.length h.1
            rw [List.length_map, List.length_map, hr.len, hr'.len] at e
            omega
      · rw [if_neg h5, if_neg h5, if_neg h5]
        have e1 := ck_small ha h5
        have e2 := ck_small hb h5
        subst e1
        subst e2
        simp only [decide_true, Bool.true_and, Bool.and_eq_true, decide_eq_true_eq, Js.mk.injEq, true_and]
        by_cases hl : is.length = is'.length
        · have hrec : ∀ x ∈ is, ∀ y ∈ is', alN n x y = true ↔ srN n x = srN n y := by
            by_cases h4 : k = 4
            · obtain ⟨_, _, h45⟩ := ck_zero (n + 1) _ i t [] is ha
              obtain ⟨_, _, h45'⟩ := ck_zero (n + 1) _ i' t' [] is' hb
              obtain ⟨m, e, hit⟩ := h45 (.inl h4)
              cases e
              obtain ⟨m, e, hit'⟩ := h45' (.inl h4)
              cases e
              exact fun x hx y hy => al_iff n x y (hit x hx) (hit' y hy)
            · obtain ⟨hw, _, _⟩ := ck_zero (n + 1) _ i t [] is ha
              obtain ⟨hkk, _⟩ := wf_kind hw
              have hk4 : k < 4 := by
                rcases hkk with h | h | h | h | h | h
                · rw [h]; decide
                · rw [h]; decide
                · rw [h]; decide
                · rw [h]; decide
                · exact absurd h h4
                · exact absurd h h5
              obtain ⟨_, e, _⟩ := wf_flat hw hk4
              subst e
              intro x hx
              cases hx
          rw [eqA_iff (alN n) (srN n) is is' hl hrec]
          constructor
          · rintro ⟨⟨⟨h1, h2⟩, _⟩, h4⟩; exact ⟨h1, h2, h4⟩
          · rintro ⟨h1, h2, h4⟩; exact ⟨⟨⟨h1, h2⟩, hl⟩, h4⟩
        · constructor
          · exact fun h => absurd h.1.2 hl
          · intro h
            have e := congrArg List.length h.2.2
            rw [List.length_map, List.length_map] at e
            exact absurd e hl
    · rw [decide_eq_false hk]
      simp only [Bool.false_and, Bool.false_eq_true, false_iff]
      intro h
      split at h
      · split at h
        · omega
        · simp only [Js.mk.injEq] at h; exact hk h.1
      · split at h
        · simp only [Js.mk.injEq] at h; exact hk h.1
        · simp only [Js.mk.injEq] at h; exact hk h.1
/-- Same. -/
def saM (a b : Js) : Bool := decide (ck 16 a = 0) && (decide (ck 16 b = 0) && alN 16 a b)
#print axioms al_iff
end Go.Proofs.YtbnbngmnoffmkaaGreatDoor
end
section
set_option linter.unusedVariables false
set_option maxRecDepth 1000000
namespace Go.Proofs.YtbnbngmnoffmkaaGreatDoor
open Go.RowKit

def bl4 (i : Nat) : UInt8 := if i % 4 = 0 then 32 else if i % 4 = 1 then 9 else if i % 4 = 2 then 10 else 13
def pdL (k : Nat) : List UInt8 := (List.range k).map bl4
theorem pd_succ (k : Nat) : pdL (k + 1) = pdL k ++ [bl4 k] := by unfold pdL; rw [List.range_succ, List.map_append]; rfl
theorem pd_len (k : Nat) : (pdL k).length = k := by simp [pdL]
theorem pd_bk (k : Nat) : Bk (pdL k) := by
  intro c hc
  obtain ⟨i, _, rfl⟩ := List.mem_map.1 hc
  unfold bl4
  repeat' split
  all_goals decide
theorem op50 (o : Int) : ∃ r : Nat, r < 50 ∧ wrap64 ((IntKind.u64.wrap o).tmod 50) = (r : Int) := by
  have e : IntKind.u64.wrap o = o % 18446744073709551616 := by simp [IntKind.wrap, IntKind.bits, IntKind.signed]
  have h0 : 0 ≤ o % 18446744073709551616 := Int.emod_nonneg _ (by omega)
  have e2 : (o % 18446744073709551616).tmod 50 = o % 18446744073709551616 % 50 := Int.tmod_eq_emod_of_nonneg h0
  refine ⟨(o % 18446744073709551616 % 50).toNat, by omega, ?_⟩
  rw [e, e2, IntWalk.wrap64_in _ (by omega)]
  omega
theorem str_app4 (x y : List UInt8) : str x ++ str y = str (x ++ y) := by
  apply ByteArray.ext
  rw [ByteArray.data_append]
  simp [str]
theorem cut4 (w : World) (i : Nat) : (Instr.slice 9 (.string ⟨#[32, 9, 10, 13]⟩) (some (.int .i64 ((i % 4 : Nat) : Int))) (some (.int .i64 ((i % 4 : Nat) + 1 : Int))) none).run Tryz.prog w = .ok (.string (str [bl4 i])) w := by
  have h4 : i % 4 < 4 := Nat.mod_lt _ (by omega)
  rw [run_slice_string w 9 ⟨#[32, 9, 10, 13]⟩ .i64 .i64 ((i % 4 : Nat) : Int) ((i % 4 : Nat) + 1 : Int) Tryz.underlying9 (by omega) (by omega) (by show _ ≤ ((4 : Nat) : Int); omega)]
  have key : ∀ m : Nat, m < 4 → (⟨#[32, 9, 10, 13]⟩ : ByteArray).extract m (m + 1) = str [if m = 0 then 32 else if m = 1 then 9 else if m = 2 then 10 else 13] := by decide +kernel
  have e := key (i % 4) h4
  rw [show ((i % 4 : Nat) : Int).toNat = i % 4 by omega, show ((i % 4 : Nat) + 1 : Int).toNat = i % 4 + 1 by omega, e]
  rfl
theorem psM_at (s : List UInt8) : (psM s).2.1 ≤ s.length := by
  unfold psM
  split
  · exact Nat.zero_le _
  · split
    · exact Nat.sub_le _ _
    · split
      · exact Nat.zero_le _
      · exact Nat.sub_le _ _
/-- All that the world has. -/
def Al (w : World) : Nat → Prop := fun k => k < w.heap.size
theorem JV.al {w w' : World} {S : Nat → Prop} {v : Value} {j : Js} (h : JV w S v j) (hS : ∀ k, S k → k < w.heap.size) (hb : Below w.heap.size w w') : JV w' (Al w') v j :=
  JV.keep (fun k hk => ⟨Nat.lt_of_lt_of_le (hS k hk) hb.size, hb.block k (hS k hk)⟩) _ _ h
end Go.Proofs.YtbnbngmnoffmkaaGreatDoor
end
section
set_option linter.unusedVariables false
set_option maxRecDepth 1000000
namespace Go.Proofs.YtbnbngmnoffmkaaGreatDoor
open Go.RowKit Go.Extern.Stop Go.Stop Go.Extern

/-- Two values are held against each other. -/
def AlP (C : Js → Js → Bool) (x y : Js) : Prop := ∀ (S : Nat → Prop) (v v' : Value) (w : World), JV w S v x → JV w S v' y → (∀ k, S k → k < w.heap.size) → Calls Tryz.prog 32 #[v, v'] w fun e w' => e = .returned (.bool (C x y)) ∧ Hid (Below w.heap.size w w')
set_option maxHeartbeats 8000000 in
theorem eqf_any (C : Js → Js → Bool) (is js : List Js) (hlen : is.length = js.length) (a b : Option Addr) (c d : Nat) (S : Nat → Prop) (w : World) (hI : JVs w S a 0 is) (hJ : JVs w S b 0 js) (hS : ∀ k, S k → k < w.heap.size) (hm : is.length ≤ 100000) (hC : ∀ x ∈ is, ∀ y ∈ js, AlP C x y) :
    Calls Tryz.prog 64 #[.slice a is.length c, .slice b js.length d, .func (.func 32) #[] #[]] w fun e w' => e = .returned (.bool (eqA C is js)) ∧ Hid (Below w.heap.size w w') := by
  rw [← hlen]
  obtain ⟨m, hm'⟩ : ∃ m, m = is.length := ⟨_, rfl⟩
  obtain ⟨R, hR⟩ : ∃ R, R = eqA C is js := ⟨_, rfl⟩
  rw [← hm', ← hR]
  have HR : Hid (R = eqA C (is.drop 0) (js.drop 0)) := by show _ = _; rw [hR, List.drop_zero, List.drop_zero]
  have HM : Hid (is.length = m ∧ js.length = m) := ⟨hm'.symm, by omega⟩
  have HI := hide hI
  have HJ := hide hJ
  have HS := hide hS
  have HC := hide hC
  have hm9 : m ≤ 100000 := by omega
  clear hI hJ hS hC hlen hm' hR hm
  go_enter Tryz.func64, Tryz.ntmps64
  go_wp2_with fail
  go_loopw [17] (fun v wr => ∃ i : Nat, i ≤ m ∧ v = .int .i64 (i : Int) ∧ Hid (R = eqA C (is.drop i) (js.drop i)) ∧ Hid (Below w.heap.size w wr)) (fun v _ => m - (intOf v).toNat)
  case atStart => exact ⟨0, Nat.zero_le _, rfl, HR, hide (Below.refl _ _)⟩
  case round =>
    obtain ⟨i, hi, rfl, HQ, HB⟩ := hrel
    by_cases hlt : i < m
    · have hlt' : (i : Int) < (m : Int) := by omega
      obtain ⟨x, hx⟩ : ∃ x, is[i]? = some x := ⟨_, List.getElem?_eq_getElem (by rw [(unhide HM).1]; exact hlt)⟩
      obtain ⟨y, hy⟩ : ∃ y, js[i]? = some y := ⟨_, List.getElem?_eq_getElem (by rw [(unhide HM).2]; exact hlt)⟩
      have ex := ((jvs_iff w S a is 0).1 (unhide HI) i x hx).keep (S' := S) (w' := wr) (fun k hk => ⟨hk, (unhide HB).block k (unhide HS k hk)⟩)
      have ey := ((jvs_iff w S b js 0).1 (unhide HJ) i y hy).keep (S' := S) (w' := wr) (fun k hk => ⟨hk, (unhide HB).block k (unhide HS k hk)⟩)
      rw [Nat.zero_add] at ex ey
      obtain ⟨B, off, v0, v1, v2, v3, v4, rfl, hSb, g0, g1, g2, g3, g4, hj⟩ := ex
      obtain ⟨D, od, x0, x1, x2, x3, x4, rfl, hSd, f0, f1, f2, f3, f4, hj'⟩ := ey
      obtain ⟨jk, jn, jt, ja1, jn1, jc1, ja2, jn2, jc2, e⟩ := hj.form
      simp only [Value.agg.injEq, Array.mk.injEq, List.cons.injEq, and_true] at e
      obtain ⟨rfl, rfl, rfl, rfl, rfl⟩ := e
      obtain ⟨ik, inn, it, ia1, in1, ic1, ia2, in2, ic2, e⟩ := hj'.form
      simp only [Value.agg.injEq, Array.mk.injEq, List.cons.injEq, and_true] at e
      obtain ⟨rfl, rfl, rfl, rfl, rfl⟩ := e
      have HXM : Hid (x ∈ is ∧ y ∈ js) := ⟨List.mem_of_getElem? hx, List.mem_of_getElem? hy⟩
      have HQ2 : Hid (R = (C x y && eqA C (is.drop (i + 1)) (js.drop (i + 1)))) := by
        show _ = _
        have e1 : is.drop i = x :: is.drop (i + 1) := by
          have hl2 := (List.getElem?_eq_some_iff.1 hx).1
          rw [List.drop_eq_getElem_cons hl2]; congr 1; exact (List.getElem?_eq_some_iff.1 hx).2
        have e2 : js.drop i = y :: js.drop (i + 1) := by
          have hl2 := (List.getElem?_eq_some_iff.1 hy).1
          rw [List.drop_eq_getElem_cons hl2]; congr 1; exact (List.getElem?_eq_some_iff.1 hy).2
        rw [unhide HQ, e1, e2]
        rfl
      obtain ⟨U, hU⟩ : ∃ U, U = (wr.alloc (.cells #[.int .i64 jk, .int .i64 jn, .string (str jt), .slice ja1 jn1 jc1, .slice ja2 jn2 jc2] 25)).alloc (.cells #[.int .i64 ik, .int .i64 inn, .string (str it), .slice ia1 in1 ic1, .slice ia2 in2 ic2] 25) := ⟨_, rfl⟩
      obtain ⟨V, hV⟩ : ∃ V, V = wr.heap.size := ⟨_, rfl⟩
      obtain ⟨X, hX⟩ : ∃ X, X = wr.heap.size + 1 := ⟨_, rfl⟩
      have bU : Below wr.heap.size wr U := by rw [hU]; exact below2 wr _ _
      have hbU := (unhide HB).trans (bU.mono (unhide HB).size)
      have rV : U.heap[V]? = some (.cells #[.int .i64 jk, .int .i64 jn, .string (str jt), .slice ja1 jn1 jc1, .slice ja2 jn2 jc2] 25 (0, 0)) := by rw [hU, hV, heap_alloc_old _ _ (by simp)]; exact heap_alloc_new _ _
      have rX : U.heap[X]? = some (.cells #[.int .i64 ik, .int .i64 inn, .string (str it), .slice ia1 in1 ic1, .slice ia2 in2 ic2] 25 (0, 0)) := by rw [hU, hX]; exact heap_alloc2_new _ _ _
      have HA := hide (unhide HC x (unhide HXM).1 y (unhide HXM).2 S _ _ U (JV.keep (fun k hk => ⟨hk, bU.block k (Nat.lt_of_lt_of_le (unhide HS k hk) (unhide HB).size)⟩) _ _ hj) (JV.keep (fun k hk => ⟨hk, bU.block k (Nat.lt_of_lt_of_le (unhide HS k hk) (unhide HB).size)⟩) _ _ hj') (fun k hk => Nat.lt_of_lt_of_le (unhide HS k hk) hbU.size))
      have HBU := hide hbU
      generalize C x y = E at HA HQ2
      obtain ⟨p0, p1, p2, p3, p4⟩ := cells5 rV
      obtain ⟨q0, q1, q2, q3, q4⟩ := cells5 rX
      clear hx hy hSb hSd hj hj' bU hbU rV rX HQ
      obtain ⟨U1, hU1⟩ : ∃ U1, U1 = wr.alloc (.cells #[.int .i64 jk, .int .i64 jn, .string (str jt), .slice ja1 jn1 jc1, .slice ja2 jn2 jc2] 25) := ⟨_, rfl⟩
      have kk : ∀ (o : Nat) (z : Value), wr.cell? ⟨D, o, none⟩ = some z → U1.cell? ⟨D, o, none⟩ = some z := fun o z h => by
        rw [hU1]
        have hd := World.block_lt_of_cell? wr _ h
        rw [World.cell?_alloc_old]
        · exact h
        · exact Nat.ne_of_lt hd
      replace f0 := kk _ _ f0
      replace f1 := kk _ _ f1
      replace f2 := kk _ _ f2
      replace f3 := kk _ _ f3
      replace f4 := kk _ _ f4
      rw [← hU1] at hU
      have hX1 : X = U1.heap.size := by rw [hX, hU1]; simp
      clear kk hX
      go_upto_region 6 with fail
      rw [← hU1, ← hV]
      clear hU1 hV g0 g1 g2 g3 g4
      go_upto_region 7 with fail
      rw [← hU, ← hX1]
      clear hU hX1 f0 f1 f2 f3 f4
      go_wp2_with fail
      refine (unhide HA).mono ?_
      rintro e w5 ⟨rfl, h5⟩
      have HB5 : Hid (Below w.heap.size w w5) := (unhide HBU).trans ((unhide h5).mono (unhide HBU).size)
      clear HA h5 p0 p1 p2 p3 p4 q0 q1 q2 q3 q4
      cases E with
      | true =>
        have HQ3 : Hid (R = eqA C (is.drop (i + 1)) (js.drop (i + 1))) := by show _ = _; rw [unhide HQ2, Bool.true_and]
        go_wp2_with fail
        go_roundw
        case rel => exact ⟨i + 1, by omega, by go_num, HQ3, HB5⟩
        case measure => simp [intOf]; omega
      | false =>
        have HQ3 : Hid (R = false) := by show _ = _; rw [unhide HQ2, Bool.false_and]
        go_wp2_with fail
        go_ret
        rw [unhide HQ3]
        exact ⟨rfl, HB5⟩
    · have him : i = m := by omega
      subst him
      have hlt' : ¬ (i : Int) < (i : Int) := by omega
      have HQ3 : Hid (R = true) := by show _ = _; rw [unhide HQ, List.drop_eq_nil_of_le (by rw [(unhide HM).1]; omega)]; rfl
      go_wp2_with fail
      go_ret
      rw [unhide HQ3]
      exact ⟨rfl, HB⟩
#print axioms eqf_any
end Go.Proofs.YtbnbngmnoffmkaaGreatDoor
end
section
set_option linter.unusedVariables false
set_option maxRecDepth 1000000
namespace Go.Proofs.YtbnbngmnoffmkaaGreatDoor
open Go.RowKit Go.Extern.Stop Go.Stop Go.Extern

set_option maxHeartbeats 8000000 in
theorem sm_any (C : Js → Js → Bool) (k n : Int) (t : List UInt8) (ns : List (List UInt8)) (is : List Js) (k' n' : Int) (t' : List UInt8) (ms : List (List UInt8)) (js : List Js) (S : Nat → Prop) (v v' : Value) (w : World)
    (hJ : JV w S v (.mk k n t ns is)) (hJ' : JV w S v' (.mk k' n' t' ms js)) (hS : ∀ k, S k → k < w.heap.size) (hd : ns.Nodup) (hd' : ms.Nodup) (hl1 : ns.length = is.length) (hl2 : ms.length = is.length) (hl3 : js.length = is.length) (hm : is.length ≤ 100000) (hC : ∀ x ∈ is, ∀ y ∈ js, AlP C x y) :
    Calls Tryz.prog 63 #[v, v'] w fun e w' => e = .returned (.bool (smA C ns ms is js (ordS ns) (ordS ms))) ∧ Hid (Below w.heap.size w w') := by
  simp only [JV] at hJ hJ'
  obtain ⟨a1, c1, a2, c2, rfl, hN, hnc, hnm, _, hic, him, _, hIt⟩ := hJ
  obtain ⟨b1, d1, b2, d2, rfl, hN', hnc', _, _, hic', _, _, hIt'⟩ := hJ'
  obtain ⟨m, hm'⟩ : ∃ m, m = is.length := ⟨_, rfl⟩
  rw [hl1, hl2, hl3, ← hm']
  rw [hl1] at hnc
  rw [hl2] at hnc'
  rw [hl3] at hic'
  rw [← hm'] at hnc hnc' hic hic' hm
  obtain ⟨V, hV⟩ : ∃ V, V = w.heap.size := ⟨_, rfl⟩
  obtain ⟨X, hX⟩ : ∃ X, X = w.heap.size + 1 := ⟨_, rfl⟩
  obtain ⟨W, hW⟩ : ∃ W, W = (w.alloc (.cells #[.int .i64 k, .int .i64 n, .string (str t), .slice a1 m c1, .slice a2 m c2] 25)).alloc (.cells #[.int .i64 k', .int .i64 n', .string (str t'), .slice b1 m d1, .slice b2 m d2] 25) := ⟨_, rfl⟩
  have bW : Below w.heap.size w W := by rw [hW]; exact below2 w _ _
  have rV : W.heap[V]? = some (.cells #[.int .i64 k, .int .i64 n, .string (str t), .slice a1 m c1, .slice a2 m c2] 25 (0, 0)) := by rw [hW, hV, heap_alloc_old _ _ (by simp)]; exact heap_alloc_new _ _
  have rX : W.heap[X]? = some (.cells #[.int .i64 k', .int .i64 n', .string (str t'), .slice b1 m d1, .slice b2 m d2] 25 (0, 0)) := by rw [hW, hX]; exact heap_alloc2_new _ _ _
  have HKV : Hid (∀ u, Below W.heap.size W u → u.heap[V]? = some (.cells #[.int .i64 k, .int .i64 n, .string (str t), .slice a1 m c1, .slice a2 m c2] 25 (0, 0))) := fun u hb => (hb.block V (Array.getElem?_eq_some_iff.1 rV).1).trans rV
  have HKX : Hid (∀ u, Below W.heap.size W u → u.heap[X]? = some (.cells #[.int .i64 k', .int .i64 n', .string (str t'), .slice b1 m d1, .slice b2 m d2] 25 (0, 0))) := fun u hb => (hb.block X (Array.getElem?_eq_some_iff.1 rX).1).trans rX
  have HBw : Hid (∀ u, Below W.heap.size W u → Below w.heap.size w u) := fun u hb => bW.trans (hb.mono bW.size)
  have HSK : Hid (∀ u, Below W.heap.size W u → ∀ k, S k → S k ∧ u.heap[k]? = w.heap[k]?) := fun u hb k hk => ⟨hk, (unhide HBw u hb).block k (hS k hk)⟩
  have HRa : Hid (∀ u, Below W.heap.size W u → Calls Tryz.prog 85 #[.slice a1 m c1] u fun e w' => Below u.heap.size u w' ∧ ∃ ao o, e = .returned (.slice ao m m) ∧ RisO ns o ∧ OrR w' u.heap.size ao o) := fun u hb => by
    have hr := rising_any a1 c1 ns S u (hN.keep (unhide HSK u hb)) (by omega)
    have e : ns.length = m := by omega
    rw [e] at hr
    refine hr.mono ?_
    rintro _ w' ⟨h1, ao, o, rfl, h3, h4⟩
    rw [e]
    exact ⟨h1, ao, o, rfl, h3, h4⟩
  have HRb : Hid (∀ u, Below W.heap.size W u → Calls Tryz.prog 85 #[.slice b1 m d1] u fun e w' => Below u.heap.size u w' ∧ ∃ ao o, e = .returned (.slice ao m m) ∧ RisO ms o ∧ OrR w' u.heap.size ao o) := fun u hb => by
    have hr := rising_any b1 d1 ms S u (hN'.keep (unhide HSK u hb)) (by omega)
    have e : ms.length = m := by omega
    rw [e] at hr
    refine hr.mono ?_
    rintro _ w' ⟨h1, ao, o, rfl, h3, h4⟩
    rw [e]
    exact ⟨h1, ao, o, rfl, h3, h4⟩
  have HN := hide hN
  have HN' := hide hN'
  have HI := hide hIt
  have HI' := hide hIt'
  have HS := hide hS
  have HC := hide hC
  have HD := hide hd
  have HD' := hide hd'
  have HL : Hid (ns.length = m ∧ ms.length = m ∧ is.length = m ∧ js.length = m) := ⟨by omega, by omega, by omega, by omega⟩
  have HWW := hide bW
  obtain ⟨R, hR⟩ : ∃ R, R = smA C ns ms is js (ordS ns) (ordS ms) := ⟨_, rfl⟩
  rw [← hR]
  have HR := hide hR
  obtain ⟨p0, p1, p2, p3, p4⟩ := cells5 rV
  obtain ⟨q0, q1, q2, q3, q4⟩ := cells5 rX
  have HRa1 := hide (unhide HRa W.drew (Below.refl _ _).drew)
  have hmB : m ≤ 100000 := hm
  clear hN hN' hIt hIt' hS hC hd hd' hl1 hl2 hl3 hm' bW rV rX hR hnm him hm HRa
  go_enter Tryz.func63, Tryz.ntmps63
  go_upto_region 1 with fail
  rw [← hW, ← hX, ← hV]
  clear hW hV hX
  go_region_held3 (fun w' => w'.cell? ⟨V, 3, none⟩ = some (.slice a1 m c1) ∧ w'.cell? ⟨X, 3, none⟩ = some (.slice b1 m d1)) (first | exact ⟨p3, q3⟩ | exact S6 | exact S5 | assumption | go_keep) ((first | (go_at_call 85; have hh := HB5; clear hh; refine (unhide HRb w5 (unhide HB5)).mono ?_; rintro e w6 ⟨hb6, ao', o', rfl, hO6, hR6⟩; have HB6 : Hid (Below W.heap.size W w6) := (unhide HB5).trans (hb6.mono (unhide HB5).size); have S6 := (And.intro ((cells5 (unhide HKV w6 (unhide HB6))).2.2.2.1) ((cells5 (unhide HKX w6 (unhide HB6))).2.2.2.1))) | (go_at_call 85; refine (unhide HRa1).mono ?_; rintro e w5 ⟨hb5, ao, o, rfl, hO5, hR5⟩; have HB5 : Hid (Below W.heap.size W w5) := ((Below.refl _ _).drew : Below W.heap.size W W.drew).trans hb5; have S5 := (And.intro ((cells5 (unhide HKV w5 (unhide HB5))).2.2.2.1) ((cells5 (unhide HKX w5 (unhide HB5))).2.2.2.1)))))
  have eo : o = ordS ns := hO5.eq (unhide HD) (ordS_ris ns)
  have eo' : o' = ordS ms := hO6.eq (unhide HD') (ordS_ris ms)
  have HRR : Hid (R = smA C ns ms is js (o.drop 0) (o'.drop 0)) := by show _ = _; rw [unhide HR, List.drop_zero, List.drop_zero, eo, eo']
  have hol : o.length = m := by rw [hO5.len, (unhide HL).1]
  have hol' : o'.length = m := by rw [hO6.len, (unhide HL).2.1]
  have HLt : Hid (∀ i ∈ o, i < m) := fun i hi => by have := hO5.lt i hi; have := (unhide HL).1; omega
  have HLt' : Hid (∀ i ∈ o', i < m) := fun i hi => by have := hO6.lt i hi; have := (unhide HL).2.1; omega
  have HOR : Hid (∀ u, Below w6.heap.size w6 u → OrR u W.heap.size ao o ∧ OrR u W.heap.size ao' o') := fun u hb => by
    have e1 : W.drew.heap.size = W.heap.size := rfl
    have h1 := (hR5.below hb6).below hb
    have h2 := hR6.below hb
    have low : ∀ {lo lo' : Nat} {a : Option Addr} {l : List Nat}, OrR u lo a l → lo' ≤ lo → OrR u lo' a l := by
      intro lo lo' a l h hle hne
      obtain ⟨G, cur, g1, g2, g3, g4⟩ := h hne
      exact ⟨G, cur, g1, by omega, g3, g4⟩
    exact ⟨low h1 (by rw [e1]; exact Nat.le_refl _), low h2 (unhide HB5).size⟩
  have HO := hide hol
  have HO' := hide hol'
  clear hO5 hR5 hO6 hR6 eo eo' hol hol' hb5 hb6 HR p0 p1 p2 p3 p4 q0 q1 q2 q3 q4 HRa1 HRb S5 S6
  go_wp2_with fail
  go_loopw [18] (fun v wr => ∃ i : Nat, i ≤ m ∧ v = .int .i64 (i : Int) ∧ Hid (R = smA C ns ms is js (o.drop i) (o'.drop i)) ∧ Hid (Below w6.heap.size w6 wr)) (fun v _ => m - (intOf v).toNat)
  case atStart => exact ⟨0, Nat.zero_le _, rfl, HRR, hide (Below.refl _ _)⟩
  case round =>
    obtain ⟨i, hi, rfl, HQ, HB⟩ := hrel
    have HBW : Hid (Below W.heap.size W wr) := (unhide HB6).trans ((unhide HB).mono (unhide HB6).size)
    by_cases hlt : i < m
    · have hlt' : (i : Int) < (m : Int) := by omega
      obtain ⟨p, hp⟩ : ∃ p, o[i]? = some p := ⟨_, List.getElem?_eq_getElem (by rw [unhide HO]; exact hlt)⟩
      obtain ⟨q, hq⟩ : ∃ q, o'[i]? = some q := ⟨_, List.getElem?_eq_getElem (by rw [unhide HO']; exact hlt)⟩
      have hpm := unhide HLt p (List.mem_of_getElem? hp)
      have hqm := unhide HLt' q (List.mem_of_getElem? hq)
      have hpi : (p : Int) < (m : Int) := by omega
      have hqi : (q : Int) < (m : Int) := by omega
      have hone : o ≠ [] := fun e => by rw [e] at hp; simp at hp
      have hone' : o' ≠ [] := fun e => by rw [e] at hq; simp at hq
      obtain ⟨G, cur, rfl, hGl, hGr, hGc⟩ := (unhide HOR wr (unhide HB)).1 hone
      obtain ⟨G', cur', rfl, hGl', hGr', hGc'⟩ := (unhide HOR wr (unhide HB)).2 hone'
      have g1 := hGc i p hp
      have g2 := hGc' i q hq
      have HQ2 : Hid (R = ((decide (nmA ns p = nmA ms q) && C (is.getD p Js.nul) (js.getD q Js.nul)) && smA C ns ms is js (o.drop (i + 1)) (o'.drop (i + 1)))) := by
        show _ = _
        have e1 : o.drop i = p :: o.drop (i + 1) := by
          have hl2 := (List.getElem?_eq_some_iff.1 hp).1
          rw [List.drop_eq_getElem_cons hl2]; congr 1; exact (List.getElem?_eq_some_iff.1 hp).2
        have e2 : o'.drop i = q :: o'.drop (i + 1) := by
          have hl2 := (List.getElem?_eq_some_iff.1 hq).1
          rw [List.drop_eq_getElem_cons hl2]; congr 1; exact (List.getElem?_eq_some_iff.1 hq).2
        rw [unhide HQ, e1, e2]
        rfl
      clear hp hq hone hone' hGr hGr' hGc hGc' HQ hGl hGl'
      go_wp2_with fail
      go_quiet (fail)
      go_upto_region 6 with fail
      have HBy : Hid (Below w6.heap.size w6 (wr.drewN nq)) := bdr4 (unhide HB) nq
      generalize hy : wr.drewN nq = y at HBy ⊢
      have HByW : Hid (Below W.heap.size W y) := (unhide HB6).trans ((unhide HBy).mono (unhide HB6).size)
      have HFy := hide (unhide HBw y (unhide HByW))
      clear hy HB HBW g1 g2
      obtain ⟨p0, p1, p2, p3, p4⟩ := cells5 (unhide HKV y (unhide HByW))
      obtain ⟨q0, q1, q2, q3, q4⟩ := cells5 (unhide HKX y (unhide HByW))
      have hpn : p < ns.length := by rw [(unhide HL).1]; exact hpm
      have hqn : q < ms.length := by rw [(unhide HL).2.1]; exact hqm
      obtain ⟨B, ob, rfl, hSB, hBc⟩ := ((unhide HN).keep (unhide HSK y (unhide HByW))) (by intro e; rw [e] at hpn; simp at hpn)
      obtain ⟨D, od, rfl, hSD, hDc⟩ := ((unhide HN').keep (unhide HSK y (unhide HByW))) (by intro e; rw [e] at hqn; simp at hqn)
      have z1 := hBc p (nmA ns p) (by rw [nmA_get hpn, List.getElem?_eq_getElem])
      have z2 := hDc q (nmA ms q) (by rw [nmA_get hqn, List.getElem?_eq_getElem])
      by_cases hnm : nmA ns p = nmA ms q
      · rw [hnm] at HQ2 z1
        rw [decide_eq_true rfl, Bool.true_and] at HQ2
        generalize nmA ms q = nm at z1 z2
        have e1 : ((str nm).toList != (str nm).toList) = false := by simp
        have hpi2 : p < is.length := by rw [(unhide HL).2.2.1]; exact hpm
        have hqi2 : q < js.length := by rw [(unhide HL).2.2.2]; exact hqm
        have ex := ((jvs_iff w S a2 is 0).1 (unhide HI) p _ (List.getElem?_eq_getElem hpi2)).keep (S' := S) (w' := y) (unhide HSK y (unhide HByW))
        have ey := ((jvs_iff w S b2 js 0).1 (unhide HI') q _ (List.getElem?_eq_getElem hqi2)).keep (S' := S) (w' := y) (unhide HSK y (unhide HByW))
        have gp : is.getD p Js.nul = is[p] := by rw [List.getD_eq_getElem?_getD, List.getElem?_eq_getElem hpi2]; rfl
        have gq : js.getD q Js.nul = js[q] := by rw [List.getD_eq_getElem?_getD, List.getElem?_eq_getElem hqi2]; rfl
        rw [gp, gq] at HQ2
        rw [Nat.zero_add] at ex ey
        have hmx := List.getElem_mem hpi2
        have hmy := List.getElem_mem hqi2
        generalize is[p] = jx at ex HQ2 hmx
        generalize js[q] = jy at ey HQ2 hmy
        obtain ⟨E1, off, v0, v1, v2, v3, v4, rfl, hSb, g0, g1, g2, g3, g4, hj⟩ := ex
        obtain ⟨E2, oe, x0, x1, x2, x3, x4, rfl, hSd, f0, f1, f2, f3, f4, hj'⟩ := ey
        obtain ⟨jk, jn, jt, ja1, jn1, jc1, ja2, jn2, jc2, e⟩ := hj.form
        simp only [Value.agg.injEq, Array.mk.injEq, List.cons.injEq, and_true] at e
        obtain ⟨rfl, rfl, rfl, rfl, rfl⟩ := e
        obtain ⟨ik, inn, it, ia1, in1, ic1, ia2, in2, ic2, e⟩ := hj'.form
        simp only [Value.agg.injEq, Array.mk.injEq, List.cons.injEq, and_true] at e
        obtain ⟨rfl, rfl, rfl, rfl, rfl⟩ := e
        have HA := hide (unhide HC jx hmx jy hmy S _ _ y.drew (JV.keep (w := y) (w' := y.drew) (fun k hk => ⟨hk, rfl⟩) _ _ hj) (JV.keep (w := y) (w' := y.drew) (fun k hk => ⟨hk, rfl⟩) _ _ hj') (fun k hk => Nat.lt_of_lt_of_le (unhide HS k hk) (unhide HFy).size))
        generalize C jx jy = E at HA HQ2
        clear hj hj' hSb hSd p0 p1 p2 q0 q1 q2 hBc hDc hSB hSD hmx hmy gp gq hpi2 hqi2 hpn hqn hnm hpm hqm
        go_region_held3 (fun w' => w'.cell? ⟨V, 3, none⟩ = some (.slice (some ⟨B, ob, none⟩) m c1) ∧ w'.cell? ⟨V, 4, none⟩ = some (.slice (some ⟨E1, off, none⟩) m c2) ∧ w'.cell? ⟨X, 3, none⟩ = some (.slice (some ⟨D, od, none⟩) m d1) ∧ w'.cell? ⟨X, 4, none⟩ = some (.slice (some ⟨E2, oe, none⟩) m d2) ∧ w'.cell? ⟨B, ob + p, none⟩ = some (.string (str nm)) ∧ w'.cell? ⟨D, od + q, none⟩ = some (.string (str nm)) ∧ w'.cell? ⟨E1, off + p * 5, none⟩ = some (.int .i64 jk) ∧ w'.cell? ⟨E1, off + p * 5 + 1, none⟩ = some (.int .i64 jn) ∧ w'.cell? ⟨E1, off + p * 5 + 2, none⟩ = some (.string (str jt)) ∧ w'.cell? ⟨E1, off + p * 5 + 3, none⟩ = some (.slice ja1 jn1 jc1) ∧ w'.cell? ⟨E1, off + p * 5 + 4, none⟩ = some (.slice ja2 jn2 jc2) ∧ w'.cell? ⟨E2, oe + q * 5, none⟩ = some (.int .i64 ik) ∧ w'.cell? ⟨E2, oe + q * 5 + 1, none⟩ = some (.int .i64 inn) ∧ w'.cell? ⟨E2, oe + q * 5 + 2, none⟩ = some (.string (str it)) ∧ w'.cell? ⟨E2, oe + q * 5 + 3, none⟩ = some (.slice ia1 in1 ic1) ∧ w'.cell? ⟨E2, oe + q * 5 + 4, none⟩ = some (.slice ia2 in2 ic2)) (first | exact ⟨p3, p4, q3, q4, z1, z2, g0, g1, g2, g3, g4, f0, f1, f2, f3, f4⟩ | exact S5 | assumption | go_keep) ((first | (go_at_call 32; refine (unhide HA).mono ?_; rintro e w5 ⟨rfl, h5⟩; have kk : ∀ (a : Addr) (v : Value), y.cell? a = some v → w5.cell? a = some v := (fun a v h => ((unhide h5).cell (World.block_lt_of_cell? y a h)).trans h); have S5 := (And.intro (kk _ _ p3) (And.intro (kk _ _ p4) (And.intro (kk _ _ q3) (And.intro (kk _ _ q4) (And.intro (kk _ _ z1) (And.intro (kk _ _ z2) (And.intro (kk _ _ g0) (And.intro (kk _ _ g1) (And.intro (kk _ _ g2) (And.intro (kk _ _ g3) (And.intro (kk _ _ g4) (And.intro (kk _ _ f0) (And.intro (kk _ _ f1) (And.intro (kk _ _ f2) (And.intro (kk _ _ f3) (kk _ _ f4)))))))))))))))); clear kk)))
        all_goals
          have HB5' : Hid (Below w6.heap.size w6 w5) := (unhide HBy).trans (((Below.refl _ _).drew).trans ((unhide h5).mono (unhide HBy).size) : Below _ _ _)
          have HFw5 := hide (unhide HBw w5 ((unhide HB6).trans ((unhide HB5').mono (unhide HB6).size)))
          clear HA h5 p3 p4 q3 q4 z1 z2 g0 g1 g2 g3 g4 f0 f1 f2 f3 f4 S5
          cases E with
          | true =>
            have HQ3 : Hid (R = smA C ns ms is js (o.drop (i + 1)) (o'.drop (i + 1))) := by show _ = _; rw [unhide HQ2, Bool.true_and]
            go_wp2_with fail
            go_roundw
            case rel => exact ⟨i + 1, by omega, by go_num, HQ3, HB5'⟩
            case measure => simp [intOf]; omega
          | false =>
            have HQ3 : Hid (R = false) := by show _ = _; rw [unhide HQ2, Bool.false_and]
            go_wp2_with fail
            go_ret
            rw [unhide HQ3]
            exact ⟨rfl, HFw5⟩
      · rw [decide_eq_false hnm] at HQ2
        have HQ3 : Hid (R = false) := by show _ = _; rw [unhide HQ2, Bool.false_and, Bool.false_and]
        generalize nmA ns p = nm at z1 hnm
        generalize nmA ms q = nm' at z2 hnm
        have e1 : ((str nm).toList != (str nm').toList) = true := by rw [toList_str, toList_str]; simpa using hnm
        have e2 : ((str nm).toList == (str nm').toList) = false := by rw [toList_str, toList_str]; simpa using hnm
        have HFd : ∀ n, Hid (Below w.heap.size w (y.drewN n)) := fun n => hide (bdr4 (unhide HFy) n)
        clear p0 p1 p2 p4 q0 q1 q2 q4 hBc hDc hSB hSD hpn hqn hnm hpm hqm HQ2
        go_quiet (fail)
        go_wp2_with fail
        go_ret
        rw [unhide HQ3]
        exact ⟨rfl, HFd _⟩
    · have him : i = m := by omega
      subst him
      have hlt' : ¬ (i : Int) < (i : Int) := by omega
      have HQ3 : Hid (R = true) := by show _ = _; rw [unhide HQ, List.drop_eq_nil_of_le (by rw [unhide HO]; omega)]; rfl
      have HF := hide (unhide HBw wr (unhide HBW))
      go_wp2_with fail
      go_ret
      rw [unhide HQ3]
      exact ⟨rfl, HF⟩
#print axioms sm_any
end Go.Proofs.YtbnbngmnoffmkaaGreatDoor
end
section
set_option linter.unusedVariables false
set_option maxRecDepth 1000000
namespace Go.Proofs.YtbnbngmnoffmkaaGreatDoor
open Go.RowKit

theorem al_off {A : Js → Js → Bool} {k n : Int} {t : List UInt8} {ns : List (List UInt8)} {is : List Js} {k' n' : Int} {t' : List UInt8} {ns' : List (List UInt8)} {is' : List Js} (h : ¬ (k = k' ∧ n = n' ∧ t = t' ∧ is.length = is'.length)) : alF A (.mk k n t ns is) (.mk k' n' t' ns' is') = false := by
  rw [alF_eq]
  have e : (decide (k = k') && decide (n = n') && decide (t = t') && decide (is.length = is'.length)) = false := by
    rw [Bool.eq_false_iff]
    intro h2
    simp only [Bool.and_eq_true, decide_eq_true_eq] at h2
    exact h ⟨h2.1.1.1, h2.1.1.2, h2.1.2, h2.2⟩
  rw [e, Bool.false_and]
theorem al_on {A : Js → Js → Bool} {k n : Int} {t : List UInt8} {ns : List (List UInt8)} {is : List Js} {ns' : List (List UInt8)} {is' : List Js} (h : is.length = is'.length) : alF A (.mk k n t ns is) (.mk k n t ns' is') = if k = 5 then smA A ns ns' is is' (ordS ns) (ordS ns') else eqA A is is' := by
  rw [alF_eq, decide_eq_true rfl, decide_eq_true rfl, decide_eq_true rfl, decide_eq_true h]
  rfl
set_option maxHeartbeats 8000000 in
theorem al_core (A : Js → Js → Bool) (k n : Int) (t : List UInt8) (ns : List (List UInt8)) (is : List Js) (k' n' : Int) (t' : List UInt8) (ns' : List (List UInt8)) (is' : List Js)
    (h5 : k = 5 → ns.Nodup ∧ ns.length = is.length) (h5' : k' = 5 → ns'.Nodup ∧ ns'.length = is'.length) (hm : is.length ≤ 100000) (hm' : is'.length ≤ 100000) (hC : ∀ x ∈ is, ∀ y ∈ is', AlP A x y) : AlP (alF A) (.mk k n t ns is) (.mk k' n' t' ns' is') := by
  intro S v v' w hJ hJ' hS
  have HJ0 := hide hJ
  have HJ0' := hide hJ'
  simp only [JV] at hJ hJ'
  obtain ⟨a1, c1, a2, c2, rfl, hN, hnc, hnm, _, hic, him, _, hIt⟩ := hJ
  obtain ⟨b1, d1, b2, d2, rfl, hN', hnc', hnm', _, hic', him', _, hIt'⟩ := hJ'
  obtain ⟨m, hmm⟩ : ∃ m, m = is.length := ⟨_, rfl⟩
  obtain ⟨m', hmm'⟩ : ∃ m', m' = is'.length := ⟨_, rfl⟩
  obtain ⟨g, hg⟩ : ∃ g, g = ns.length := ⟨_, rfl⟩
  obtain ⟨g', hg'⟩ : ∃ g', g' = ns'.length := ⟨_, rfl⟩
  have HLL : Hid (is.length = m ∧ is'.length = m' ∧ ns.length = g ∧ ns'.length = g') := ⟨hmm.symm, hmm'.symm, hg.symm, hg'.symm⟩
  rw [← hmm] at hic hm
  rw [← hmm'] at hic' hm'
  rw [← hmm, ← hmm', ← hg, ← hg']
  clear hmm hmm' hg hg'
  obtain ⟨V, hV⟩ : ∃ V, V = w.heap.size := ⟨_, rfl⟩
  obtain ⟨X, hX⟩ : ∃ X, X = w.heap.size + 1 := ⟨_, rfl⟩
  obtain ⟨W, hW⟩ : ∃ W, W = (w.alloc (.cells #[.int .i64 k, .int .i64 n, .string (str t), .slice a1 g c1, .slice a2 m c2] 25)).alloc (.cells #[.int .i64 k', .int .i64 n', .string (str t'), .slice b1 g' d1, .slice b2 m' d2] 25) := ⟨_, rfl⟩
  have bW : Below w.heap.size w W := by rw [hW]; exact below2 w _ _
  have rV : W.heap[V]? = some (.cells #[.int .i64 k, .int .i64 n, .string (str t), .slice a1 g c1, .slice a2 m c2] 25 (0, 0)) := by rw [hW, hV, heap_alloc_old _ _ (by simp)]; exact heap_alloc_new _ _
  have rX : W.heap[X]? = some (.cells #[.int .i64 k', .int .i64 n', .string (str t'), .slice b1 g' d1, .slice b2 m' d2] 25 (0, 0)) := by rw [hW, hX]; exact heap_alloc2_new _ _ _
  obtain ⟨p0, p1, p2, p3, p4⟩ := cells5 rV
  obtain ⟨q0, q1, q2, q3, q4⟩ := cells5 rX
  have HW := hide bW
  have HI := hide hIt
  have HI' := hide hIt'
  have HS := hide hS
  have HC := hide hC
  have H5 := hide h5
  have H5' := hide h5'
  have HSW : Hid (∀ k, S k → S k ∧ W.heap[k]? = w.heap[k]?) := fun k hk => ⟨hk, bW.block k (hS k hk)⟩
  clear hN hN' hIt hIt' hS hC h5 h5' rV rX bW hnc hnc' hnm hnm' him him'
  have HF : Hid (∀ u : World, Hid (Below W.heap.size W u) → Hid (Below w.heap.size w u)) := fun u h => (unhide HW).trans ((unhide h).mono (unhide HW).size)
  by_cases hall : k = k' ∧ n = n' ∧ t = t' ∧ m = m'
  · obtain ⟨rfl, rfl, rfl, rfl⟩ := hall
    have e1 : ((str t).toList != (str t).toList) = false := by simp
    have hl : is.length = is'.length := (unhide HLL).1.trans (unhide HLL).2.1.symm
    by_cases hk : k = 5
    · subst hk
      obtain ⟨g1, g2⟩ := unhide H5 rfl
      obtain ⟨g3, g4⟩ := unhide H5' rfl
      have HM := hide (sm_any A 5 n t ns is 5 n t ns' is' S _ _ W (JV.keep (unhide HSW) _ _ (unhide HJ0)) (JV.keep (unhide HSW) _ _ (unhide HJ0')) (fun k hk => Nat.lt_of_lt_of_le (unhide HS k hk) (unhide HW).size) g1 g3 g2 (by omega) hl.symm (by rw [(unhide HLL).1]; exact hm) (unhide HC))
      rw [(unhide HLL).1, (unhide HLL).2.1, (unhide HLL).2.2.1, (unhide HLL).2.2.2] at HM
      have hR : alF A (.mk 5 n t ns is) (.mk 5 n t ns' is') = smA A ns ns' is is' (ordS ns) (ordS ns') := by rw [al_on hl, if_pos rfl]
      rw [hR]
      generalize smA A ns ns' is is' (ordS ns) (ordS ns') = R at HM ⊢
      clear g1 g2 g3 g4 HJ0 HJ0' HI HI' HC H5 H5' HSW hl hR HLL
      go_enter Tryz.func32, Tryz.ntmps32
      go_upto_region 1 with fail
      rw [← hW, ← hX, ← hV]
      clear hW hV hX
      go_wp2_with fail
      refine (unhide HM).mono ?_
      rintro e w1 ⟨rfl, h1⟩
      have HF1 := unhide HF w1 h1
      clear HM h1 p0 p1 p2 p3 p4 q0 q1 q2 q3 q4
      go_wp2_with fail
      go_ret
      exact ⟨rfl, HF1⟩
    · have HM := hide (eqf_any A is is' hl a2 b2 c2 d2 S W (JVs.keep (unhide HSW) _ _ _ (unhide HI)) (JVs.keep (unhide HSW) _ _ _ (unhide HI')) (fun k hk => Nat.lt_of_lt_of_le (unhide HS k hk) (unhide HW).size) (by rw [(unhide HLL).1]; exact hm) (unhide HC))
      rw [(unhide HLL).1, (unhide HLL).2.1] at HM
      have hR : alF A (.mk k n t ns is) (.mk k n t ns' is') = eqA A is is' := by rw [al_on hl, if_neg hk]
      rw [hR]
      generalize eqA A is is' = R at HM ⊢
      have hkb : (k == 5) = false := by simpa using hk
      clear HJ0 HJ0' HI HI' HC H5 H5' HSW hl hR HLL
      go_enter Tryz.func32, Tryz.ntmps32
      go_upto_region 1 with fail
      rw [← hW, ← hX, ← hV]
      clear hW hV hX
      go_wp2_with fail
      refine (unhide HM).mono ?_
      rintro e w1 ⟨rfl, h1⟩
      have HF1 := unhide HF w1 h1
      clear HM h1 p0 p1 p2 p3 p4 q0 q1 q2 q3 q4
      go_wp2_with fail
      go_ret
      exact ⟨rfl, HF1⟩
  · have hR : alF A (.mk k n t ns is) (.mk k' n' t' ns' is') = false := al_off (fun h => hall ⟨h.1, h.2.1, h.2.2.1, by rw [← (unhide HLL).1, ← (unhide HLL).2.1]; exact h.2.2.2⟩)
    rw [hR]
    have HF1 := unhide HF W (hide (Below.refl _ _))
    clear HJ0 HJ0' HI HI' HC H5 H5' HSW hR HLL HF
    go_enter Tryz.func32, Tryz.ntmps32
    go_upto_region 1 with fail
    rw [← hW, ← hX, ← hV]
    clear hW hV hX
    by_cases h1 : k = k'
    · subst h1
      by_cases h2 : n = n'
      · subst h2
        by_cases h3 : t = t'
        · subst h3
          have h4 : ¬ m = m' := fun e => hall ⟨rfl, rfl, rfl, e⟩
          have e1 : ((str t).toList != (str t).toList) = false := by simp
          have e4 : ((m : Int) != (m' : Int)) = true := by simp; omega
          have e5 : ((m : Int) == (m' : Int)) = false := by simp; omega
          have e6 : ¬ (m : Int) = (m' : Int) := by omega
          clear hall h4
          go_wp2_with fail
          go_ret
          exact ⟨rfl, HF1⟩
        · have e1 : ((str t).toList != (str t').toList) = true := by rw [toList_str, toList_str]; simpa using h3
          have e2 : ((str t).toList == (str t').toList) = false := by rw [toList_str, toList_str]; simpa using h3
          clear hall h3
          go_wp2_with fail
          go_ret
          exact ⟨rfl, HF1⟩
      · have e1 : (n != n') = true := by simpa using h2
        have e2 : (n == n') = false := by simpa using h2
        clear hall
        go_wp2_with fail
        go_ret
        exact ⟨rfl, HF1⟩
    · have e1 : (k != k') = true := by simpa using h1
      have e2 : (k == k') = false := by simpa using h1
      clear hall
      go_wp2_with fail
      go_ret
      exact ⟨rfl, HF1⟩
#print axioms al_core
theorem ck_five {n : Nat} {k i : Int} {t : List UInt8} {ns : List (List UInt8)} {is : List Js} (h : ck n (.mk k i t ns is) = 0) (hk : k = 5) : ns.Nodup ∧ ns.length = is.length := by
  obtain ⟨hw, hnd, _⟩ := ck_zero n k i t ns is h
  exact ⟨hnd, (wf5 hw hk).2.2.1⟩
theorem ck_items {n : Nat} {k i : Int} {t : List UInt8} {ns : List (List UInt8)} {is : List Js} (h : ck n (.mk k i t ns is) = 0) : is = [] ∨ ∃ m, n = m + 1 ∧ ∀ x ∈ is, ck m x = 0 := by
  obtain ⟨hw, _, h45⟩ := ck_zero n k i t ns is h
  obtain ⟨hkk, _⟩ := wf_kind hw
  rcases hkk with h | h | h | h | h | h
  · left; exact (wf_flat hw (by rw [h]; decide)).2.1
  · left; exact (wf_flat hw (by rw [h]; decide)).2.1
  · left; exact (wf_flat hw (by rw [h]; decide)).2.1
  · left; exact (wf_flat hw (by rw [h]; decide)).2.1
  · right; exact h45 (.inl h)
  · right; exact h45 (.inr h)
/-- alike, of two values that can be. -/
theorem al_any : ∀ (n : Nat) (a b : Js), ck n a = 0 → ck n b = 0 → Sz a → Sz b → AlP (alN n) a b
  | 0, .mk k i t ns is, .mk k' i' t' ns' is', ha, hb, za, zb => by
    simp only [Sz] at za zb
    have e1 : is = [] := (ck_items ha).elim id (fun ⟨m, e, _⟩ => by cases e)
    refine al_core _ k i t ns is k' i' t' ns' is' (ck_five ha) (ck_five hb) za.2.2.2.1 zb.2.2.2.1 (fun x hx => ?_)
    rw [e1] at hx
    cases hx
  | n + 1, .mk k i t ns is, .mk k' i' t' ns' is', ha, hb, za, zb => by
    simp only [Sz] at za zb
    refine al_core _ k i t ns is k' i' t' ns' is' (ck_five ha) (ck_five hb) za.2.2.2.1 zb.2.2.2.1 (fun x hx y hy => ?_)
    have h1 : ck n x = 0 := by
      rcases ck_items ha with e | ⟨m, e, h⟩
      · rw [e] at hx; cases hx
      · cases e; exact h x hx
    have h2 : ck n y = 0 := by
      rcases ck_items hb with e | ⟨m, e, h⟩
      · rw [e] at hy; cases hy
      · cases e; exact h y hy
    exact al_any n x y h1 h2 ((szs_iff is).1 za.2.2.2.2.2 x hx) ((szs_iff is').1 zb.2.2.2.2.2 y hy)
set_option maxHeartbeats 8000000 in
theorem same_any (a b : Js) (S : Nat → Prop) (v v' : Value) (w : World) (hT : Tb4 w) (hJ : JV w S v a) (hJ' : JV w S v' b) (hS : ∀ k, S k → k < w.heap.size) (za : Sz a) (zb : Sz b) :
    Calls Tryz.prog 18 #[v, v'] w fun e w' => e = .returned (.bool (saM a b)) ∧ Hid (Below w.heap.size w w') := by
  obtain ⟨k, n, t, a1, n1, c1, a2, n2, c2, rfl⟩ := hJ.form
  obtain ⟨k', n', t', b1, m1, d1, b2, m2, d2, rfl⟩ := hJ'.form
  obtain ⟨V, hV⟩ : ∃ V, V = w.heap.size := ⟨_, rfl⟩
  obtain ⟨X, hX⟩ : ∃ X, X = w.heap.size + 1 := ⟨_, rfl⟩
  obtain ⟨W, hW⟩ : ∃ W, W = (w.alloc (.cells #[.int .i64 k, .int .i64 n, .string (str t), .slice a1 n1 c1, .slice a2 n2 c2] 25)).alloc (.cells #[.int .i64 k', .int .i64 n', .string (str t'), .slice b1 m1 d1, .slice b2 m2 d2] 25) := ⟨_, rfl⟩
  have bW : Below w.heap.size w W := by rw [hW]; exact below2 w _ _
  have rV : W.heap[V]? = some (.cells #[.int .i64 k, .int .i64 n, .string (str t), .slice a1 n1 c1, .slice a2 n2 c2] 25 (0, 0)) := by rw [hW, hV, heap_alloc_old _ _ (by simp)]; exact heap_alloc_new _ _
  have rX : W.heap[X]? = some (.cells #[.int .i64 k', .int .i64 n', .string (str t'), .slice b1 m1 d1, .slice b2 m2 d2] 25 (0, 0)) := by rw [hW, hX]; exact heap_alloc2_new _ _ _
  have HKV : Hid (∀ u, Below W.heap.size W u → u.heap[V]? = some (.cells #[.int .i64 k, .int .i64 n, .string (str t), .slice a1 n1 c1, .slice a2 n2 c2] 25 (0, 0))) := fun u hb => (hb.block V (Array.getElem?_eq_some_iff.1 rV).1).trans rV
  have HKX : Hid (∀ u, Below W.heap.size W u → u.heap[X]? = some (.cells #[.int .i64 k', .int .i64 n', .string (str t'), .slice b1 m1 d1, .slice b2 m2 d2] 25 (0, 0))) := fun u hb => (hb.block X (Array.getElem?_eq_some_iff.1 rX).1).trans rX
  have HF : Hid (∀ u, Below W.heap.size W u → Below w.heap.size w u) := fun u hb => bW.trans (hb.mono bW.size)
  have HA : Hid (∀ u, Below W.heap.size W u → JV u S _ a ∧ JV u S _ b ∧ (∀ k, S k → k < u.heap.size) ∧ Tb4 u) := fun u hb => ⟨JV.keep (fun k hk => ⟨hk, (unhide HF u hb).block k (hS k hk)⟩) _ _ hJ, JV.keep (fun k hk => ⟨hk, (unhide HF u hb).block k (hS k hk)⟩) _ _ hJ', fun k hk => Nat.lt_of_lt_of_le (hS k hk) (unhide HF u hb).size, hT.below (unhide HF u hb)⟩
  have HCa := hide (checkJ_any a S _ W (unhide HA W (Below.refl _ _)).2.2.2 (unhide HA W (Below.refl _ _)).1 (unhide HA W (Below.refl _ _)).2.2.1 za)
  have HCb : Hid (∀ u, Below W.heap.size W u → Calls Tryz.prog 14 #[.agg #[.int .i64 k', .int .i64 n', .string (str t'), .slice b1 m1 d1, .slice b2 m2 d2]] u fun e w' => e = .returned (.int .i64 ((ck 16 b : Nat) : Int)) ∧ Hid (Below u.heap.size u w')) := fun u hb => checkJ_any b S _ u (unhide HA u hb).2.2.2 (unhide HA u hb).2.1 (unhide HA u hb).2.2.1 zb
  have HAl : Hid (ck 16 a = 0 → ck 16 b = 0 → ∀ u, Below W.heap.size W u → Calls Tryz.prog 32 #[.agg #[.int .i64 k, .int .i64 n, .string (str t), .slice a1 n1 c1, .slice a2 n2 c2], .agg #[.int .i64 k', .int .i64 n', .string (str t'), .slice b1 m1 d1, .slice b2 m2 d2]] u fun e w' => e = .returned (.bool (alN 16 a b)) ∧ Hid (Below u.heap.size u w')) := fun h1 h2 u hb => al_any 16 a b h1 h2 za zb S _ _ u (unhide HA u hb).1 (unhide HA u hb).2.1 (unhide HA u hb).2.2.1
  have HR : Hid (saM a b = (decide (ck 16 a = 0) && (decide (ck 16 b = 0) && alN 16 a b))) := rfl
  generalize saM a b = R at HR ⊢
  generalize alN 16 a b = A at HR HAl
  generalize ck 16 a = Ea at HR HCa HAl
  generalize ck 16 b = Eb at HR HCb HAl
  obtain ⟨p0, p1, p2, p3, p4⟩ := cells5 rV
  clear hT hJ hJ' hS za zb bW rV rX HA
  go_enter Tryz.func18, Tryz.ntmps18
  go_upto_region 1 with fail
  rw [← hW, ← hX, ← hV]
  clear hW hV hX
  by_cases ha : Ea = 0
  · subst ha
    simp only [show ((0 : Nat) : Int) = 0 from rfl] at HCa
    go_wp2_with fail
    refine (unhide HCa).mono ?_
    rintro e w1 ⟨rfl, h1⟩
    have HC1 := hide (unhide HCb w1 (unhide h1))
    obtain ⟨q0, q1, q2, q3, q4⟩ := cells5 (unhide HKX w1 (unhide h1))
    clear HCa HCb p0 p1 p2 p3 p4
    by_cases hb : Eb = 0
    · subst hb
      simp only [show ((0 : Nat) : Int) = 0 from rfl] at HC1
      go_wp2_with fail
      refine (unhide HC1).mono ?_
      rintro e w2 ⟨rfl, h2⟩
      have HB2 : Hid (Below W.heap.size W w2) := (unhide h1).trans ((unhide h2).mono (unhide h1).size)
      have HA2 := hide (unhide HAl (by first | exact rfl | trivial) (by first | exact rfl | trivial) w2 (unhide HB2))
      clear HC1 HAl q0 q1 q2 q3 q4 h1 h2
      obtain ⟨q0, q1, q2, q3, q4⟩ := cells5 (unhide HKX w2 (unhide HB2))
      obtain ⟨p0, p1, p2, p3, p4⟩ := cells5 (unhide HKV w2 (unhide HB2))
      have HR2 : Hid (R = A) := by show _ = _; rw [unhide HR]; rfl
      go_wp2_with fail
      refine (unhide HA2).mono ?_
      rintro e w3 ⟨rfl, h3⟩
      have HF3 := hide (unhide HF w3 ((unhide HB2).trans ((unhide h3).mono (unhide HB2).size)))
      clear HA2 h3 p0 p1 p2 p3 p4 q0 q1 q2 q3 q4
      go_wp2_with fail
      go_ret
      rw [unhide HR2]
      exact ⟨rfl, HF3⟩
    · have e1 : (((Eb : Nat) : Int) == 0) = false := by simp; omega
      have e2 : ¬ ((Eb : Nat) : Int) = 0 := by omega
      have HR2 : Hid (R = false) := by show _ = _; rw [unhide HR, decide_eq_false hb]; rfl
      go_wp2_with fail
      refine (unhide HC1).mono ?_
      rintro e w2 ⟨rfl, h2⟩
      have HF3 := hide (unhide HF w2 ((unhide h1).trans ((unhide h2).mono (unhide h1).size)))
      clear HC1 HAl q0 q1 q2 q3 q4 h1 h2
      go_wp2_with fail
      go_ret
      rw [unhide HR2]
      exact ⟨rfl, HF3⟩
  · have e1 : (((Ea : Nat) : Int) == 0) = false := by simp; omega
    have e2 : ¬ ((Ea : Nat) : Int) = 0 := by omega
    have HR2 : Hid (R = false) := by show _ = _; rw [unhide HR, decide_eq_false ha]; rfl
    go_wp2_with fail
    refine (unhide HCa).mono ?_
    rintro e w1 ⟨rfl, h1⟩
    have HF3 := hide (unhide HF w1 (unhide h1))
    clear HCa HCb HAl p0 p1 p2 p3 p4 h1
    go_wp2_with fail
    go_ret
    rw [unhide HR2]
    exact ⟨rfl, HF3⟩
#print axioms same_any
end Go.Proofs.YtbnbngmnoffmkaaGreatDoor
end
section
set_option linter.unusedVariables false
set_option maxRecDepth 1000000
namespace Go.Proofs.YtbnbngmnoffmkaaGreatDoor
open Go.RowKit

theorem prM_ok (j : Js) (h : ck 16 j = 0) : ((prM j).2 = 0 ∧ (prM j).1 = prN 16 j ∧ (prN 16 j).length ≤ 65536) ∨ (prM j).2 = 4 := by
  unfold prM
  rw [if_neg (by rw [h]; simp)]
  by_cases hl : 65536 < (prN 16 j).length
  · rw [if_pos hl]; exact .inr rfl
  · rw [if_neg hl]; exact .inl ⟨rfl, rfl, by omega⟩
theorem prM_len (j : Js) : (prM j).1.length ≤ 65536 := by
  unfold prM
  split
  · exact Nat.zero_le _
  · split
    · exact Nat.zero_le _
    · simp only; omega
theorem saM_iff (a b : Js) (ha : Gd 16 a) (hb : Gd 16 b) : saM a b = decide (prN 16 a = prN 16 b) := by
  unfold saM
  rw [decide_eq_true ha.1, decide_eq_true hb.1, Bool.true_and, Bool.true_and]
  have h := al_iff 16 a b ha.1 hb.1
  by_cases e : prN 16 a = prN 16 b
  · rw [decide_eq_true e, h]
    exact sr_of_pr 16 a b ha.1 hb.1 ha.2 hb.2 e
  · rw [decide_eq_false e, Bool.eq_false_iff]
    intro h2
    apply e
    rw [← pr_sr 16 a ha.1, ← pr_sr 16 b hb.1, h.1 h2]
/-- What is printed, read again. -/
theorem one_math (a b : Js) (ha : Gd 16 a) (hb : Gd 16 b) (h1 : (prM a).2 = 0) (h2 : (prM b).2 = 0) : psM (prM a).1 = (srN 16 a, 0, 0) ∧ Gd 16 (srN 16 a) ∧ saM (srN 16 a) a = true ∧ saM a b = decide ((prM a).1 = (prM b).1) := by
  obtain ⟨_, e1, l1⟩ : (prM a).2 = 0 ∧ (prM a).1 = prN 16 a ∧ (prN 16 a).length ≤ 65536 := by
    rcases prM_ok a ha.1 with h | h
    · exact h
    · omega
  obtain ⟨_, e2, l2⟩ : (prM b).2 = 0 ∧ (prM b).1 = prN 16 b ∧ (prN 16 b).length ≤ 65536 := by
    rcases prM_ok b hb.1 with h | h
    · exact h
    · omega
  have hs := ck_sr 16 a ha.1 ha.2
  rw [e1, e2]
  refine ⟨ps_print a ha.1 ha.2 l1, hs, ?_, saM_iff a b ha hb⟩
  rw [saM_iff _ a hs ha, decide_eq_true_eq]
  exact pr_sr 16 a ha.1
/-- A box with a value, all of it in the world. -/
structure Bj (w : World) (V : Nat) (k n : Int) (t : List UInt8) (a1 : Option Addr) (n1 c1 : Nat) (a2 : Option Addr) (n2 c2 : Nat) (j : Js) : Prop where
  row : w.heap[V]? = some (.cells #[.int .i64 k, .int .i64 n, .string (str t), .slice a1 n1 c1, .slice a2 n2 c2] 25 (0, 0))
  jv : JV w (Al w) (.agg #[.int .i64 k, .int .i64 n, .string (str t), .slice a1 n1 c1, .slice a2 n2 c2]) j
theorem Bj.below {w u : World} {V : Nat} {k n : Int} {t : List UInt8} {a1 : Option Addr} {n1 c1 : Nat} {a2 : Option Addr} {n2 c2 : Nat} {j : Js} (h : Bj w V k n t a1 n1 c1 a2 n2 c2 j) (hb : Below w.heap.size w u) : Bj u V k n t a1 n1 c1 a2 n2 c2 j :=
  ⟨(hb.block V (Array.getElem?_eq_some_iff.1 h.row).1).trans h.row, h.jv.al (fun k hk => hk) hb⟩
theorem Bj.made {w : World} {S : Nat → Prop} {k n : Int} {t : List UInt8} {a1 : Option Addr} {n1 c1 : Nat} {a2 : Option Addr} {n2 c2 : Nat} {j : Js} (h : JV w S (.agg #[.int .i64 k, .int .i64 n, .string (str t), .slice a1 n1 c1, .slice a2 n2 c2]) j) (hS : ∀ k, S k → k < w.heap.size) :
    ∀ U, U = w.alloc (.cells #[.int .i64 k, .int .i64 n, .string (str t), .slice a1 n1 c1, .slice a2 n2 c2] 25) → Bj U w.heap.size k n t a1 n1 c1 a2 n2 c2 j ∧ Below w.heap.size w U := by
  intro U hU
  have bU : Below w.heap.size w U := by rw [hU]; exact (Below.refl _ _).alloc (Nat.le_refl _) _
  exact ⟨⟨by rw [hU]; exact heap_alloc_new _ _, h.al hS bU⟩, bU⟩
end Go.Proofs.YtbnbngmnoffmkaaGreatDoor
end
