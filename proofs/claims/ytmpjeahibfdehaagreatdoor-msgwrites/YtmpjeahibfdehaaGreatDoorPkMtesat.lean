/-
  jsonx's printer and Check as mathematics.; jsonx: names of which one is broken.; jsonx: isWellFormed.; jsonx's parser as mathematics: what is read can be, and is no greater than its text.; jsonx: the document's Equal, of two values that tell the same.
-/
import Derived.Test.YtmpjeahibfdehaaGreatDoorPkMtesas
import Derived.Lib.ItoaNum
import Derived.Test.YtmpjeahibfdehaaGreatDoorPkMtesaq
import Derived.BigQuiet
import Derived.Deep.RegionHeld3
section
set_option linter.unusedVariables false
namespace Go.Proofs.YtmpjeahibfdehaaGreatDoor
open Go.RowKit

/-! ### Places by rising names -/
def nmA (ns : List (List UInt8)) (i : Nat) : List UInt8 := ns.getD i []
def leN (ns : List (List UInt8)) (i j : Nat) : Prop := ¬ nmA ns j < nmA ns i
def RisO (ns : List (List UInt8)) (o : List Nat) : Prop := o.Perm (List.range ns.length) ∧ o.Pairwise (leN ns)
def insO (ns : List (List UInt8)) (i : Nat) : List Nat → List Nat
 | [] => [i]
 | j :: r => if nmA ns j < nmA ns i then j :: insO ns i r else i :: j :: r
theorem insO_perm (ns : List (List UInt8)) (i : Nat) : ∀ o : List Nat, (insO ns i o).Perm (i :: o)
 | [] => List.Perm.refl _
 | j :: r => by
  unfold insO
  split
  ·exact ((insO_perm ns i r).cons j).trans (List.Perm.swap i j r)
  ·exact List.Perm.refl _
theorem leN_trans {ns : List (List UInt8)} {i j k : Nat} (h1 : leN ns i j) (h2 : leN ns j k) : leN ns i k := by
 unfold leN at *
 rw [List.not_lt] at *
 exact List.le_trans h1 h2
theorem insO_pw (ns : List (List UInt8)) (i : Nat) : ∀ o : List Nat, o.Pairwise (leN ns) → (insO ns i o).Pairwise (leN ns)
 | [], _ => List.pairwise_singleton _ _
 | j :: r, h => by
  unfold insO
  rw [List.pairwise_cons] at h
  split
  ·rename_i hlt
   rw [List.pairwise_cons]
   refine ⟨fun x hx => ?_, insO_pw ns i r h.2⟩
   rcases List.mem_cons.1 ((insO_perm ns i r).mem_iff.1 hx) with rfl | hx
   ·unfold leN; exact fun e => List.lt_irrefl _ (List.lt_trans hlt e)
   ·exact h.1 x hx
  ·rename_i hge
   rw [List.pairwise_cons, List.pairwise_cons]
   refine ⟨fun x hx => ?_, h⟩
   rcases List.mem_cons.1 hx with rfl | hx
   ·exact hge
   ·exact leN_trans hge (h.1 x hx)
def ordL (ns : List (List UInt8)) : List Nat → List Nat
 | [] => []
 | i :: r => insO ns i (ordL ns r)
theorem ordL_perm (ns : List (List UInt8)) : ∀ l : List Nat, (ordL ns l).Perm l
 | [] => List.Perm.refl _
 | i :: r => (insO_perm ns i _).trans ((ordL_perm ns r).cons i)
theorem ordL_pw (ns : List (List UInt8)) : ∀ l : List Nat, (ordL ns l).Pairwise (leN ns)
 | [] => List.Pairwise.nil
 | i :: r => insO_pw ns i _ (ordL_pw ns r)
/-- The places of names, by their names. -/
def ordS (ns : List (List UInt8)) : List Nat := ordL ns (List.range ns.length)
theorem ordS_ris (ns : List (List UInt8)) : RisO ns (ordS ns) := ⟨ordL_perm _ _, ordL_pw _ _⟩
theorem RisO.lt {ns : List (List UInt8)} {o : List Nat} (h : RisO ns o) : ∀ i ∈ o, i < ns.length := fun i hi => List.mem_range.1 (h.1.mem_iff.1 hi)
theorem RisO.len {ns : List (List UInt8)} {o : List Nat} (h : RisO ns o) : o.length = ns.length := by rw [h.1.length_eq, List.length_range]
theorem nmA_get {ns : List (List UInt8)} {i : Nat} (h : i < ns.length) : nmA ns i = ns[i] := by
 unfold nmA
 rw [List.getD_eq_getElem?_getD, List.getElem?_eq_getElem h]
 rfl
theorem nmA_inj {ns : List (List UInt8)} (nd : ns.Nodup) {i j : Nat} (hi : i < ns.length) (hj : j < ns.length) (e : nmA ns i = nmA ns j) : i = j := by
 rw [nmA_get hi, nmA_get hj] at e
 rcases Nat.lt_trichotomy i j with h | h | h
 ·exact absurd e (List.pairwise_iff_getElem.1 nd i j hi hj h)
 ·exact h
 ·exact absurd e.symm (List.pairwise_iff_getElem.1 nd j i hj hi h)
theorem RisO.eq {ns : List (List UInt8)} (nd : ns.Nodup) {o p : List Nat} (h : RisO ns o) (k : RisO ns p) : o = p := by
 refine List.Perm.eq_of_pairwise (le := leN ns) (fun a b ha hb h1 h2 => ?_) h.2 k.2 (h.1.trans k.1.symm)
 unfold leN at h1 h2
 rw [List.not_lt] at h1 h2
 exact nmA_inj nd (h.lt a ha) (k.lt b hb) (List.le_antisymm h1 h2)
theorem map_nmA (ns : List (List UInt8)) : (List.range ns.length).map (nmA ns) = ns := by
 apply List.ext_getElem?
 intro i
 by_cases h : i < ns.length
 ·rw [List.getElem?_map, List.getElem?_range h, List.getElem?_eq_getElem h]
  simp [nmA_get h]
 ·rw [List.getElem?_eq_none (by simp; omega), List.getElem?_eq_none (by omega)]
/-- Are two neighbours alike? -/
def twA (ns : List (List UInt8)) : List Nat → Bool
 | a :: b :: r => nmA ns a == nmA ns b || twA ns (b :: r)
 | _ => false
theorem twA_pw (ns : List (List UInt8)) : ∀ o : List Nat, o.Pairwise (leN ns) → (twA ns o = false ↔ (o.map (nmA ns)).Nodup)
 | [], _ => by simp [twA]
 | [a], _ => by simp [twA]
 | a :: b :: r, h => by
  rw [List.pairwise_cons] at h
  have ih := twA_pw ns (b :: r) h.2
  unfold twA
  rw [Bool.or_eq_false_iff, ih, show (a :: b :: r).map (nmA ns) = nmA ns a :: (b :: r).map (nmA ns) from rfl, List.nodup_cons (a := nmA ns a)]
  constructor
  ·rintro ⟨h1, h2⟩
   refine ⟨fun hm => ?_, h2⟩
   have hab : ¬ nmA ns a = nmA ns b := by simpa using h1
   rw [List.map_cons] at hm
   rcases List.mem_cons.1 hm with e | e
   ·exact hab e
   ·obtain ⟨c, hc, e⟩ := List.mem_map.1 e
    have k1 := h.1 b (List.mem_cons_self)
    have k2 := (List.pairwise_cons.1 h.2).1 c hc
    unfold leN at k1 k2
    rw [List.not_lt] at k1 k2
    rw [e] at k2
    exact hab (List.le_antisymm k1 k2)
  ·rintro ⟨h1, h2⟩
   refine ⟨?_, h2⟩
   have : nmA ns a ≠ nmA ns b := fun e => h1 (by rw [e, List.map_cons]; exact List.mem_cons_self)
   simpa using this
theorem tw_iff {ns : List (List UInt8)} {o : List Nat} (h : RisO ns o) : twA ns o = !decide ns.Nodup := by
 have e : (o.map (nmA ns)).Perm ns := by
  have := h.1.map (nmA ns)
  rw [map_nmA] at this
  exact this
 have k := twA_pw ns o h.2
 rw [e.nodup_iff] at k
 by_cases hn : ns.Nodup
 ·rw [k.2 hn, decide_eq_true hn]; rfl
 ·rw [decide_eq_false hn]
  cases ht : twA ns o with
  | true => rfl
  | false => exact absurd (k.1 ht) hn
/-! ### Check -/
def wfB : Js → Bool
 | .mk k n t ns is =>
  if k = 0 then n == 0 && t.isEmpty && ns.isEmpty && is.isEmpty
  else if k = 1 then (n == 0 || n == 1) && t.isEmpty && ns.isEmpty && is.isEmpty
  else if k = 2 then t.isEmpty && ns.isEmpty && is.isEmpty
  else if k = 3 then n == 0 && decide (chr t = none) && ns.isEmpty && is.isEmpty
  else if k = 4 then n == 0 && t.isEmpty && ns.isEmpty
  else if k = 5 then n == 0 && t.isEmpty && ns.length == is.length && ns.all (fun s => decide (chr s = none))
  else false
def fsE (C : Js → Nat) : List Js → Nat
 | [] => 0
 | j :: r => if C j = 0 then fsE C r else C j
def ckF (C : Option (Js → Nat)) : Js → Nat
 | .mk k n t ns is => if (k = 4 ∨ k = 5) ∧ C.isNone = true then 41 else if wfB (.mk k n t ns is) = false then 1 else if ¬ ns.Nodup then 43 else match C with | none => 0 | some C => fsE C is
theorem ckF_eq (C : Option (Js → Nat)) (k n : Int) (t : List UInt8) (ns : List (List UInt8)) (is : List Js) : ckF C (.mk k n t ns is) = if (k = 4 ∨ k = 5) ∧ C.isNone = true then 41 else if wfB (.mk k n t ns is) = false then 1 else if ¬ ns.Nodup then 43 else match C with | none => 0 | some C => fsE C is := rfl
/-- Check of a value in which so many lists and objects may still stand. -/
def ck : Nat → Js → Nat
 | 0, j => ckF none j
 | n + 1, j => ckF (some (ck n)) j
theorem fsE_zero {C : Js → Nat} : ∀ {l : List Js}, fsE C l = 0 ↔ ∀ j ∈ l, C j = 0
 | [] => by simp [fsE]
 | j :: r => by
  unfold fsE
  split
  ·rename_i h; rw [fsE_zero]; simp [h]
  ·rename_i h; simp [h]
/-! ### Print -/
def qtA (s : List UInt8) : List UInt8 := s.flatMap qcB
def quo (s : List UInt8) : List UInt8 := [34] ++ qtA s ++ [34]
/-- Pieces with commas between them. -/
def joF : Bool → List (List UInt8) → List UInt8
 | _, [] => []
 | f, x :: r => (if f then [] else [44]) ++ x ++ joF false r
def memP (P : Js → List UInt8) (ns : List (List UInt8)) (is : List Js) (i : Nat) : List UInt8 := quo (nmA ns i) ++ [58] ++ P (is.getD i Js.nul)
def prF (P : Js → List UInt8) : Js → List UInt8
 | .mk k n t ns is =>
  if k = 0 then [110, 117, 108, 108]
  else if k = 1 then (if n = 1 then [116, 114, 117, 101] else [102, 97, 108, 115, 101])
  else if k = 2 then Lib.itoa n
  else if k = 3 then quo t
  else if k = 4 then [91] ++ joF true (is.map P) ++ [93]
  else if k = 5 then [123] ++ joF true ((ordS ns).map (memP P ns is)) ++ [125]
  else []
def prN : Nat → Js → List UInt8
 | 0, j => prF (fun _ => []) j
 | n + 1, j => prF (prN n) j
def prM (j : Js) : List UInt8 × Nat := if ck 16 j ≠ 0 then ([], ck 16 j) else if 65536 < (prN 16 j).length then ([], 4) else (prN 16 j, 0)
theorem joF_snoc (x : List UInt8) : ∀ (l : List (List UInt8)) (f : Bool), joF f (l ++ [x]) = joF f l ++ (if f && l.isEmpty then [] else [44]) ++ x
 | [], f => by cases f <;> simp [joF]
 | y :: r, f => by
  rw [List.cons_append, joF, joF, joF_snoc x r false]
  simp
theorem joF_take (xs : List (List UInt8)) (i : Nat) (x : List UInt8) (h : xs[i]? = some x) : joF true (xs.take (i + 1)) = joF true (xs.take i) ++ (if i = 0 then [] else [44]) ++ x := by
 have hlt := (List.getElem?_eq_some_iff.1 h).1
 have e : xs.take (i + 1) = xs.take i ++ [x] := by rw [List.take_add_one, h]; rfl
 rw [e, joF_snoc]
 congr 2
 cases i with
 | zero => simp
 | succ i =>
  have : (xs.take (i + 1)).isEmpty = false := by
   cases xs with
   | nil => simp at hlt
   | cons y r => rfl
  simp [this]
theorem joF_le (xs : List (List UInt8)) (i : Nat) : (joF true (xs.take i)).length ≤ (joF true xs).length := by
 have key : ∀ (l r : List (List UInt8)) (f : Bool), (joF f l).length ≤ (joF f (l ++ r)).length := by
  intro l
  induction l with
  | nil => intro r f; simp [joF]
  | cons y l ih => intro r f; rw [List.cons_append, joF, joF]; simp only [List.length_append]; have := ih r false; omega
 have := key (xs.take i) (xs.drop i) true
 rwa [List.take_append_drop] at this
/-! ### What is printed, up to too much -/
def Lk (x y : List UInt8) : Prop := x = y ∨ (65536 < x.length ∧ 65536 < y.length)
theorem Lk.refl (x : List UInt8) : Lk x x := .inl rfl
theorem Lk.trans {x y z : List UInt8} (h : Lk x y) (k : Lk y z) : Lk x z := by
 rcases h with rfl | h
 ·exact k
 ·rcases k with rfl | k
  ·exact .inr h
  ·exact .inr ⟨h.1, k.2⟩
theorem Lk.app {x y : List UInt8} (h : Lk x y) (s : List UInt8) : Lk (x ++ s) (y ++ s) := by
 rcases h with rfl | h
 ·exact .inl rfl
 ·exact .inr ⟨by rw [List.length_append]; omega, by rw [List.length_append]; omega⟩
theorem Lk.full {x y z : List UInt8} (h : Lk x y) (hx : 65536 < x.length) (hz : y.length ≤ z.length) : Lk x z := by
 rcases h with rfl | h
 ·exact .inr ⟨hx, by omega⟩
 ·exact .inr ⟨hx, by omega⟩
theorem qtL_lk : ∀ (s acc : List UInt8), Lk (qtL acc s) (acc ++ qtA s)
 | [], acc => by simp [qtL, qtA]; exact Lk.refl _
 | c :: r, acc => by
  unfold qtL
  split
  ·rename_i h
   exact Lk.full (Lk.refl _) h (by rw [List.length_append]; omega)
  ·have := qtL_lk r (acc ++ qcB c)
   rw [List.append_assoc] at this
   exact this
theorem qtL_len : ∀ (s acc : List UInt8), (qtL acc s).length ≤ max acc.length 65536 + 6
 | [], acc => by simp [qtL]; omega
 | c :: r, acc => by
  unfold qtL
  split
  ·omega
  ·have := qtL_len r (acc ++ qcB c)
   have h2 := qc_len c
   rw [List.length_append] at this
   rename_i h
   by_cases h3 : acc.length + (qcB c).length ≤ 65536
   ·omega
   ·have h4 : qtL (acc ++ qcB c) r = acc ++ qcB c := by
     cases r with
     | nil => rfl
     | cons d r => unfold qtL; rw [if_pos (by rw [List.length_append]; omega)]
    rw [h4, List.length_append]
    omega
theorem quo_lk (l s : List UInt8) : Lk (qtL (l ++ [34]) s ++ [34]) (l ++ quo s) := by
 have := (qtL_lk s (l ++ [34])).app [34]
 unfold quo
 simpa [List.append_assoc] using this
theorem quo_len (l s : List UInt8) : (qtL (l ++ [34]) s ++ [34]).length ≤ max l.length 65536 + 8 := by
 have := qtL_len s (l ++ [34])
 rw [List.length_append] at *
 simp at *
 omega
/-! ### Sizes -/
mutual
def Sz : Js → Prop
 | .mk k n t ns is => (-9223372036854775808 ≤ n ∧ n ≤ 9223372036854775807) ∧ t.length ≤ 100000 ∧ ns.length ≤ 100000 ∧ is.length ≤ 100000 ∧ (∀ s ∈ ns, s.length ≤ 100000) ∧ Szs is
def Szs : List Js → Prop
 | [] => True
 | j :: r => Sz j ∧ Szs r
end
theorem szs_iff : ∀ l : List Js, Szs l ↔ ∀ j ∈ l, Sz j
 | [] => by simp [Szs]
 | j :: r => by simp [Szs, szs_iff r]
end Go.Proofs.YtmpjeahibfdehaaGreatDoor
end
section
set_option linter.unusedVariables false
set_option maxRecDepth 1000000
namespace Go.Proofs.YtmpjeahibfdehaaGreatDoor
open Go.RowKit

theorem NsF.below {w w' : World} {S : Nat → Prop} {a : Option Addr} {l : List (List UInt8)} (h : NsF w S a l) {B : Nat} (hb : Below B w w') (hS : ∀ k, S k → k < B) : NsF w' S a l := h.keep (fun k hk => ⟨hk, hb.block k (hS k hk)⟩)
theorem cells5 {u : World} {V : Nat} {x0 x1 x2 x3 x4 : Value} {T : TypeId} {m : Nat × Nat} (h : u.heap[V]? = some (.cells #[x0, x1, x2, x3, x4] T m)) : u.cell? ⟨V, 0, none⟩ = some x0 ∧ u.cell? ⟨V, 1, none⟩ = some x1 ∧ u.cell? ⟨V, 2, none⟩ = some x2 ∧ u.cell? ⟨V, 3, none⟩ = some x3 ∧ u.cell? ⟨V, 4, none⟩ = some x4 :=
 ⟨cR6 h, cR6 h, cR6 h, cR6 h, cR6 h⟩
theorem bdr4 {B : Nat} {w0 w : World} (h : Below B w0 w) : ∀ n : Nat, Below B w0 (w.drewN n)
 | 0 => h
 | n + 1 => ⟨(bdr4 h n).os, (bdr4 h n).tape, (bdr4 h n).output, (bdr4 h n).size, (bdr4 h n).block⟩
/-- A text that is not whole characters. -/
def brB (s : List UInt8) : Bool := !decide (chr s = none)
set_option maxHeartbeats 4000000 in
theorem idx_br (p : Option Addr) (cp : Nat) (L : List (List UInt8)) (S : Nat → Prop) (w : World) (hT : Tb4 w) (h : NsF w S p L) (hS : ∀ k, S k → k < w.heap.size) (hz : ∀ s ∈ L, s.length ≤ 300000) (hl : L.length ≤ 1000001) :
  Calls Tryz.prog 169 #[.slice p L.length cp, .func (.func 148) #[] #[]] w fun e w' => ∃ r : Int, e = .returned (.int .i64 r) ∧ Hid (Below w.heap.size w w') ∧ Hid (decide (0 ≤ r) = L.any brB) := by
 have HS := hide h
 have HSS := hide hS
 have HZ := hide hz
 have HT := hide hT
 clear h hS hz hT
 go_enter Tryz.func169, Tryz.ntmps169
 go_wp2
 go_loopw [8] (fun v wr => ∃ i : Nat, i ≤ L.length ∧ v = .int .i64 (i : Int) ∧ Hid (∀ j t, j < i → L[j]? = some t → brB t = false) ∧ Hid (Below w.heap.size w wr)) (fun v _ => L.length - (intOf v).toNat)
 case atStart => exact ⟨0, Nat.zero_le _, rfl, (fun j t hj => by omega), Below.refl _ _⟩
 case round =>
  obtain ⟨i, hi, rfl, hno, hb⟩ := hrel
  by_cases hlt : i < L.length
  ·obtain ⟨s, hs⟩ : ∃ s, L[i]? = some s := ⟨_, List.getElem?_eq_getElem hlt⟩
   obtain ⟨b, off, hpe, _, hcc⟩ := ((uh HS).below (uh hb) (uh HSS)) (by intro e; subst e; simp at hs)
   subst hpe
   have c0 := hcc i s hs
   have HSx := hide hs
   have hsl := uh HZ s (List.mem_of_getElem? hs)
   have hi2 : (i : Int) < (L.length : Int) := by omega
   have HTr : Hid (Tb4 wr) := (uh HT).below (uh hb)
   clear hs hcc
   cases hk : brB s with
   | true =>
    have HK := hide hk
    have HN1 : Hid (Calls Tryz.prog 148 #[.string (str s)] wr fun e w' => e = .returned (.bool true) ∧ Hid (Below wr.heap.size wr w')) := by show Calls _ _ _ _ _; rw [← hk]; exact isBroken_any s wr (uh HTr) hsl
    clear hk
    go_wp2_with (go_at_call 148; refine (uh HN1).mono ?_; rintro e w2 ⟨rfl, hb2⟩)
    go_ret
    refine ⟨(i : Int), rfl, hb.out.trans (hb2.out.mono hb.out.size), ?_⟩
    show decide (0 ≤ (i : Int)) = _
    rw [decide_eq_true (by omega)]
    exact (List.any_eq_true.2 ⟨s, List.mem_of_getElem? (uh HSx), uh HK⟩).symm
   | false =>
    have HK := hide hk
    have HN1 : Hid (Calls Tryz.prog 148 #[.string (str s)] wr fun e w' => e = .returned (.bool false) ∧ Hid (Below wr.heap.size wr w')) := by show Calls _ _ _ _ _; rw [← hk]; exact isBroken_any s wr (uh HTr) hsl
    clear hk
    have HN2 : Hid (∀ j t, j < i + 1 → L[j]? = some t → brB t = false) := by
     intro j t hj ht
     by_cases e : j = i
     ·subst e
      rw [uh HSx] at ht
      cases ht
      exact uh HK
     ·exact uh hno j t (by omega) ht
    go_wp2_with (go_at_call 148; refine (uh HN1).mono ?_; rintro e w2 ⟨rfl, hb2⟩)
    have HB2 := hide (hb.out.trans (hb2.out.mono hb.out.size))
    go_roundw
    case rel => exact ⟨i + 1, by omega, by go_num, HN2, HB2⟩
    case measure => simp [intOf]; omega
  ·obtain rfl : i = L.length := by omega
   have hlt' : ¬ (L.length : Int) < (L.length : Int) := by omega
   have HA : Hid (L.any brB = false) := by
    show _ = _
    rw [List.any_eq_false]
    intro x hx
    obtain ⟨j, hj, e⟩ := List.mem_iff_getElem.1 hx
    have := uh hno j x hj (by rw [List.getElem?_eq_getElem hj, e])
    rw [this]; decide
   clear hlt
   go_wp2
   go_ret
   refine ⟨-1, rfl, hb, ?_⟩
   show _ = _
   rw [uh HA]; rfl
set_option maxHeartbeats 1000000 in
theorem con_br (p : Option Addr) (cp : Nat) (L : List (List UInt8)) (S : Nat → Prop) (w : World) (hT : Tb4 w) (h : NsF w S p L) (hS : ∀ k, S k → k < w.heap.size) (hz : ∀ s ∈ L, s.length ≤ 300000) (hl : L.length ≤ 1000001) :
  Calls Tryz.prog 147 #[.slice p L.length cp, .func (.func 148) #[] #[]] w fun e w' => e = .returned (.bool (L.any brB)) ∧ Hid (Below w.heap.size w w') := by
 have HX := hide (idx_br p cp L S w hT h hS hz hl)
 clear h hS hT hz
 go_enter Tryz.func147, Tryz.ntmps147
 go_wp2_with (go_at_call 169; refine (uh HX).mono ?_; rintro e w2 ⟨r, rfl, HB2, HR⟩)
 go_ret
 refine ⟨?_, HB2⟩
 rw [← HR.out]
 rfl
end Go.Proofs.YtmpjeahibfdehaaGreatDoor
end
section
set_option linter.unusedVariables false
set_option maxRecDepth 1000000
namespace Go.Proofs.YtmpjeahibfdehaaGreatDoor
open Go.RowKit

theorem nsE (l : List (List UInt8)) : l.isEmpty = decide (l.length = 0) := by cases l <;> simp
theorem jsE (l : List Js) : l.isEmpty = decide (l.length = 0) := by cases l <;> simp
theorem btE (l : List UInt8) : l.isEmpty = decide (l = []) := by cases l <;> simp
theorem allB (l : List (List UInt8)) : l.all (fun s => decide (chr s = none)) = !l.any brB := by
 induction l with
 | nil => rfl
 | cons x r ih => simp only [List.all_cons, List.any_cons, ih, brB, Bool.not_or, Bool.not_not]

set_option maxHeartbeats 4000000 in
theorem isWF0 (n : Int) (t : List UInt8) (a1 a2 : Option Addr) (m1 c1 m2 c2 : Nat) (w : World) :
  Calls Tryz.prog 113 #[.agg #[.int .i64 0, .int .i64 n, .string (str t), .slice a1 m1 c1, .slice a2 m2 c2]] w fun e w' => e = .returned (.bool ((n == 0) && decide (t = []) && decide (m1 = 0) && decide (m2 = 0))) ∧ Hid (Below w.heap.size w w') := by
 obtain ⟨RES, hRES⟩ : ∃ RES : Bool, RES = ((n == 0) && decide (t = []) && decide (m1 = 0) && decide (m2 = 0)) := ⟨_, rfl⟩
 rw [← hRES]
 have HR := hide hRES
 clear hRES
 by_cases xN : n = 0
 ·have HRN := hide xN
  subst xN
  by_cases xT : t = []
  ·have HRT := hide xT
   have ht1 : (str t).toList.isEmpty = true := by rw [toList_str]; rw [xT]; rfl
   have ht2 : ((str t).toList == []) = true := by rw [toList_str]; rw [xT]; rfl
   clear xT
   rw [decide_eq_true (uh HRT)] at HR
   by_cases xS : m1 = 0
   ·have HRS := hide xS
    subst xS
    by_cases xI : m2 = 0
    ·have HRI := hide xI
     subst xI
     have HE : Hid (RES = true) := by show _ = _; rw [uh HR]; simp
     rw [uh HE]; clear HE HR
     have HB : ∀ o, Hid (Below w.heap.size w (w.alloc o)) := fun o => hide ((Below.refl _ _).alloc (Nat.le_refl _) o)
     go_enter Tryz.func113, Tryz.ntmps113
     go_wp2_with fail
     go_ret
     exact ⟨rfl, HB _⟩
    ·have HE : Hid (RES = false) := by show _ = _; rw [uh HR, decide_eq_false xI]; simp
     rw [uh HE]; clear HE HR
     have hi0 : ((m2 : Int) == 0) = false := by simp; omega
     have HB : ∀ o, Hid (Below w.heap.size w (w.alloc o)) := fun o => hide ((Below.refl _ _).alloc (Nat.le_refl _) o)
     go_enter Tryz.func113, Tryz.ntmps113
     go_wp2_with fail
     go_ret
     exact ⟨rfl, HB _⟩
   ·have HE : Hid (RES = false) := by show _ = _; rw [uh HR, decide_eq_false xS]; simp
    rw [uh HE]; clear HE HR
    have hs0 : ((m1 : Int) == 0) = false := by simp; omega
    have HB : ∀ o, Hid (Below w.heap.size w (w.alloc o)) := fun o => hide ((Below.refl _ _).alloc (Nat.le_refl _) o)
    go_enter Tryz.func113, Tryz.ntmps113
    go_wp2_with fail
    go_ret
    exact ⟨rfl, HB _⟩
  ·have HE : Hid (RES = false) := by show _ = _; rw [uh HR, decide_eq_false xT]; simp
   rw [uh HE]; clear HE HR
   have ht1 : (str t).toList.isEmpty = false := by rw [toList_str]; simpa [btE] using xT
   have ht2 : ((str t).toList == []) = false := by rw [toList_str]; simpa using xT
   clear xT
   have HB : ∀ o, Hid (Below w.heap.size w (w.alloc o)) := fun o => hide ((Below.refl _ _).alloc (Nat.le_refl _) o)
   go_enter Tryz.func113, Tryz.ntmps113
   go_wp2_with fail
   go_ret
   exact ⟨rfl, HB _⟩
 ·have HE : Hid (RES = false) := by show _ = _; rw [uh HR, show (n == 0) = false by simpa using xN]; simp
  rw [uh HE]; clear HE HR
  have hn0 : (n == 0) = false := by simpa using xN
  have HB : ∀ o, Hid (Below w.heap.size w (w.alloc o)) := fun o => hide ((Below.refl _ _).alloc (Nat.le_refl _) o)
  go_enter Tryz.func113, Tryz.ntmps113
  go_wp2_with fail
  go_ret
  exact ⟨rfl, HB _⟩
set_option maxHeartbeats 4000000 in
theorem isWF1 (n : Int) (t : List UInt8) (a1 a2 : Option Addr) (m1 c1 m2 c2 : Nat) (w : World) :
  Calls Tryz.prog 113 #[.agg #[.int .i64 1, .int .i64 n, .string (str t), .slice a1 m1 c1, .slice a2 m2 c2]] w fun e w' => e = .returned (.bool ((n == 0 || n == 1) && decide (t = []) && decide (m1 = 0) && decide (m2 = 0))) ∧ Hid (Below w.heap.size w w') := by
 obtain ⟨RES, hRES⟩ : ∃ RES : Bool, RES = ((n == 0 || n == 1) && decide (t = []) && decide (m1 = 0) && decide (m2 = 0)) := ⟨_, rfl⟩
 rw [← hRES]
 have HR := hide hRES
 clear hRES
 by_cases xN : n = 0
 ·subst xN
  by_cases xT : t = []
  ·have HRT := hide xT
   have ht1 : (str t).toList.isEmpty = true := by rw [toList_str]; rw [xT]; rfl
   have ht2 : ((str t).toList == []) = true := by rw [toList_str]; rw [xT]; rfl
   clear xT
   rw [decide_eq_true (uh HRT)] at HR
   by_cases xS : m1 = 0
   ·have HRS := hide xS
    subst xS
    by_cases xI : m2 = 0
    ·have HRI := hide xI
     subst xI
     have HE : Hid (RES = true) := by show _ = _; rw [uh HR]; simp
     rw [uh HE]; clear HE HR
     have HB : ∀ o, Hid (Below w.heap.size w (w.alloc o)) := fun o => hide ((Below.refl _ _).alloc (Nat.le_refl _) o)
     go_enter Tryz.func113, Tryz.ntmps113
     go_wp2_with fail
     go_ret
     exact ⟨rfl, HB _⟩
    ·have HE : Hid (RES = false) := by show _ = _; rw [uh HR, decide_eq_false xI]; simp
     rw [uh HE]; clear HE HR
     have hi0 : ((m2 : Int) == 0) = false := by simp; omega
     have HB : ∀ o, Hid (Below w.heap.size w (w.alloc o)) := fun o => hide ((Below.refl _ _).alloc (Nat.le_refl _) o)
     go_enter Tryz.func113, Tryz.ntmps113
     go_wp2_with fail
     go_ret
     exact ⟨rfl, HB _⟩
   ·have HE : Hid (RES = false) := by show _ = _; rw [uh HR, decide_eq_false xS]; simp
    rw [uh HE]; clear HE HR
    have hs0 : ((m1 : Int) == 0) = false := by simp; omega
    have HB : ∀ o, Hid (Below w.heap.size w (w.alloc o)) := fun o => hide ((Below.refl _ _).alloc (Nat.le_refl _) o)
    go_enter Tryz.func113, Tryz.ntmps113
    go_wp2_with fail
    go_ret
    exact ⟨rfl, HB _⟩
  ·have HE : Hid (RES = false) := by show _ = _; rw [uh HR, decide_eq_false xT]; simp
   rw [uh HE]; clear HE HR
   have ht1 : (str t).toList.isEmpty = false := by rw [toList_str]; simpa [btE] using xT
   have ht2 : ((str t).toList == []) = false := by rw [toList_str]; simpa using xT
   clear xT
   have HB : ∀ o, Hid (Below w.heap.size w (w.alloc o)) := fun o => hide ((Below.refl _ _).alloc (Nat.le_refl _) o)
   go_enter Tryz.func113, Tryz.ntmps113
   go_wp2_with fail
   go_ret
   exact ⟨rfl, HB _⟩
 ·have hn0 : (n == 0) = false := by simpa using xN
  by_cases xM : n = 1
  ·subst xM; clear hn0 xN
   by_cases xT : t = []
   ·have HRT := hide xT
    have ht1 : (str t).toList.isEmpty = true := by rw [toList_str]; rw [xT]; rfl
    have ht2 : ((str t).toList == []) = true := by rw [toList_str]; rw [xT]; rfl
    clear xT
    rw [decide_eq_true (uh HRT)] at HR
    by_cases xS : m1 = 0
    ·have HRS := hide xS
     subst xS
     by_cases xI : m2 = 0
     ·have HRI := hide xI
      subst xI
      have HE : Hid (RES = true) := by show _ = _; rw [uh HR]; simp
      rw [uh HE]; clear HE HR
      have HB : ∀ o, Hid (Below w.heap.size w (w.alloc o)) := fun o => hide ((Below.refl _ _).alloc (Nat.le_refl _) o)
      go_enter Tryz.func113, Tryz.ntmps113
      go_wp2_with fail
      go_ret
      exact ⟨rfl, HB _⟩
     ·have HE : Hid (RES = false) := by show _ = _; rw [uh HR, decide_eq_false xI]; simp
      rw [uh HE]; clear HE HR
      have hi0 : ((m2 : Int) == 0) = false := by simp; omega
      have HB : ∀ o, Hid (Below w.heap.size w (w.alloc o)) := fun o => hide ((Below.refl _ _).alloc (Nat.le_refl _) o)
      go_enter Tryz.func113, Tryz.ntmps113
      go_wp2_with fail
      go_ret
      exact ⟨rfl, HB _⟩
    ·have HE : Hid (RES = false) := by show _ = _; rw [uh HR, decide_eq_false xS]; simp
     rw [uh HE]; clear HE HR
     have hs0 : ((m1 : Int) == 0) = false := by simp; omega
     have HB : ∀ o, Hid (Below w.heap.size w (w.alloc o)) := fun o => hide ((Below.refl _ _).alloc (Nat.le_refl _) o)
     go_enter Tryz.func113, Tryz.ntmps113
     go_wp2_with fail
     go_ret
     exact ⟨rfl, HB _⟩
   ·have HE : Hid (RES = false) := by show _ = _; rw [uh HR, decide_eq_false xT]; simp
    rw [uh HE]; clear HE HR
    have ht1 : (str t).toList.isEmpty = false := by rw [toList_str]; simpa [btE] using xT
    have ht2 : ((str t).toList == []) = false := by rw [toList_str]; simpa using xT
    clear xT
    have HB : ∀ o, Hid (Below w.heap.size w (w.alloc o)) := fun o => hide ((Below.refl _ _).alloc (Nat.le_refl _) o)
    go_enter Tryz.func113, Tryz.ntmps113
    go_wp2_with fail
    go_ret
    exact ⟨rfl, HB _⟩
  ·have hn1 : (n == 1) = false := by simpa using xM
   have HE : Hid (RES = false) := by show _ = _; rw [uh HR, hn0, hn1]; simp
   rw [uh HE]; clear HE HR
   have HB : ∀ o, Hid (Below w.heap.size w (w.alloc o)) := fun o => hide ((Below.refl _ _).alloc (Nat.le_refl _) o)
   go_enter Tryz.func113, Tryz.ntmps113
   go_wp2_with fail
   go_ret
   exact ⟨rfl, HB _⟩
set_option maxHeartbeats 4000000 in
theorem isWF2 (n : Int) (t : List UInt8) (a1 a2 : Option Addr) (m1 c1 m2 c2 : Nat) (w : World) :
  Calls Tryz.prog 113 #[.agg #[.int .i64 2, .int .i64 n, .string (str t), .slice a1 m1 c1, .slice a2 m2 c2]] w fun e w' => e = .returned (.bool (decide (t = []) && decide (m1 = 0) && decide (m2 = 0))) ∧ Hid (Below w.heap.size w w') := by
 obtain ⟨RES, hRES⟩ : ∃ RES : Bool, RES = (decide (t = []) && decide (m1 = 0) && decide (m2 = 0)) := ⟨_, rfl⟩
 rw [← hRES]
 have HR := hide hRES
 clear hRES
 by_cases xT : t = []
 ·have HRT := hide xT
  have ht1 : (str t).toList.isEmpty = true := by rw [toList_str]; rw [xT]; rfl
  have ht2 : ((str t).toList == []) = true := by rw [toList_str]; rw [xT]; rfl
  clear xT
  rw [decide_eq_true (uh HRT)] at HR
  by_cases xS : m1 = 0
  ·have HRS := hide xS
   subst xS
   by_cases xI : m2 = 0
   ·have HRI := hide xI
    subst xI
    have HE : Hid (RES = true) := by show _ = _; rw [uh HR]; simp
    rw [uh HE]; clear HE HR
    have HB : ∀ o, Hid (Below w.heap.size w (w.alloc o)) := fun o => hide ((Below.refl _ _).alloc (Nat.le_refl _) o)
    go_enter Tryz.func113, Tryz.ntmps113
    go_wp2_with fail
    go_ret
    exact ⟨rfl, HB _⟩
   ·have HE : Hid (RES = false) := by show _ = _; rw [uh HR, decide_eq_false xI]; simp
    rw [uh HE]; clear HE HR
    have hi0 : ((m2 : Int) == 0) = false := by simp; omega
    have HB : ∀ o, Hid (Below w.heap.size w (w.alloc o)) := fun o => hide ((Below.refl _ _).alloc (Nat.le_refl _) o)
    go_enter Tryz.func113, Tryz.ntmps113
    go_wp2_with fail
    go_ret
    exact ⟨rfl, HB _⟩
  ·have HE : Hid (RES = false) := by show _ = _; rw [uh HR, decide_eq_false xS]; simp
   rw [uh HE]; clear HE HR
   have hs0 : ((m1 : Int) == 0) = false := by simp; omega
   have HB : ∀ o, Hid (Below w.heap.size w (w.alloc o)) := fun o => hide ((Below.refl _ _).alloc (Nat.le_refl _) o)
   go_enter Tryz.func113, Tryz.ntmps113
   go_wp2_with fail
   go_ret
   exact ⟨rfl, HB _⟩
 ·have HE : Hid (RES = false) := by show _ = _; rw [uh HR, decide_eq_false xT]; simp
  rw [uh HE]; clear HE HR
  have ht1 : (str t).toList.isEmpty = false := by rw [toList_str]; simpa [btE] using xT
  have ht2 : ((str t).toList == []) = false := by rw [toList_str]; simpa using xT
  clear xT
  have HB : ∀ o, Hid (Below w.heap.size w (w.alloc o)) := fun o => hide ((Below.refl _ _).alloc (Nat.le_refl _) o)
  go_enter Tryz.func113, Tryz.ntmps113
  go_wp2_with fail
  go_ret
  exact ⟨rfl, HB _⟩
set_option maxHeartbeats 4000000 in
theorem isWF4 (n : Int) (t : List UInt8) (a1 a2 : Option Addr) (m1 c1 m2 c2 : Nat) (w : World) :
  Calls Tryz.prog 113 #[.agg #[.int .i64 4, .int .i64 n, .string (str t), .slice a1 m1 c1, .slice a2 m2 c2]] w fun e w' => e = .returned (.bool ((n == 0) && decide (t = []) && decide (m1 = 0))) ∧ Hid (Below w.heap.size w w') := by
 obtain ⟨RES, hRES⟩ : ∃ RES : Bool, RES = ((n == 0) && decide (t = []) && decide (m1 = 0)) := ⟨_, rfl⟩
 rw [← hRES]
 have HR := hide hRES
 clear hRES
 by_cases xN : n = 0
 ·have HRN := hide xN
  subst xN
  by_cases xT : t = []
  ·have HRT := hide xT
   have ht1 : (str t).toList.isEmpty = true := by rw [toList_str]; rw [xT]; rfl
   have ht2 : ((str t).toList == []) = true := by rw [toList_str]; rw [xT]; rfl
   clear xT
   rw [decide_eq_true (uh HRT)] at HR
   by_cases xS : m1 = 0
   ·have HRS := hide xS
    subst xS
    have HE : Hid (RES = true) := by show _ = _; rw [uh HR]; simp
    rw [uh HE]; clear HE HR
    have HB : ∀ o, Hid (Below w.heap.size w (w.alloc o)) := fun o => hide ((Below.refl _ _).alloc (Nat.le_refl _) o)
    go_enter Tryz.func113, Tryz.ntmps113
    go_wp2_with fail
    go_ret
    exact ⟨rfl, HB _⟩
   ·have HE : Hid (RES = false) := by show _ = _; rw [uh HR, decide_eq_false xS]; simp
    rw [uh HE]; clear HE HR
    have hs0 : ((m1 : Int) == 0) = false := by simp; omega
    have HB : ∀ o, Hid (Below w.heap.size w (w.alloc o)) := fun o => hide ((Below.refl _ _).alloc (Nat.le_refl _) o)
    go_enter Tryz.func113, Tryz.ntmps113
    go_wp2_with fail
    go_ret
    exact ⟨rfl, HB _⟩
  ·have HE : Hid (RES = false) := by show _ = _; rw [uh HR, decide_eq_false xT]; simp
   rw [uh HE]; clear HE HR
   have ht1 : (str t).toList.isEmpty = false := by rw [toList_str]; simpa [btE] using xT
   have ht2 : ((str t).toList == []) = false := by rw [toList_str]; simpa using xT
   clear xT
   have HB : ∀ o, Hid (Below w.heap.size w (w.alloc o)) := fun o => hide ((Below.refl _ _).alloc (Nat.le_refl _) o)
   go_enter Tryz.func113, Tryz.ntmps113
   go_wp2_with fail
   go_ret
   exact ⟨rfl, HB _⟩
 ·have HE : Hid (RES = false) := by show _ = _; rw [uh HR, show (n == 0) = false by simpa using xN]; simp
  rw [uh HE]; clear HE HR
  have hn0 : (n == 0) = false := by simpa using xN
  have HB : ∀ o, Hid (Below w.heap.size w (w.alloc o)) := fun o => hide ((Below.refl _ _).alloc (Nat.le_refl _) o)
  go_enter Tryz.func113, Tryz.ntmps113
  go_wp2_with fail
  go_ret
  exact ⟨rfl, HB _⟩
set_option maxHeartbeats 4000000 in
theorem isWF3 (n : Int) (t : List UInt8) (a1 a2 : Option Addr) (m1 c1 m2 c2 : Nat) (Z : Bool) (w : World) (HC : Hid (Calls Tryz.prog 146 #[.string (str t)] (w.alloc (.cells #[.int .i64 3, .int .i64 0, .string (str t), .slice a1 m1 c1, .slice a2 m2 c2] 44)) fun e w' => e = .returned (.bool Z) ∧ Hid (Below (w.alloc (.cells #[.int .i64 3, .int .i64 0, .string (str t), .slice a1 m1 c1, .slice a2 m2 c2] 44)).heap.size (w.alloc (.cells #[.int .i64 3, .int .i64 0, .string (str t), .slice a1 m1 c1, .slice a2 m2 c2] 44)) w'))) :
  Calls Tryz.prog 113 #[.agg #[.int .i64 3, .int .i64 n, .string (str t), .slice a1 m1 c1, .slice a2 m2 c2]] w fun e w' => e = .returned (.bool ((n == 0) && Z && decide (m1 = 0) && decide (m2 = 0))) ∧ Hid (Below w.heap.size w w') := by
 obtain ⟨RES, hRES⟩ : ∃ RES : Bool, RES = ((n == 0) && Z && decide (m1 = 0) && decide (m2 = 0)) := ⟨_, rfl⟩
 rw [← hRES]
 have HR := hide hRES
 clear hRES
 by_cases xN : n = 0
 ·have HRN := hide xN
  subst xN
  cases Z with
  | true =>
   by_cases xS : m1 = 0
   ·have HRS := hide xS
    subst xS
    by_cases xI : m2 = 0
    ·have HRI := hide xI
     subst xI
     have HE : Hid (RES = true) := by show _ = _; rw [uh HR]; simp
     rw [uh HE]; clear HE HR
     have HB : ∀ o, Hid (Below w.heap.size w (w.alloc o)) := fun o => hide ((Below.refl _ _).alloc (Nat.le_refl _) o)
     go_enter Tryz.func113, Tryz.ntmps113
     go_wp2_with fail
     refine (uh HC).mono ?_
     rintro e w1 ⟨rfl, h1⟩
     obtain ⟨g0, g1, g2, g3, g4⟩ := cells5 (((uh h1).block w.heap.size (by simp)).trans (heap_alloc_new w _))
     go_wp2_with fail
     go_ret
     exact ⟨rfl, hide ((uh (HB _)).trans ((uh h1).mono (uh (HB _)).size))⟩
    ·have HE : Hid (RES = false) := by show _ = _; rw [uh HR, decide_eq_false xI]; simp
     rw [uh HE]; clear HE HR
     have hi0 : ((m2 : Int) == 0) = false := by simp; omega
     have HB : ∀ o, Hid (Below w.heap.size w (w.alloc o)) := fun o => hide ((Below.refl _ _).alloc (Nat.le_refl _) o)
     go_enter Tryz.func113, Tryz.ntmps113
     go_wp2_with fail
     refine (uh HC).mono ?_
     rintro e w1 ⟨rfl, h1⟩
     obtain ⟨g0, g1, g2, g3, g4⟩ := cells5 (((uh h1).block w.heap.size (by simp)).trans (heap_alloc_new w _))
     go_wp2_with fail
     go_ret
     exact ⟨rfl, hide ((uh (HB _)).trans ((uh h1).mono (uh (HB _)).size))⟩
   ·have HE : Hid (RES = false) := by show _ = _; rw [uh HR, decide_eq_false xS]; simp
    rw [uh HE]; clear HE HR
    have hs0 : ((m1 : Int) == 0) = false := by simp; omega
    have HB : ∀ o, Hid (Below w.heap.size w (w.alloc o)) := fun o => hide ((Below.refl _ _).alloc (Nat.le_refl _) o)
    go_enter Tryz.func113, Tryz.ntmps113
    go_wp2_with fail
    refine (uh HC).mono ?_
    rintro e w1 ⟨rfl, h1⟩
    obtain ⟨g0, g1, g2, g3, g4⟩ := cells5 (((uh h1).block w.heap.size (by simp)).trans (heap_alloc_new w _))
    go_wp2_with fail
    go_ret
    exact ⟨rfl, hide ((uh (HB _)).trans ((uh h1).mono (uh (HB _)).size))⟩
  | false =>
   have HE : Hid (RES = false) := by show _ = _; rw [uh HR]; simp
   rw [uh HE]; clear HE HR
   have HB : ∀ o, Hid (Below w.heap.size w (w.alloc o)) := fun o => hide ((Below.refl _ _).alloc (Nat.le_refl _) o)
   go_enter Tryz.func113, Tryz.ntmps113
   go_wp2_with fail
   refine (uh HC).mono ?_
   rintro e w1 ⟨rfl, h1⟩
   obtain ⟨g0, g1, g2, g3, g4⟩ := cells5 (((uh h1).block w.heap.size (by simp)).trans (heap_alloc_new w _))
   go_wp2_with fail
   go_ret
   exact ⟨rfl, hide ((uh (HB _)).trans ((uh h1).mono (uh (HB _)).size))⟩
 ·have HE : Hid (RES = false) := by show _ = _; rw [uh HR, show (n == 0) = false by simpa using xN]; simp
  rw [uh HE]; clear HE HR
  have hn0 : (n == 0) = false := by simpa using xN
  have HB : ∀ o, Hid (Below w.heap.size w (w.alloc o)) := fun o => hide ((Below.refl _ _).alloc (Nat.le_refl _) o)
  go_enter Tryz.func113, Tryz.ntmps113
  go_wp2_with fail
  go_ret
  exact ⟨rfl, HB _⟩
set_option maxHeartbeats 4000000 in
theorem isWF5 (n : Int) (t : List UInt8) (a1 a2 : Option Addr) (m1 c1 m2 c2 : Nat) (Z : Bool) (w : World) (HC : Hid (Calls Tryz.prog 147 #[.slice a1 m1 c1, .func (.func 148) #[] #[]] (w.alloc (.cells #[.int .i64 5, .int .i64 0, .string (str t), .slice a1 m1 c1, .slice a2 m2 c2] 44)) fun e w' => e = .returned (.bool (!Z)) ∧ Hid (Below (w.alloc (.cells #[.int .i64 5, .int .i64 0, .string (str t), .slice a1 m1 c1, .slice a2 m2 c2] 44)).heap.size (w.alloc (.cells #[.int .i64 5, .int .i64 0, .string (str t), .slice a1 m1 c1, .slice a2 m2 c2] 44)) w'))) :
  Calls Tryz.prog 113 #[.agg #[.int .i64 5, .int .i64 n, .string (str t), .slice a1 m1 c1, .slice a2 m2 c2]] w fun e w' => e = .returned (.bool ((n == 0) && decide (t = []) && decide (m1 = m2) && Z)) ∧ Hid (Below w.heap.size w w') := by
 obtain ⟨RES, hRES⟩ : ∃ RES : Bool, RES = ((n == 0) && decide (t = []) && decide (m1 = m2) && Z) := ⟨_, rfl⟩
 rw [← hRES]
 have HR := hide hRES
 clear hRES
 by_cases xN : n = 0
 ·have HRN := hide xN
  subst xN
  by_cases xT : t = []
  ·have HRT := hide xT
   have ht1 : (str t).toList.isEmpty = true := by rw [toList_str]; rw [xT]; rfl
   have ht2 : ((str t).toList == []) = true := by rw [toList_str]; rw [xT]; rfl
   clear xT
   rw [decide_eq_true (uh HRT)] at HR
   by_cases xL : m1 = m2
   ·have HRL := hide xL
    subst xL
    cases Z with
    | true =>
     have HE : Hid (RES = true) := by show _ = _; rw [uh HR]; simp
     rw [uh HE]; clear HE HR
     have HB : ∀ o, Hid (Below w.heap.size w (w.alloc o)) := fun o => hide ((Below.refl _ _).alloc (Nat.le_refl _) o)
     go_enter Tryz.func113, Tryz.ntmps113
     go_wp2_with fail
     refine (uh HC).mono ?_
     rintro e w1 ⟨rfl, h1⟩
     go_wp2_with fail
     go_ret
     exact ⟨rfl, hide ((uh (HB _)).trans ((uh h1).mono (uh (HB _)).size))⟩
    | false =>
     have HE : Hid (RES = false) := by show _ = _; rw [uh HR]; simp
     rw [uh HE]; clear HE HR
     have HB : ∀ o, Hid (Below w.heap.size w (w.alloc o)) := fun o => hide ((Below.refl _ _).alloc (Nat.le_refl _) o)
     go_enter Tryz.func113, Tryz.ntmps113
     go_wp2_with fail
     refine (uh HC).mono ?_
     rintro e w1 ⟨rfl, h1⟩
     go_wp2_with fail
     go_ret
     exact ⟨rfl, hide ((uh (HB _)).trans ((uh h1).mono (uh (HB _)).size))⟩
   ·have HE : Hid (RES = false) := by show _ = _; rw [uh HR, decide_eq_false xL]; simp
    rw [uh HE]; clear HE HR
    have hl0 : ((m1 : Int) == (m2 : Int)) = false := by simp; omega
    have HB : ∀ o, Hid (Below w.heap.size w (w.alloc o)) := fun o => hide ((Below.refl _ _).alloc (Nat.le_refl _) o)
    go_enter Tryz.func113, Tryz.ntmps113
    go_wp2_with fail
    go_ret
    exact ⟨rfl, HB _⟩
  ·have HE : Hid (RES = false) := by show _ = _; rw [uh HR, decide_eq_false xT]; simp
   rw [uh HE]; clear HE HR
   have ht1 : (str t).toList.isEmpty = false := by rw [toList_str]; simpa [btE] using xT
   have ht2 : ((str t).toList == []) = false := by rw [toList_str]; simpa using xT
   clear xT
   have HB : ∀ o, Hid (Below w.heap.size w (w.alloc o)) := fun o => hide ((Below.refl _ _).alloc (Nat.le_refl _) o)
   go_enter Tryz.func113, Tryz.ntmps113
   go_wp2_with fail
   go_ret
   exact ⟨rfl, HB _⟩
 ·have HE : Hid (RES = false) := by show _ = _; rw [uh HR, show (n == 0) = false by simpa using xN]; simp
  rw [uh HE]; clear HE HR
  have hn0 : (n == 0) = false := by simpa using xN
  have HB : ∀ o, Hid (Below w.heap.size w (w.alloc o)) := fun o => hide ((Below.refl _ _).alloc (Nat.le_refl _) o)
  go_enter Tryz.func113, Tryz.ntmps113
  go_wp2_with fail
  go_ret
  exact ⟨rfl, HB _⟩
set_option maxHeartbeats 4000000 in
theorem isWFo (k n : Int) (t : List UInt8) (a1 a2 : Option Addr) (m1 c1 m2 c2 : Nat) (w : World) (h0 : (k == 0) = false) (h1 : (k == 1) = false) (h2 : (k == 2) = false) (h3 : (k == 3) = false) (h4 : (k == 4) = false) (h5 : (k == 5) = false) :
  Calls Tryz.prog 113 #[.agg #[.int .i64 k, .int .i64 n, .string (str t), .slice a1 m1 c1, .slice a2 m2 c2]] w fun e w' => e = .returned (.bool false) ∧ Hid (Below w.heap.size w w') := by
 have HB : ∀ o, Hid (Below w.heap.size w (w.alloc o)) := fun o => hide ((Below.refl _ _).alloc (Nat.le_refl _) o)
 go_enter Tryz.func113, Tryz.ntmps113
 go_wp2_with fail
 go_ret
 exact ⟨rfl, HB _⟩
theorem isWF_any (k n : Int) (t : List UInt8) (ns : List (List UInt8)) (is : List Js) (a1 : Option Addr) (c1 : Nat) (a2 : Option Addr) (c2 : Nat) (S : Nat → Prop) (w : World) (hT : Tb4 w) (h : NsF w S a1 ns) (hS : ∀ k, S k → k < w.heap.size) (hz : ∀ s ∈ ns, s.length ≤ 100000) (ht : t.length ≤ 100000) (hl : ns.length ≤ 100000) :
  Calls Tryz.prog 113 #[.agg #[.int .i64 k, .int .i64 n, .string (str t), .slice a1 ns.length c1, .slice a2 is.length c2]] w fun e w' => e = .returned (.bool (wfB (.mk k n t ns is))) ∧ Hid (Below w.heap.size w w') := by
 have hbA : ∀ o, Below w.heap.size w (w.alloc o) := fun o => (Below.refl _ _).alloc (Nat.le_refl _) o
 rw [wfB]
 by_cases k0 : k = 0
 ·subst k0
  rw [if_pos rfl, btE, nsE, jsE]
  exact isWF0 n t a1 a2 _ c1 _ c2 w
 rw [if_neg k0]
 by_cases k1 : k = 1
 ·subst k1
  rw [if_pos rfl, btE, nsE, jsE]
  exact isWF1 n t a1 a2 _ c1 _ c2 w
 rw [if_neg k1]
 by_cases k2 : k = 2
 ·subst k2
  rw [if_pos rfl, btE, nsE, jsE]
  exact isWF2 n t a1 a2 _ c1 _ c2 w
 rw [if_neg k2]
 by_cases k3 : k = 3
 ·subst k3
  rw [if_pos rfl, nsE, jsE]
  exact isWF3 n t a1 a2 _ c1 _ c2 _ w (hide (isWhole_any t _ (hT.below (hbA _)) (by omega)))
 rw [if_neg k3]
 by_cases k4 : k = 4
 ·subst k4
  rw [if_pos rfl, btE, nsE]
  exact isWF4 n t a1 a2 _ c1 _ c2 w
 rw [if_neg k4]
 by_cases k5 : k = 5
 ·subst k5
  rw [if_pos rfl, btE, allB, show (ns.length == is.length) = decide (ns.length = is.length) from rfl]
  refine isWF5 n t a1 a2 _ c1 _ c2 _ w (hide ?_)
  rw [Bool.not_not]
  exact con_br a1 c1 ns S _ (hT.below (hbA _)) (h.below (hbA _) hS) (fun k hk => by have := hS k hk; simp; omega) (fun s hs => by have := hz s hs; omega) (by omega)
 rw [if_neg k5]
 exact isWFo k n t a1 a2 _ c1 _ c2 w (by simpa using k0) (by simpa using k1) (by simpa using k2) (by simpa using k3) (by simpa using k4) (by simpa using k5)
end Go.Proofs.YtmpjeahibfdehaaGreatDoor
end
section
set_option linter.unusedVariables false
namespace Go.Proofs.YtmpjeahibfdehaaGreatDoor
open Go.RowKit

theorem un_ft2 (fit : Nat → Nat → Bool) : ∀ (k n : Nat) (l : List UInt8) (m : Nat) (r : List UInt8), unM fit (k + 1) n l = .ok m r → fit m m = true ∧ m < (n + 1) * 16 ^ (k + 1)
 | 0, n, l, m, r, h => by
  cases l with
  | nil => cases h
  | cons c l =>
   simp only [unM] at h
   cases hx : hxB c with
   | none => rw [hx] at h; cases h
   | some d =>
    have hd := hxB_lt c d hx
    rw [hx] at h
    simp only at h
    split at h
    ·rename_i hf
     simp only [Rs.ok.injEq] at h
     obtain ⟨rfl, rfl⟩ := h
     refine ⟨by simpa using hf, by omega⟩
    ·cases h
 | k + 1, n, l, m, r, h => by
  cases l with
  | nil => cases h
  | cons c l =>
   rw [unM] at h
   cases hx : hxB c with
   | none => rw [hx] at h; cases h
   | some d =>
    have hd := hxB_lt c d hx
    rw [hx] at h
    simp only at h
    split at h
    ·obtain ⟨h1, h2⟩ := un_ft2 fit k _ l m r h
     refine ⟨h1, Nat.lt_of_lt_of_le h2 ?_⟩
     rw [Nat.pow_succ 16 (k + 1), Nat.mul_comm (16 ^ (k + 1)) 16, ← Nat.mul_assoc]
     exact Nat.mul_le_mul_right _ (by omega)
    ·cases h
theorem hc_rune (l : List UInt8) (n : Nat) (r : List UInt8) (h : hcM l = .ok n r) : Rune n ∧ (enB n).length + r.length ≤ l.length := by
 unfold hcM at h
 cases h1 : unM fitH 4 0 l with
 | no r y => rw [h1] at h; cases h
 | ok hh r1 =>
  obtain ⟨f1, f2⟩ := un_ft2 fitH 3 0 l hh r1 h1
  have l1 := un_len _ _ _ _ _ _ h1
  have en3 : ∀ n, n < 65536 → (enB n).length ≤ 3 := by
   intro n hn
   unfold enB
   split
   ·simp
   ·split
    ·simp
    ·simp
  rw [h1] at h
  simp only at h
  split at h
  ·cases h2 : wdM [92, 117] r1 with
   | no r y => rw [h2] at h; cases h
   | ok u r2 =>
    have l2 := congrArg List.length (wd_len _ _ _ h2)
    rw [h2] at h
    simp only at h
    cases h3 : unM fitL 4 0 r2 with
    | no r y => rw [h3] at h; cases h
    | ok lo r3 =>
     obtain ⟨g1, g2⟩ := un_ft2 fitL 3 0 r2 lo r3 h3
     have l3 := un_len _ _ _ _ _ _ h3
     rw [h3] at h
     simp only [Rs.ok.injEq] at h
     obtain ⟨rfl, rfl⟩ := h
     have e1 := en_ne (65536 + (hh - 55296) * 1024 + (lo - 56320))
     unfold fitL at g1
     simp only [Bool.and_eq_true, decide_eq_true_eq] at g1
     simp only [List.length_append, List.length_cons, List.length_nil] at l2
     refine ⟨⟨by omega, by omega⟩, by omega⟩
  ·simp only [Rs.ok.injEq] at h
   obtain ⟨rfl, rfl⟩ := h
   have e1 := en3 hh (by omega)
   refine ⟨⟨by omega, ?_⟩, by omega⟩
   unfold fitH at f1
   simp only [Bool.not_eq_true', Bool.and_eq_false_iff, decide_eq_false_iff_not] at f1
   omega
theorem es_rune (l : List UInt8) (n : Nat) (r : List UInt8) (h : esM l = .ok n r) : Rune n ∧ (enB n).length + r.length ≤ l.length := by
 unfold esM at h
 cases h1 : tkM 92 l with
 | no r y => rw [h1] at h; cases h
 | ok u r1 =>
  have l1 := tk_len _ _ _ h1
  rw [h1] at h
  cases r1 with
  | nil => cases h
  | cons c r2 =>
   simp only at h
   split at h
   ·obtain ⟨k1, k2⟩ := hc_rune r2 n r h
    refine ⟨k1, ?_⟩
    rw [l1]
    simp only [List.length_cons]
    omega
   ·cases hv : escV c with
    | none => rw [hv] at h; cases h
    | some m =>
     rw [hv] at h
     simp only [Rs.ok.injEq] at h
     obtain ⟨rfl, rfl⟩ := h
     have hm : m < 128 := by
      unfold escV at hv
      repeat' (split at hv)
      all_goals first | (cases hv; decide) | cases hv
     have e1 : (enB m).length = 1 := by unfold enB; rw [if_pos hm]; rfl
     refine ⟨⟨by omega, by omega⟩, ?_⟩
     rw [e1, l1]
     simp only [List.length_cons]
     omega
theorem u8of {n : Nat} (h : n < 256) : (UInt8.ofNat n).toNat = n := by simp; omega
theorem chr_en (n : Nat) (h : Rune n) : chr (enB n) = none := by
 have key : d4 (enB n) = (n, (enB n).length) → (n, (enB n).length) ≠ (65533, 1) → chr (enB n) = none := by
  intro e1 e2
  rw [chr_go _ (en_ne n).1 (by rw [e1]; exact e2), e1]
  simp [chr_nil]
 obtain ⟨h1, h2⟩ := h
 unfold enB at key ⊢
 split
 ·rename_i c1
  rw [if_pos c1] at key
  refine key ?_ (by intro e; have := congrArg Prod.fst e; simp only at this; omega)
  unfold d4 Lib.decodeN
  simp only [List.getD_cons_zero, u8of (show n < 256 by omega)]
  rw [if_pos c1]
  rfl
 ·rename_i c1
  rw [if_neg c1] at key
  split
  ·rename_i c2
   rw [if_pos c2] at key
   refine key ?_ (by intro e; have := congrArg Prod.snd e; simp at this)
   unfold d4 Lib.decodeN
   simp only [List.getD_cons_zero, List.getD_cons_succ, List.length_cons, List.length_nil, u8of (show 192 + n / 64 < 256 by omega), u8of (show 128 + n % 64 < 256 by omega)]
   rw [if_neg (by omega), if_pos (by omega), if_pos (by omega)]
   apply Prod.ext <;> simp only <;> omega
  ·rename_i c2
   rw [if_neg c2] at key
   split
   ·rename_i c3
    rw [if_pos c3] at key
    refine key ?_ (by intro e; have := congrArg Prod.snd e; simp at this)
    unfold d4 Lib.decodeN
    simp only [List.getD_cons_zero, List.getD_cons_succ, List.length_cons, List.length_nil, u8of (show 224 + n / 4096 < 256 by omega), u8of (show 128 + n / 64 % 64 < 256 by omega), u8of (show 128 + n % 64 < 256 by omega)]
    rw [if_neg (by omega), if_neg (by omega), if_pos (by omega), if_pos (by omega)]
    apply Prod.ext <;> simp only <;> omega
   ·rename_i c3
    rw [if_neg c3] at key
    refine key ?_ (by intro e; have := congrArg Prod.snd e; simp at this)
    unfold d4 Lib.decodeN
    simp only [List.getD_cons_zero, List.getD_cons_succ, List.length_cons, List.length_nil, u8of (show 240 + n / 262144 < 256 by omega), u8of (show 128 + n / 4096 % 64 < 256 by omega), u8of (show 128 + n / 64 % 64 < 256 by omega), u8of (show 128 + n % 64 < 256 by omega)]
    rw [if_neg (by omega), if_neg (by omega), if_neg (by omega), if_pos (by omega), if_pos (by omega)]
    apply Prod.ext <;> simp only <;> omega
theorem chr_app {a b : List UInt8} (ha : chr a = none) (hb : chr b = none) : chr (a ++ b) = none := by rw [chr_none_append _ a b (Nat.le_refl _) ha, hb]; rfl
theorem chl_none : ∀ (l p q r : List UInt8), chL p l = .ok q r → chr q = none
 | [], p, q, r, h => by simp [chL] at h
 | c :: l, p, q, r, h => by
  simp only [chL] at h
  split at h
  ·split at h
   ·rename_i hc; simp only [Rs.ok.injEq] at h; rw [← h.1]; exact hc
   ·cases h
  ·exact chl_none l _ q r h
theorem uql_good : ∀ (f : Nat) (acc l t r : List UInt8), chr acc = none → uqL f acc l = .ok t r → chr t = none ∧ t.length + r.length ≤ acc.length + l.length
 | 0, acc, l, t, r, ha, h => by simp [uqL] at h
 | f + 1, acc, [], t, r, ha, h => by simp [uqL] at h
 | f + 1, acc, c :: l, t, r, ha, h => by
  simp only [uqL] at h
  split at h
  ·simp only [Rs.ok.injEq] at h; obtain ⟨rfl, rfl⟩ := h; exact ⟨ha, Nat.le_refl _⟩
  ·split at h
   ·cases h1 : esM (c :: l) with
    | no r y => rw [h1] at h; cases h
    | ok n r1 =>
     rw [h1] at h
     obtain ⟨k1, k2⟩ := es_rune _ _ _ h1
     obtain ⟨i1, i2⟩ := uql_good f _ r1 t r (chr_app ha (chr_en n k1)) h
     refine ⟨i1, ?_⟩
     rw [List.length_append] at i2
     omega
   ·split at h
    ·cases h
    ·cases h1 : chM (c :: l) with
     | no r y => rw [h1] at h; cases h
     | ok p r1 =>
      rw [h1] at h
      have k1 := chl_none _ _ _ _ h1
      obtain ⟨u, e1, e2, _⟩ := ch_len _ _ _ _ h1
      obtain ⟨i1, i2⟩ := uql_good f _ r1 t r (chr_app ha k1) h
      refine ⟨i1, ?_⟩
      rw [e1, List.length_append]
      rw [e2, List.nil_append, List.length_append] at i2
      omega
theorem uq_good (l t r : List UInt8) (h : uqM l = .ok t r) : chr t = none ∧ t.length ≤ l.length := by
 unfold uqM at h
 cases h1 : tkM 34 l with
 | no r y => rw [h1] at h; cases h
 | ok u r1 =>
  rw [h1] at h
  have e := congrArg List.length (tk_len _ _ _ h1)
  obtain ⟨k1, k2⟩ := uql_good _ [] r1 t r chr_nil h
  refine ⟨k1, ?_⟩
  simp only [List.length_nil, List.length_cons] at k2 e
  omega
theorem dgl_most (m : Nat) : ∀ (l : List UInt8) (n k : Nat) (r : List UInt8), 9 ≤ m → n ≤ m → dgL m n l = .ok k r → k ≤ m
 | [], n, k, r, h9, hn, h => by simp only [dgL, Rs.ok.injEq] at h; rw [← h.1]; exact hn
 | c :: l, n, k, r, h9, hn, h => by
  simp only [dgL] at h
  split at h
  ·rename_i hd
   split at h
   ·cases h
   ·unfold dgB4 at hd
    simp only [Bool.and_eq_true, decide_eq_true_eq] at hd
    exact dgl_most m l _ k r h9 (by omega) h
  ·simp only [Rs.ok.injEq] at h; rw [← h.1]; exact hn
theorem dgm_most (m : Nat) (h9 : 9 ≤ m) (l : List UInt8) (k : Nat) (r : List UInt8) (h : dgM m l = .ok k r) : k ≤ m := by
 unfold dgM at h
 split at h
 ·cases h
 ·split at h
  ·split at h
   ·simp only [Rs.ok.injEq] at h; omega
   ·split at h
    ·cases h
    ·simp only [Rs.ok.injEq] at h; omega
  ·split at h
   ·exact dgl_most m _ 0 k r h9 (by omega) h
   ·cases h
theorem nu_most (l : List UInt8) (k : Int) (r : List UInt8) (h : nuM l = .ok k r) : -9223372036854775808 ≤ k ∧ k ≤ 9223372036854775807 := by
 by_cases hn : nxI l = 45
 ·obtain ⟨r0, hr0⟩ : ∃ r0, l = 45 :: r0 := by
   cases l with
   | nil => simp [nxI] at hn
   | cons c r0 =>
    simp only [nxI] at hn
    exact ⟨r0, by rw [show c = 45 from UInt8.toNat_inj.1 (by show c.toNat = 45; omega)]⟩
  rw [nu_neg l r0 hr0] at h
  cases h1 : dgM 9223372036854775808 r0 with
  | no r y => rw [h1] at h; cases h
  | ok n r1 =>
   rw [h1] at h
   have := dgm_most _ (by omega) _ _ _ h1
   simp only at h
   split at h
   ·cases h
   ·simp only [Rs.ok.injEq] at h; rw [← h.1]; omega
 ·rw [nu_pos l hn] at h
  cases h1 : dgM 9223372036854775807 l with
  | no r y => rw [h1] at h; cases h
  | ok n r1 =>
   rw [h1] at h
   have := dgm_most _ (by omega) _ _ _ h1
   simp only at h
   split at h
   ·cases h
   ·simp only [Rs.ok.injEq] at h; rw [← h.1]; omega
/-- A value that can be, whose text has at most N bytes. -/
def Gd (n : Nat) (j : Js) : Prop := ck n j = 0 ∧ Sz j
theorem ckF_flat (C : Option (Js → Nat)) (k n : Int) (t : List UInt8) (h1 : ¬ (k = 4 ∨ k = 5)) (h2 : wfB (.mk k n t [] []) = true) : ckF C (.mk k n t [] []) = 0 := by
 rw [ckF_eq, if_neg (fun h => h1 h.1), if_neg (by rw [h2]; simp), if_neg (by simp)]
 cases C <;> rfl
theorem ck_flat (m : Nat) (k n : Int) (t : List UInt8) (h1 : ¬ (k = 4 ∨ k = 5)) (h2 : wfB (.mk k n t [] []) = true) : ck m (.mk k n t [] []) = 0 := by
 cases m with
 | zero => exact ckF_flat none k n t h1 h2
 | succ m => exact ckF_flat _ k n t h1 h2
theorem sz_flat (k n : Int) (t : List UInt8) (h1 : -9223372036854775808 ≤ n ∧ n ≤ 9223372036854775807) (h2 : t.length ≤ 100000) : Sz (.mk k n t [] []) := by
 simp only [Sz, Szs]
 exact ⟨h1, h2, by simp, by simp, (fun s hs => by cases hs), trivial⟩
def GdV (m : Nat) (V : List UInt8 → Rs Js) : Prop := ∀ l v r, l.length ≤ 65536 → V l = .ok v r → Gd m v
theorem li_good (m : Nat) (V : List UInt8 → Rs Js) (hV : GdV m V) (hL : VaL V) : ∀ (f : Nat) (acc : List Js) (l : List UInt8) (is : List Js) (r : List UInt8), l.length ≤ 65536 → (∀ x ∈ acc, Gd m x) → liL V f acc l = .ok is r → (∀ x ∈ is, Gd m x) ∧ is.length ≤ acc.length + f
 | 0, acc, l, is, r, hl, ha, h => by simp [liL] at h
 | f + 1, acc, l, is, r, hl, ha, h => by
  simp only [liL] at h
  cases h1 : V l with
  | no r y => rw [h1] at h; cases h
  | ok v r1 =>
   rw [h1] at h
   have g1 := hV l v r1 hl h1
   have e1 := hL l v r1 h1
   have e2 := skB_le r1
   have hacc : ∀ x ∈ acc ++ [v], Gd m x := fun x hx => by
    rcases List.mem_append.1 hx with hx | hx
    ·exact ha x hx
    ·rw [List.mem_singleton.1 hx]; exact g1
   simp only at h
   cases h2 : skB r1 with
   | nil =>
    rw [h2] at h
    simp only [Rs.ok.injEq] at h
    rw [← h.1]
    exact ⟨hacc, by rw [List.length_append]; simp⟩
   | cons c t =>
    rw [h2] at h e2
    simp only at h
    simp only [List.length_cons] at e2
    split at h
    ·have e3 := skB_le t
     obtain ⟨k1, k2⟩ := li_good m V hV hL f _ _ is r (by omega) hacc h
     refine ⟨k1, ?_⟩
     rw [List.length_append] at k2
     simp at k2
     omega
    ·simp only [Rs.ok.injEq] at h
     rw [← h.1]
     exact ⟨hacc, by rw [List.length_append]; simp⟩
theorem mb_good (m : Nat) (V : List UInt8 → Rs Js) (hV : GdV m V) (ns : List (List UInt8)) (l : List UInt8) (x : List UInt8 × Js) (r : List UInt8) (hl : l.length ≤ 65536) (h : mbM V ns l = .ok x r) : chr x.1 = none ∧ x.1.length ≤ 100000 ∧ x.1 ∉ ns ∧ Gd m x.2 := by
 unfold mbM at h
 cases h1 : uqM l with
 | no r y => rw [h1] at h; cases h
 | ok nm r1 =>
  rw [h1] at h
  obtain ⟨g1, g2⟩ := uq_good _ _ _ h1
  have e1 := (uq_len _ _ _ h1).2
  simp only at h
  split at h
  ·cases h
  ·rename_i hn
   cases h2 : tkM 34 r1 with
   | no r y => rw [h2] at h; cases h
   | ok u r2 =>
    have e2 := tk_le _ _ _ h2
    have e3 := skB_le r2
    rw [h2] at h
    simp only at h
    cases h3 : tkM 58 (skB r2) with
    | no r y => rw [h3] at h; cases h
    | ok u r3 =>
     have e4 := tk_le _ _ _ h3
     have e5 := skB_le r3
     rw [h3] at h
     simp only at h
     cases h4 : V (skB r3) with
     | no r y => rw [h4] at h; cases h
     | ok v r4 =>
      rw [h4] at h
      simp only [Rs.ok.injEq] at h
      rw [← h.1]
      exact ⟨g1, by simp only; omega, hn, hV _ _ _ (by omega) h4⟩
theorem ob_good (m : Nat) (V : List UInt8 → Rs Js) (hV : GdV m V) (hL : VaL V) : ∀ (f : Nat) (ns : List (List UInt8)) (is : List Js) (l : List UInt8) (x : List (List UInt8) × List Js) (r : List UInt8), l.length ≤ 65536 → ns.length = is.length → (∀ s ∈ ns, chr s = none ∧ s.length ≤ 100000) → ns.Nodup → (∀ x ∈ is, Gd m x) → obL V f ns is l = .ok x r → x.1.length = x.2.length ∧ (∀ s ∈ x.1, chr s = none ∧ s.length ≤ 100000) ∧ x.1.Nodup ∧ (∀ y ∈ x.2, Gd m y) ∧ x.2.length ≤ is.length + f
 | 0, ns, is, l, x, r, hl, h1, h2, h3, h4, h => by simp [obL] at h
 | f + 1, ns, is, l, x, r, hl, h1, h2, h3, h4, h => by
  simp only [obL] at h
  cases hm : mbM V ns l with
  | no r y => rw [hm] at h; cases h
  | ok nv r1 =>
   rw [hm] at h
   obtain ⟨g1, g2, g3, g4⟩ := mb_good m V hV ns l nv r1 hl hm
   have e1 := mb_len V hL ns l r1 nv hm
   have e2 := skB_le r1
   have k1 : (ns ++ [nv.1]).length = (is ++ [nv.2]).length := by simp [h1]
   have k2 : ∀ s ∈ ns ++ [nv.1], chr s = none ∧ s.length ≤ 100000 := fun s hs => by
    rcases List.mem_append.1 hs with hs | hs
    ·exact h2 s hs
    ·rw [List.mem_singleton.1 hs]; exact ⟨g1, g2⟩
   have k3 : (ns ++ [nv.1]).Nodup := by
    rw [List.nodup_append]
    refine ⟨h3, by simp, fun a ha b hb => ?_⟩
    rw [List.mem_singleton.1 hb]
    exact fun e => g3 (e ▸ ha)
   have k4 : ∀ x ∈ is ++ [nv.2], Gd m x := fun x hx => by
    rcases List.mem_append.1 hx with hx | hx
    ·exact h4 x hx
    ·rw [List.mem_singleton.1 hx]; exact g4
   simp only at h
   cases hs : skB r1 with
   | nil =>
    rw [hs] at h
    simp only [Rs.ok.injEq] at h
    rw [← h.1]
    exact ⟨k1, k2, k3, k4, by simp⟩
   | cons c t =>
    rw [hs] at h e2
    simp only at h
    simp only [List.length_cons] at e2
    split at h
    ·have e3 := skB_le t
     obtain ⟨i1, i2, i3, i4, i5⟩ := ob_good m V hV hL f _ _ _ x r (by omega) k1 k2 k3 k4 h
     refine ⟨i1, i2, i3, i4, ?_⟩
     rw [List.length_append] at i5
     simp at i5
     omega
    ·simp only [Rs.ok.injEq] at h
     rw [← h.1]
     exact ⟨k1, k2, k3, k4, by simp⟩
theorem mm_ok {α : Type} {cl : UInt8} {z : α} {L : List UInt8 → Rs α} {l : List UInt8} {x : α} {r : List UInt8} (h : mmM cl z L l = .ok x r) : x = z ∨ ∃ l1 r1, l1.length ≤ l.length ∧ L l1 = .ok x r1 := by
 have e1 := skB_le l
 unfold mmM at h
 have key : ∀ m : Rs α, (∀ x r, m = .ok x r → x = z ∨ ∃ l1 r1, l1.length ≤ l.length ∧ L l1 = .ok x r1) → (match m with | .no r y => (Rs.no r y : Rs α) | .ok a r => match tkM cl r with | .no r2 y => .no r2 y | .ok _ r2 => .ok a r2) = .ok x r → x = z ∨ ∃ l1 r1, l1.length ≤ l.length ∧ L l1 = .ok x r1 := by
  intro m hm hh
  cases m with
  | no r y => cases hh
  | ok a r1 =>
   simp only at hh
   split at hh
   ·cases hh
   ·simp only [Rs.ok.injEq] at hh
    rw [← hh.1]
    exact hm a r1 rfl
 refine key _ ?_ h
 intro x r hx
 cases hs : skB l with
 | nil => rw [hs] at hx; exact .inr ⟨_, _, by simp, hx⟩
 | cons c t =>
  rw [hs] at hx e1
  simp only at hx
  split at hx
  ·simp only [Rs.ok.injEq] at hx; exact .inl hx.1.symm
  ·exact .inr ⟨_, _, e1, hx⟩
theorem va_good (n : Nat) (V : Option (List UInt8 → Rs Js)) (hV : ∀ Vf, V = some Vf → ∃ m, n = m + 1 ∧ GdV m Vf ∧ VaL Vf) : GdV n (vaF V) := by
 intro l v r hl h
 cases l with
 | nil => simp [vaF] at h
 | cons c l =>
  unfold vaF at h
  simp only at h
  simp only [List.length_cons] at hl
  split at h
  ·cases V with
   | none => cases h
   | some Vf =>
    obtain ⟨m, rfl, hg, hL⟩ := hV Vf rfl
    simp only at h
    split at h
    ·cases h
    ·rename_i x r2 hx
     simp only [Rs.ok.injEq] at h
     rw [← h.1]
     have key : x.1.length = x.2.length ∧ (∀ s ∈ x.1, chr s = none ∧ s.length ≤ 100000) ∧ x.1.Nodup ∧ (∀ y ∈ x.2, Gd m y) ∧ x.2.length ≤ 65537 := by
      rcases mm_ok hx with rfl | ⟨l1, r1, k1, k2⟩
      ·exact ⟨rfl, (fun s hs => by cases hs), List.nodup_nil, (fun s hs => by cases hs), by simp⟩
      ·obtain ⟨i1, i2, i3, i4, i5⟩ := ob_good m Vf hg hL _ [] [] l1 x r1 (by omega) rfl (fun s hs => by cases hs) List.nodup_nil (fun s hs => by cases hs) k2
       exact ⟨i1, i2, i3, i4, by simp at i5; omega⟩
     obtain ⟨i1, i2, i3, i4, i5⟩ := key
     refine ⟨?_, ?_⟩
     ·show ckF (some (ck m)) _ = 0
      rw [ckF_eq, if_neg (by simp), if_neg, if_neg (by simpa using i3)]
      ·exact fsE_zero.2 (fun j hj => (i4 j hj).1)
      ·rw [wfB]
       simp [i1]
       exact fun s hs => (i2 s hs).1
     ·simp only [Sz]
      exact ⟨by omega, by simp, by omega, by omega, fun s hs => (i2 s hs).2, (szs_iff _).2 (fun j hj => (i4 j hj).2)⟩
  ·split at h
   ·cases V with
    | none => cases h
    | some Vf =>
     obtain ⟨m, rfl, hg, hL⟩ := hV Vf rfl
     simp only at h
     split at h
     ·cases h
     ·rename_i x r2 hx
      simp only [Rs.ok.injEq] at h
      rw [← h.1]
      have key : (∀ y ∈ x, Gd m y) ∧ x.length ≤ 65537 := by
       rcases mm_ok hx with rfl | ⟨l1, r1, k1, k2⟩
       ·exact ⟨(fun s hs => by cases hs), by simp⟩
       ·obtain ⟨i1, i2⟩ := li_good m Vf hg hL _ [] l1 x r1 (by omega) (fun s hs => by cases hs) k2
        exact ⟨i1, by simp at i2; omega⟩
      obtain ⟨i1, i2⟩ := key
      refine ⟨?_, ?_⟩
      ·show ckF (some (ck m)) _ = 0
       rw [ckF_eq, if_neg (by simp), if_neg (by rw [wfB]; simp), if_neg (by simp)]
       exact fsE_zero.2 (fun j hj => (i1 j hj).1)
      ·simp only [Sz]
       exact ⟨by omega, by simp, by simp, by omega, (fun s hs => by cases hs), (szs_iff _).2 (fun j hj => (i1 j hj).2)⟩
   ·split at h
    ·split at h
     ·cases h
     ·rename_i t r2 hx
      obtain ⟨g1, g2⟩ := uq_good _ _ _ hx
      simp only [List.length_cons] at g2
      split at h
      ·cases h
      ·simp only [Rs.ok.injEq] at h
       rw [← h.1]
       exact ⟨ck_flat n 3 0 t (by omega) (by rw [wfB]; simp [g1]), sz_flat 3 0 t (by omega) (by omega)⟩
    ·split at h
     ·split at h
      ·cases h
      ·rename_i k r2 hx
       simp only [Rs.ok.injEq] at h
       rw [← h.1]
       exact ⟨ck_flat n 2 k [] (by omega) (by rw [wfB]; simp), sz_flat 2 k [] (nu_most _ _ _ hx) (by simp)⟩
     ·split at h
      ·split at h
       ·cases h
       ·simp only [Rs.ok.injEq] at h
        rw [← h.1]
        exact ⟨ck_flat n 1 1 [] (by omega) (by decide), sz_flat 1 1 [] (by omega) (by simp)⟩
      ·split at h
       ·split at h
        ·cases h
        ·simp only [Rs.ok.injEq] at h
         rw [← h.1]
         exact ⟨ck_flat n 1 0 [] (by omega) (by decide), sz_flat 1 0 [] (by omega) (by simp)⟩
       ·split at h
        ·split at h
         ·cases h
         ·simp only [Rs.ok.injEq] at h
          rw [← h.1]
          exact ⟨ck_flat n 0 0 [] (by omega) (by decide), sz_flat 0 0 [] (by omega) (by simp)⟩
        ·cases h
theorem vaM_good : ∀ n, GdV n (vaM n)
 | 0 => va_good 0 none (fun _ e => by cases e)
 | n + 1 => va_good (n + 1) (some (vaM n)) (fun Vf e => by cases e; exact ⟨n, rfl, vaM_good n, va_len n⟩)
theorem sz_nul : Sz Js.nul := sz_flat 0 0 [] (by omega) (by simp)
theorem ck_nul (n : Nat) : ck n Js.nul = 0 := ck_flat n 0 0 [] (by omega) (by decide)
/-- What is read can be. -/
theorem psM_good (s : List UInt8) : Gd 16 (psM s).1 := by
 unfold psM
 split
 ·exact ⟨ck_nul 16, sz_nul⟩
 ·rename_i hl
  have e := skB_le s
  cases h1 : vaM 16 (skB s) with
  | no r y => exact ⟨ck_nul 16, sz_nul⟩
  | ok v r =>
   simp only
   cases h2 : skB r with
   | nil => exact vaM_good 16 _ _ _ (by omega) h1
   | cons c t => exact ⟨ck_nul 16, sz_nul⟩
end Go.Proofs.YtmpjeahibfdehaaGreatDoor
end
section
set_option linter.unusedVariables false
set_option maxRecDepth 1000000
namespace Go.Proofs.YtmpjeahibfdehaaGreatDoor
open Go.RowKit Go.Extern.Stop Go.Stop Go.Extern

end Go.Proofs.YtmpjeahibfdehaaGreatDoor
end
