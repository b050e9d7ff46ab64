/-
  jsonx's printer and Check as mathematics.; jsonx: names of which one is broken.; jsonx: isWellFormed.; jsonx's parser as mathematics: what is read can be, and is no greater than its text.; jsonx: the document's machine that goes through a text byte by byte, as mathematics.; jsonx: which bytes the document's machine takes for the beginning of a character.
-/
import Derived.Test.YtbnbngmnoffmkaaGreatDoorPkJsesav
import Derived.Lib.ItoaNum
import Derived.Test.YtbnbngmnoffmkaaGreatDoorPkJsesat
section
set_option linter.unusedVariables false
namespace Go.Proofs.YtbnbngmnoffmkaaGreatDoor
open Go.RowKit

/-! ### Places by rising names -/
def nmA (ns : List (List UInt8)) (i : Nat) : List UInt8 := ns.getD i []
def leN (ns : List (List UInt8)) (i j : Nat) : Prop := ¬ nmA ns j < nmA ns i
def RisO (ns : List (List UInt8)) (o : List Nat) : Prop := o.Perm (List.range ns.length) ∧ o.Pairwise (leN ns)
def insO (ns : List (List UInt8)) (i : Nat) : List Nat → List Nat
 | [] => [i]
 | j :: r => if nmA ns j < nmA ns i then j :: insO ns i r else i :: j :: r
theorem insO_perm (ns : List (List UInt8)) (i : Nat) : ∀ o : List Nat, (insO ns i o).Perm (i :: o)
 | [] => List.Perm.refl _
 | j :: r => by
  unfold insO
  split
  ·exact ((insO_perm ns i r).cons j).trans (List.Perm.swap i j r)
  ·exact List.Perm.refl _
theorem leN_trans {ns : List (List UInt8)} {i j k : Nat} (h1 : leN ns i j) (h2 : leN ns j k) : leN ns i k := by
 unfold leN at *
 rw [List.not_lt] at *
 exact List.le_trans h1 h2
theorem insO_pw (ns : List (List UInt8)) (i : Nat) : ∀ o : List Nat, o.Pairwise (leN ns) → (insO ns i o).Pairwise (leN ns)
 | [], _ => List.pairwise_singleton _ _
 | j :: r, h => by
  unfold insO
  rw [List.pairwise_cons] at h
  split
  ·rename_i hlt
   rw [List.pairwise_cons]
   refine ⟨fun x hx => ?_, insO_pw ns i r h.2⟩
   rcases List.mem_cons.1 ((insO_perm ns i r).mem_iff.1 hx) with rfl | hx
   ·unfold leN; exact fun e => List.lt_irrefl _ (List.lt_trans hlt e)
   ·exact h.1 x hx
  ·rename_i hge
   rw [List.pairwise_cons, List.pairwise_cons]
   refine ⟨fun x hx => ?_, h⟩
   rcases List.mem_cons.1 hx with rfl | hx
   ·exact hge
   ·exact leN_trans hge (h.1 x hx)
def ordL (ns : List (List UInt8)) : List Nat → List Nat
 | [] => []
 | i :: r => insO ns i (ordL ns r)
theorem ordL_perm (ns : List (List UInt8)) : ∀ l : List Nat, (ordL ns l).Perm l
 | [] => List.Perm.refl _
 | i :: r => (insO_perm ns i _).trans ((ordL_perm ns r).cons i)
theorem ordL_pw (ns : List (List UInt8)) : ∀ l : List Nat, (ordL ns l).Pairwise (leN ns)
 | [] => List.Pairwise.nil
 | i :: r => insO_pw ns i _ (ordL_pw ns r)
/-- The places of names, by their names. -/
def ordS (ns : List (List UInt8)) : List Nat := ordL ns (List.range ns.length)
theorem ordS_ris (ns : List (List UInt8)) : RisO ns (ordS ns) := ⟨ordL_perm _ _, ordL_pw _ _⟩
theorem RisO.lt {ns : List (List UInt8)} {o : List Nat} (h : RisO ns o) : ∀ i ∈ o, i < ns.length := fun i hi => List.mem_range.1 (h.1.mem_iff.1 hi)
theorem RisO.len {ns : List (List UInt8)} {o : List Nat} (h : RisO ns o) : o.length = ns.length := by rw [h.1.length_eq, List.length_range]
theorem nmA_get {ns : List (List UInt8)} {i : Nat} (h : i < ns.length) : nmA ns i = ns[i] := by
 unfold nmA
 rw [List.getD_eq_getElem?_getD, List.getElem?_eq_getElem h]
 rfl
theorem nmA_inj {ns : List (List UInt8)} (nd : ns.Nodup) {i j : Nat} (hi : i < ns.length) (hj : j < ns.length) (e : nmA ns i = nmA ns j) : i = j := by
 rw [nmA_get hi, nmA_get hj] at e
 rcases Nat.lt_trichotomy i j with h | h | h
 ·exact absurd e (List.pairwise_iff_getElem.1 nd i j hi hj h)
 ·exact h
 ·exact absurd e.symm (List.pairwise_iff_getElem.1 nd j i hj hi h)
theorem RisO.eq {ns : List (List UInt8)} (nd : ns.Nodup) {o p : List Nat} (h : RisO ns o) (k : RisO ns p) : o = p := by
 refine List.Perm.eq_of_pairwise (le := leN ns) (fun a b ha hb h1 h2 => ?_) h.2 k.2 (h.1.trans k.1.symm)
 unfold leN at h1 h2
 rw [List.not_lt] at h1 h2
 exact nmA_inj nd (h.lt a ha) (k.lt b hb) (List.le_antisymm h1 h2)
theorem map_nmA (ns : List (List UInt8)) : (List.range ns.length).map (nmA ns) = ns := by
 apply List.ext_getElem?
 intro i
 by_cases h : i < ns.length
 ·rw [List.getElem?_map, List.getElem?_range h, List.getElem?_eq_getElem h]
  simp [nmA_get h]
 ·rw [List.getElem?_eq_none (by simp; omega), List.getElem?_eq_none (by omega)]
/-- Are two neighbours alike? -/
def twA (ns : List (List UInt8)) : List Nat → Bool
 | a :: b :: r => nmA ns a == nmA ns b || twA ns (b :: r)
 | _ => false
theorem twA_pw (ns : List (List UInt8)) : ∀ o : List Nat, o.Pairwise (leN ns) → (twA ns o = false ↔ (o.map (nmA ns)).Nodup)
 | [], _ => by simp [twA]
 | [a], _ => by simp [twA]
 | a :: b :: r, h => by
  rw [List.pairwise_cons] at h
  have ih := twA_pw ns (b :: r) h.2
  unfold twA
  rw [Bool.or_eq_false_iff, ih, show (a :: b :: r).map (nmA ns) = nmA ns a :: (b :: r).map (nmA ns) from rfl, List.nodup_cons (a := nmA ns a)]
  constructor
  ·rintro ⟨h1, h2⟩
   refine ⟨fun hm => ?_, h2⟩
   have hab : ¬ nmA ns a = nmA ns b := by simpa using h1
   rw [List.map_cons] at hm
   rcases List.mem_cons.1 hm with e | e
   ·exact hab e
   ·obtain ⟨c, hc, e⟩ := List.mem_map.1 e
    have k1 := h.1 b (List.mem_cons_self)
    have k2 := (List.pairwise_cons.1 h.2).1 c hc
    unfold leN at k1 k2
    rw [List.not_lt] at k1 k2
    rw [e] at k2
    exact hab (List.le_antisymm k1 k2)
  ·rintro ⟨h1, h2⟩
   refine ⟨?_, h2⟩
   have : nmA ns a ≠ nmA ns b := fun e => h1 (by rw [e, List.map_cons]; exact List.mem_cons_self)
   simpa using this
theorem tw_iff {ns : List (List UInt8)} {o : List Nat} (h : RisO ns o) : twA ns o = !decide ns.Nodup := by
 have e : (o.map (nmA ns)).Perm ns := by
  have := h.1.map (nmA ns)
  rw [map_nmA] at this
  exact this
 have k := twA_pw ns o h.2
 rw [e.nodup_iff] at k
 by_cases hn : ns.Nodup
 ·rw [k.2 hn, decide_eq_true hn]; rfl
 ·rw [decide_eq_false hn]
  cases ht : twA ns o with
  | true => rfl
  | false => exact absurd (k.1 ht) hn
/-! ### Check -/
def wfB : Js → Bool
 | .mk k n t ns is =>
  if k = 0 then n == 0 && t.isEmpty && ns.isEmpty && is.isEmpty
  else if k = 1 then (n == 0 || n == 1) && t.isEmpty && ns.isEmpty && is.isEmpty
  else if k = 2 then t.isEmpty && ns.isEmpty && is.isEmpty
  else if k = 3 then n == 0 && decide (chr t = none) && ns.isEmpty && is.isEmpty
  else if k = 4 then n == 0 && t.isEmpty && ns.isEmpty
  else if k = 5 then n == 0 && t.isEmpty && ns.length == is.length && ns.all (fun s => decide (chr s = none))
  else false
def fsE (C : Js → Nat) : List Js → Nat
 | [] => 0
 | j :: r => if C j = 0 then fsE C r else C j
def ckF (C : Option (Js → Nat)) : Js → Nat
 | .mk k n t ns is => if (k = 4 ∨ k = 5) ∧ C.isNone = true then 41 else if wfB (.mk k n t ns is) = false then 1 else if ¬ ns.Nodup then 43 else match C with | none => 0 | some C => fsE C is
theorem ckF_eq (C : Option (Js → Nat)) (k n : Int) (t : List UInt8) (ns : List (List UInt8)) (is : List Js) : ckF C (.mk k n t ns is) = if (k = 4 ∨ k = 5) ∧ C.isNone = true then 41 else if wfB (.mk k n t ns is) = false then 1 else if ¬ ns.Nodup then 43 else match C with | none => 0 | some C => fsE C is := rfl
/-- Check of a value in which so many lists and objects may still stand. -/
def ck : Nat → Js → Nat
 | 0, j => ckF none j
 | n + 1, j => ckF (some (ck n)) j
theorem fsE_zero {C : Js → Nat} : ∀ {l : List Js}, fsE C l = 0 ↔ ∀ j ∈ l, C j = 0
 | [] => by simp [fsE]
 | j :: r => by
  unfold fsE
  split
  ·rename_i h; rw [fsE_zero]; simp [h]
  ·rename_i h; simp [h]
/-! ### Print -/
def qtA (s : List UInt8) : List UInt8 := s.flatMap qcB
def quo (s : List UInt8) : List UInt8 := [34] ++ qtA s ++ [34]
/-- Pieces with commas between them. -/
def joF : Bool → List (List UInt8) → List UInt8
 | _, [] => []
 | f, x :: r => (if f then [] else [44]) ++ x ++ joF false r
def memP (P : Js → List UInt8) (ns : List (List UInt8)) (is : List Js) (i : Nat) : List UInt8 := quo (nmA ns i) ++ [58] ++ P (is.getD i Js.nul)
def prF (P : Js → List UInt8) : Js → List UInt8
 | .mk k n t ns is =>
  if k = 0 then [110, 117, 108, 108]
  else if k = 1 then (if n = 1 then [116, 114, 117, 101] else [102, 97, 108, 115, 101])
  else if k = 2 then Lib.itoa n
  else if k = 3 then quo t
  else if k = 4 then [91] ++ joF true (is.map P) ++ [93]
  else if k = 5 then [123] ++ joF true ((ordS ns).map (memP P ns is)) ++ [125]
  else []
def prN : Nat → Js → List UInt8
 | 0, j => prF (fun _ => []) j
 | n + 1, j => prF (prN n) j
def prM (j : Js) : List UInt8 × Nat := if ck 16 j ≠ 0 then ([], ck 16 j) else if 65536 < (prN 16 j).length then ([], 4) else (prN 16 j, 0)
theorem joF_snoc (x : List UInt8) : ∀ (l : List (List UInt8)) (f : Bool), joF f (l ++ [x]) = joF f l ++ (if f && l.isEmpty then [] else [44]) ++ x
 | [], f => by cases f <;> simp [joF]
 | y :: r, f => by
  rw [List.cons_append, joF, joF, joF_snoc x r false]
  simp
theorem joF_take (xs : List (List UInt8)) (i : Nat) (x : List UInt8) (h : xs[i]? = some x) : joF true (xs.take (i + 1)) = joF true (xs.take i) ++ (if i = 0 then [] else [44]) ++ x := by
 have hlt := (List.getElem?_eq_some_iff.1 h).1
 have e : xs.take (i + 1) = xs.take i ++ [x] := by rw [List.take_add_one, h]; rfl
 rw [e, joF_snoc]
 congr 2
 cases i with
 | zero => simp
 | succ i =>
  have : (xs.take (i + 1)).isEmpty = false := by
   cases xs with
   | nil => simp at hlt
   | cons y r => rfl
  simp [this]
theorem joF_le (xs : List (List UInt8)) (i : Nat) : (joF true (xs.take i)).length ≤ (joF true xs).length := by
 have key : ∀ (l r : List (List UInt8)) (f : Bool), (joF f l).length ≤ (joF f (l ++ r)).length := by
  intro l
  induction l with
  | nil => intro r f; simp [joF]
  | cons y l ih => intro r f; rw [List.cons_append, joF, joF]; simp only [List.length_append]; have := ih r false; omega
 have := key (xs.take i) (xs.drop i) true
 rwa [List.take_append_drop] at this
/-! ### What is printed, up to too much -/
def Lk (x y : List UInt8) : Prop := x = y ∨ (65536 < x.length ∧ 65536 < y.length)
theorem Lk.refl (x : List UInt8) : Lk x x := .inl rfl
theorem Lk.trans {x y z : List UInt8} (h : Lk x y) (k : Lk y z) : Lk x z := by
 rcases h with rfl | h
 ·exact k
 ·rcases k with rfl | k
  ·exact .inr h
  ·exact .inr ⟨h.1, k.2⟩
theorem Lk.app {x y : List UInt8} (h : Lk x y) (s : List UInt8) : Lk (x ++ s) (y ++ s) := by
 rcases h with rfl | h
 ·exact .inl rfl
 ·exact .inr ⟨by rw [List.length_append]; omega, by rw [List.length_append]; omega⟩
theorem Lk.full {x y z : List UInt8} (h : Lk x y) (hx : 65536 < x.length) (hz : y.length ≤ z.length) : Lk x z := by
 rcases h with rfl | h
 ·exact .inr ⟨hx, by omega⟩
 ·exact .inr ⟨hx, by omega⟩
theorem qtL_lk : ∀ (s acc : List UInt8), Lk (qtL acc s) (acc ++ qtA s)
 | [], acc => by simp [qtL, qtA]; exact Lk.refl _
 | c :: r, acc => by
  unfold qtL
  split
  ·rename_i h
   exact Lk.full (Lk.refl _) h (by rw [List.length_append]; omega)
  ·have := qtL_lk r (acc ++ qcB c)
   rw [List.append_assoc] at this
   exact this
theorem qtL_len : ∀ (s acc : List UInt8), (qtL acc s).length ≤ max acc.length 65536 + 6
 | [], acc => by simp [qtL]; omega
 | c :: r, acc => by
  unfold qtL
  split
  ·omega
  ·have := qtL_len r (acc ++ qcB c)
   have h2 := qc_len c
   rw [List.length_append] at this
   rename_i h
   by_cases h3 : acc.length + (qcB c).length ≤ 65536
   ·omega
   ·have h4 : qtL (acc ++ qcB c) r = acc ++ qcB c := by
     cases r with
     | nil => rfl
     | cons d r => unfold qtL; rw [if_pos (by rw [List.length_append]; omega)]
    rw [h4, List.length_append]
    omega
theorem quo_lk (l s : List UInt8) : Lk (qtL (l ++ [34]) s ++ [34]) (l ++ quo s) := by
 have := (qtL_lk s (l ++ [34])).app [34]
 unfold quo
 simpa [List.append_assoc] using this
theorem quo_len (l s : List UInt8) : (qtL (l ++ [34]) s ++ [34]).length ≤ max l.length 65536 + 8 := by
 have := qtL_len s (l ++ [34])
 rw [List.length_append] at *
 simp at *
 omega
/-! ### Sizes -/
mutual
def Sz : Js → Prop
 | .mk k n t ns is => (-9223372036854775808 ≤ n ∧ n ≤ 9223372036854775807) ∧ t.length ≤ 100000 ∧ ns.length ≤ 100000 ∧ is.length ≤ 100000 ∧ (∀ s ∈ ns, s.length ≤ 100000) ∧ Szs is
def Szs : List Js → Prop
 | [] => True
 | j :: r => Sz j ∧ Szs r
end
theorem szs_iff : ∀ l : List Js, Szs l ↔ ∀ j ∈ l, Sz j
 | [] => by simp [Szs]
 | j :: r => by simp [Szs, szs_iff r]
#print axioms szs_iff
end Go.Proofs.YtbnbngmnoffmkaaGreatDoor
end
section
set_option linter.unusedVariables false
set_option maxRecDepth 1000000
namespace Go.Proofs.YtbnbngmnoffmkaaGreatDoor
open Go.RowKit

theorem NsF.below {w w' : World} {S : Nat → Prop} {a : Option Addr} {l : List (List UInt8)} (h : NsF w S a l) {B : Nat} (hb : Below B w w') (hS : ∀ k, S k → k < B) : NsF w' S a l := h.keep (fun k hk => ⟨hk, hb.block k (hS k hk)⟩)
theorem cells5 {u : World} {V : Nat} {x0 x1 x2 x3 x4 : Value} {T : TypeId} {m : Nat × Nat} (h : u.heap[V]? = some (.cells #[x0, x1, x2, x3, x4] T m)) : u.cell? ⟨V, 0, none⟩ = some x0 ∧ u.cell? ⟨V, 1, none⟩ = some x1 ∧ u.cell? ⟨V, 2, none⟩ = some x2 ∧ u.cell? ⟨V, 3, none⟩ = some x3 ∧ u.cell? ⟨V, 4, none⟩ = some x4 :=
 ⟨cell_of_row _ _ _ _ _ _ h, cell_of_row _ _ _ _ _ _ h, cell_of_row _ _ _ _ _ _ h, cell_of_row _ _ _ _ _ _ h, cell_of_row _ _ _ _ _ _ h⟩
theorem bdr4 {B : Nat} {w0 w : World} (h : Below B w0 w) : ∀ n : Nat, Below B w0 (w.drewN n)
 | 0 => h
 | n + 1 => ⟨(bdr4 h n).os, (bdr4 h n).tape, (bdr4 h n).output, (bdr4 h n).size, (bdr4 h n).block⟩
/-- A text that is not whole characters. -/
def brB (s : List UInt8) : Bool := !decide (chr s = none)
set_option maxHeartbeats 4000000 in
theorem idx_br (p : Option Addr) (cp : Nat) (L : List (List UInt8)) (S : Nat → Prop) (w : World) (hT : Tb4 w) (h : NsF w S p L) (hS : ∀ k, S k → k < w.heap.size) (hz : ∀ s ∈ L, s.length ≤ 300000) (hl : L.length ≤ 1000001) :
  Calls Tryz.prog 108 #[.slice p L.length cp, .func (.func 88) #[] #[]] w fun e w' => ∃ r : Int, e = .returned (.int .i64 r) ∧ Hid (Below w.heap.size w w') ∧ Hid (decide (0 ≤ r) = L.any brB) := by
 have HS := hide h
 have HSS := hide hS
 have HZ := hide hz
 have HT := hide hT
 clear h hS hz hT
 go_enter Tryz.func108, Tryz.ntmps108
 go_wp2
 go_loopw [8] (fun v wr => ∃ i : Nat, i ≤ L.length ∧ v = .int .i64 (i : Int) ∧ Hid (∀ j t, j < i → L[j]? = some t → brB t = false) ∧ Hid (Below w.heap.size w wr)) (fun v _ => L.length - (intOf v).toNat)
 case atStart => exact ⟨0, Nat.zero_le _, rfl, (fun j t hj => by omega), Below.refl _ _⟩
 case round =>
  obtain ⟨i, hi, rfl, hno, hb⟩ := hrel
  by_cases hlt : i < L.length
  ·obtain ⟨s, hs⟩ : ∃ s, L[i]? = some s := ⟨_, List.getElem?_eq_getElem hlt⟩
   obtain ⟨b, off, hpe, _, hcc⟩ := ((unhide HS).below (unhide hb) (unhide HSS)) (by intro e; subst e; simp at hs)
   subst hpe
   have c0 := hcc i s hs
   have HSx := hide hs
   have hsl := unhide HZ s (List.mem_of_getElem? hs)
   have hi2 : (i : Int) < (L.length : Int) := by omega
   have HTr : Hid (Tb4 wr) := (unhide HT).below (unhide hb)
   clear hs hcc
   cases hk : brB s with
   | true =>
    have HK := hide hk
    have HN1 : Hid (Calls Tryz.prog 88 #[.string (str s)] wr fun e w' => e = .returned (.bool true) ∧ Hid (Below wr.heap.size wr w')) := by show Calls _ _ _ _ _; rw [← hk]; exact isBroken_any s wr (unhide HTr) hsl
    clear hk
    go_wp2_with (go_at_call 88; refine (unhide HN1).mono ?_; rintro e w2 ⟨rfl, hb2⟩)
    go_ret
    refine ⟨(i : Int), rfl, hb.out.trans (hb2.out.mono hb.out.size), ?_⟩
    show decide (0 ≤ (i : Int)) = _
    rw [decide_eq_true (by omega)]
    exact (List.any_eq_true.2 ⟨s, List.mem_of_getElem? (unhide HSx), unhide HK⟩).symm
   | false =>
    have HK := hide hk
    have HN1 : Hid (Calls Tryz.prog 88 #[.string (str s)] wr fun e w' => e = .returned (.bool false) ∧ Hid (Below wr.heap.size wr w')) := by show Calls _ _ _ _ _; rw [← hk]; exact isBroken_any s wr (unhide HTr) hsl
    clear hk
    have HN2 : Hid (∀ j t, j < i + 1 → L[j]? = some t → brB t = false) := by
     intro j t hj ht
     by_cases e : j = i
     ·subst e
      rw [unhide HSx] at ht
      cases ht
      exact unhide HK
     ·exact unhide hno j t (by omega) ht
    go_wp2_with (go_at_call 88; refine (unhide HN1).mono ?_; rintro e w2 ⟨rfl, hb2⟩)
    have HB2 := hide (hb.out.trans (hb2.out.mono hb.out.size))
    go_roundw
    case rel => exact ⟨i + 1, by omega, by go_num, HN2, HB2⟩
    case measure => simp [intOf]; omega
  ·obtain rfl : i = L.length := by omega
   have hlt' : ¬ (L.length : Int) < (L.length : Int) := by omega
   have HA : Hid (L.any brB = false) := by
    show _ = _
    rw [List.any_eq_false]
    intro x hx
    obtain ⟨j, hj, e⟩ := List.mem_iff_getElem.1 hx
    have := unhide hno j x hj (by rw [List.getElem?_eq_getElem hj, e])
    rw [this]; decide
   clear hlt
   go_wp2
   go_ret
   refine ⟨-1, rfl, hb, ?_⟩
   show _ = _
   rw [unhide HA]; rfl
set_option maxHeartbeats 1000000 in
theorem con_br (p : Option Addr) (cp : Nat) (L : List (List UInt8)) (S : Nat → Prop) (w : World) (hT : Tb4 w) (h : NsF w S p L) (hS : ∀ k, S k → k < w.heap.size) (hz : ∀ s ∈ L, s.length ≤ 300000) (hl : L.length ≤ 1000001) :
  Calls Tryz.prog 87 #[.slice p L.length cp, .func (.func 88) #[] #[]] w fun e w' => e = .returned (.bool (L.any brB)) ∧ Hid (Below w.heap.size w w') := by
 have HX := hide (idx_br p cp L S w hT h hS hz hl)
 clear h hS hT hz
 go_enter Tryz.func87, Tryz.ntmps87
 go_wp2_with (go_at_call 108; refine (unhide HX).mono ?_; rintro e w2 ⟨r, rfl, HB2, HR⟩)
 go_ret
 refine ⟨?_, HB2⟩
 rw [← HR.out]
 rfl
#print axioms con_br
end Go.Proofs.YtbnbngmnoffmkaaGreatDoor
end
section
set_option linter.unusedVariables false
set_option maxRecDepth 1000000
namespace Go.Proofs.YtbnbngmnoffmkaaGreatDoor
open Go.RowKit

theorem nsE (l : List (List UInt8)) : l.isEmpty = decide (l.length = 0) := by cases l <;> simp
theorem jsE (l : List Js) : l.isEmpty = decide (l.length = 0) := by cases l <;> simp
theorem btE (l : List UInt8) : l.isEmpty = decide (l = []) := by cases l <;> simp
theorem allB (l : List (List UInt8)) : l.all (fun s => decide (chr s = none)) = !l.any brB := by
 induction l with
 | nil => rfl
 | cons x r ih => simp only [List.all_cons, List.any_cons, ih, brB, Bool.not_or, Bool.not_not]

set_option maxHeartbeats 4000000 in
theorem isWF0 (n : Int) (t : List UInt8) (a1 a2 : Option Addr) (m1 c1 m2 c2 : Nat) (w : World) :
  Calls Tryz.prog 59 #[.agg #[.int .i64 0, .int .i64 n, .string (str t), .slice a1 m1 c1, .slice a2 m2 c2]] w fun e w' => e = .returned (.bool ((n == 0) && decide (t = []) && decide (m1 = 0) && decide (m2 = 0))) ∧ Hid (Below w.heap.size w w') := by
 obtain ⟨RES, hRES⟩ : ∃ RES : Bool, RES = ((n == 0) && decide (t = []) && decide (m1 = 0) && decide (m2 = 0)) := ⟨_, rfl⟩
 rw [← hRES]
 have HR := hide hRES
 clear hRES
 by_cases xN : n = 0
 ·have HRN := hide xN
  subst xN
  by_cases xT : t = []
  ·have HRT := hide xT
   have ht1 : (str t).toList.isEmpty = true := by rw [toList_str]; rw [xT]; rfl
   have ht2 : ((str t).toList == []) = true := by rw [toList_str]; rw [xT]; rfl
   clear xT
   rw [decide_eq_true (unhide HRT)] at HR
   by_cases xS : m1 = 0
   ·have HRS := hide xS
    subst xS
    by_cases xI : m2 = 0
    ·have HRI := hide xI
     subst xI
     have HE : Hid (RES = true) := by show _ = _; rw [unhide HR]; simp
     rw [unhide HE]; clear HE HR
     have HB : ∀ o, Hid (Below w.heap.size w (w.alloc o)) := fun o => hide ((Below.refl _ _).alloc (Nat.le_refl _) o)
     go_enter Tryz.func59, Tryz.ntmps59
     go_wp2_with fail
     go_ret
     exact ⟨rfl, HB _⟩
    ·have HE : Hid (RES = false) := by show _ = _; rw [unhide HR, decide_eq_false xI]; simp
     rw [unhide HE]; clear HE HR
     have hi0 : ((m2 : Int) == 0) = false := by simp; omega
     have HB : ∀ o, Hid (Below w.heap.size w (w.alloc o)) := fun o => hide ((Below.refl _ _).alloc (Nat.le_refl _) o)
     go_enter Tryz.func59, Tryz.ntmps59
     go_wp2_with fail
     go_ret
     exact ⟨rfl, HB _⟩
   ·have HE : Hid (RES = false) := by show _ = _; rw [unhide HR, decide_eq_false xS]; simp
    rw [unhide HE]; clear HE HR
    have hs0 : ((m1 : Int) == 0) = false := by simp; omega
    have HB : ∀ o, Hid (Below w.heap.size w (w.alloc o)) := fun o => hide ((Below.refl _ _).alloc (Nat.le_refl _) o)
    go_enter Tryz.func59, Tryz.ntmps59
    go_wp2_with fail
    go_ret
    exact ⟨rfl, HB _⟩
  ·have HE : Hid (RES = false) := by show _ = _; rw [unhide HR, decide_eq_false xT]; simp
   rw [unhide HE]; clear HE HR
   have ht1 : (str t).toList.isEmpty = false := by rw [toList_str]; simpa [btE] using xT
   have ht2 : ((str t).toList == []) = false := by rw [toList_str]; simpa using xT
   clear xT
   have HB : ∀ o, Hid (Below w.heap.size w (w.alloc o)) := fun o => hide ((Below.refl _ _).alloc (Nat.le_refl _) o)
   go_enter Tryz.func59, Tryz.ntmps59
   go_wp2_with fail
   go_ret
   exact ⟨rfl, HB _⟩
 ·have HE : Hid (RES = false) := by show _ = _; rw [unhide HR, show (n == 0) = false by simpa using xN]; simp
  rw [unhide HE]; clear HE HR
  have hn0 : (n == 0) = false := by simpa using xN
  have HB : ∀ o, Hid (Below w.heap.size w (w.alloc o)) := fun o => hide ((Below.refl _ _).alloc (Nat.le_refl _) o)
  go_enter Tryz.func59, Tryz.ntmps59
  go_wp2_with fail
  go_ret
  exact ⟨rfl, HB _⟩
set_option maxHeartbeats 4000000 in
theorem isWF1 (n : Int) (t : List UInt8) (a1 a2 : Option Addr) (m1 c1 m2 c2 : Nat) (w : World) :
  Calls Tryz.prog 59 #[.agg #[.int .i64 1, .int .i64 n, .string (str t), .slice a1 m1 c1, .slice a2 m2 c2]] w fun e w' => e = .returned (.bool ((n == 0 || n == 1) && decide (t = []) && decide (m1 = 0) && decide (m2 = 0))) ∧ Hid (Below w.heap.size w w') := by
 obtain ⟨RES, hRES⟩ : ∃ RES : Bool, RES = ((n == 0 || n == 1) && decide (t = []) && decide (m1 = 0) && decide (m2 = 0)) := ⟨_, rfl⟩
 rw [← hRES]
 have HR := hide hRES
 clear hRES
 by_cases xN : n = 0
 ·subst xN
  by_cases xT : t = []
  ·have HRT := hide xT
   have ht1 : (str t).toList.isEmpty = true := by rw [toList_str]; rw [xT]; rfl
   have ht2 : ((str t).toList == []) = true := by rw [toList_str]; rw [xT]; rfl
   clear xT
   rw [decide_eq_true (unhide HRT)] at HR
   by_cases xS : m1 = 0
   ·have HRS := hide xS
    subst xS
    by_cases xI : m2 = 0
    ·have HRI := hide xI
     subst xI
     have HE : Hid (RES = true) := by show _ = _; rw [unhide HR]; simp
     rw [unhide HE]; clear HE HR
     have HB : ∀ o, Hid (Below w.heap.size w (w.alloc o)) := fun o => hide ((Below.refl _ _).alloc (Nat.le_refl _) o)
     go_enter Tryz.func59, Tryz.ntmps59
     go_wp2_with fail
     go_ret
     exact ⟨rfl, HB _⟩
    ·have HE : Hid (RES = false) := by show _ = _; rw [unhide HR, decide_eq_false xI]; simp
     rw [unhide HE]; clear HE HR
     have hi0 : ((m2 : Int) == 0) = false := by simp; omega
     have HB : ∀ o, Hid (Below w.heap.size w (w.alloc o)) := fun o => hide ((Below.refl _ _).alloc (Nat.le_refl _) o)
     go_enter Tryz.func59, Tryz.ntmps59
     go_wp2_with fail
     go_ret
     exact ⟨rfl, HB _⟩
   ·have HE : Hid (RES = false) := by show _ = _; rw [unhide HR, decide_eq_false xS]; simp
    rw [unhide HE]; clear HE HR
    have hs0 : ((m1 : Int) == 0) = false := by simp; omega
    have HB : ∀ o, Hid (Below w.heap.size w (w.alloc o)) := fun o => hide ((Below.refl _ _).alloc (Nat.le_refl _) o)
    go_enter Tryz.func59, Tryz.ntmps59
    go_wp2_with fail
    go_ret
    exact ⟨rfl, HB _⟩
  ·have HE : Hid (RES = false) := by show _ = _; rw [unhide HR, decide_eq_false xT]; simp
   rw [unhide HE]; clear HE HR
   have ht1 : (str t).toList.isEmpty = false := by rw [toList_str]; simpa [btE] using xT
   have ht2 : ((str t).toList == []) = false := by rw [toList_str]; simpa using xT
   clear xT
   have HB : ∀ o, Hid (Below w.heap.size w (w.alloc o)) := fun o => hide ((Below.refl _ _).alloc (Nat.le_refl _) o)
   go_enter Tryz.func59, Tryz.ntmps59
   go_wp2_with fail
   go_ret
   exact ⟨rfl, HB _⟩
 ·have hn0 : (n == 0) = false := by simpa using xN
  by_cases xM : n = 1
  ·subst xM; clear hn0 xN
   by_cases xT : t = []
   ·have HRT := hide xT
    have ht1 : (str t).toList.isEmpty = true := by rw [toList_str]; rw [xT]; rfl
    have ht2 : ((str t).toList == []) = true := by rw [toList_str]; rw [xT]; rfl
    clear xT
    rw [decide_eq_true (unhide HRT)] at HR
    by_cases xS : m1 = 0
    ·have HRS := hide xS
     subst xS
     by_cases xI : m2 = 0
     ·have HRI := hide xI
      subst xI
      have HE : Hid (RES = true) := by show _ = _; rw [unhide HR]; simp
      rw [unhide HE]; clear HE HR
      have HB : ∀ o, Hid (Below w.heap.size w (w.alloc o)) := fun o => hide ((Below.refl _ _).alloc (Nat.le_refl _) o)
      go_enter Tryz.func59, Tryz.ntmps59
      go_wp2_with fail
      go_ret
      exact ⟨rfl, HB _⟩
     ·have HE : Hid (RES = false) := by show _ = _; rw [unhide HR, decide_eq_false xI]; simp
      rw [unhide HE]; clear HE HR
      have hi0 : ((m2 : Int) == 0) = false := by simp; omega
      have HB : ∀ o, Hid (Below w.heap.size w (w.alloc o)) := fun o => hide ((Below.refl _ _).alloc (Nat.le_refl _) o)
      go_enter Tryz.func59, Tryz.ntmps59
      go_wp2_with fail
      go_ret
      exact ⟨rfl, HB _⟩
    ·have HE : Hid (RES = false) := by show _ = _; rw [unhide HR, decide_eq_false xS]; simp
     rw [unhide HE]; clear HE HR
     have hs0 : ((m1 : Int) == 0) = false := by simp; omega
     have HB : ∀ o, Hid (Below w.heap.size w (w.alloc o)) := fun o => hide ((Below.refl _ _).alloc (Nat.le_refl _) o)
     go_enter Tryz.func59, Tryz.ntmps59
     go_wp2_with fail
     go_ret
     exact ⟨rfl, HB _⟩
   ·have HE : Hid (RES = false) := by show _ = _; rw [unhide HR, decide_eq_false xT]; simp
    rw [unhide HE]; clear HE HR
    have ht1 : (str t).toList.isEmpty = false := by rw [toList_str]; simpa [btE] using xT
    have ht2 : ((str t).toList == []) = false := by rw [toList_str]; simpa using xT
    clear xT
    have HB : ∀ o, Hid (Below w.heap.size w (w.alloc o)) := fun o => hide ((Below.refl _ _).alloc (Nat.le_refl _) o)
    go_enter Tryz.func59, Tryz.ntmps59
    go_wp2_with fail
    go_ret
    exact ⟨rfl, HB _⟩
  ·have hn1 : (n == 1) = false := by simpa using xM
   have HE : Hid (RES = false) := by show _ = _; rw [unhide HR, hn0, hn1]; simp
   rw [unhide HE]; clear HE HR
   have HB : ∀ o, Hid (Below w.heap.size w (w.alloc o)) := fun o => hide ((Below.refl _ _).alloc (Nat.le_refl _) o)
   go_enter Tryz.func59, Tryz.ntmps59
   go_wp2_with fail
   go_ret
   exact ⟨rfl, HB _⟩
set_option maxHeartbeats 4000000 in
theorem isWF2 (n : Int) (t : List UInt8) (a1 a2 : Option Addr) (m1 c1 m2 c2 : Nat) (w : World) :
  Calls Tryz.prog 59 #[.agg #[.int .i64 2, .int .i64 n, .string (str t), .slice a1 m1 c1, .slice a2 m2 c2]] w fun e w' => e = .returned (.bool (decide (t = []) && decide (m1 = 0) && decide (m2 = 0))) ∧ Hid (Below w.heap.size w w') := by
 obtain ⟨RES, hRES⟩ : ∃ RES : Bool, RES = (decide (t = []) && decide (m1 = 0) && decide (m2 = 0)) := ⟨_, rfl⟩
 rw [← hRES]
 have HR := hide hRES
 clear hRES
 by_cases xT : t = []
 ·have HRT := hide xT
  have ht1 : (str t).toList.isEmpty = true := by rw [toList_str]; rw [xT]; rfl
  have ht2 : ((str t).toList == []) = true := by rw [toList_str]; rw [xT]; rfl
  clear xT
  rw [decide_eq_true (unhide HRT)] at HR
  by_cases xS : m1 = 0
  ·have HRS := hide xS
   subst xS
   by_cases xI : m2 = 0
   ·have HRI := hide xI
    subst xI
    have HE : Hid (RES = true) := by show _ = _; rw [unhide HR]; simp
    rw [unhide HE]; clear HE HR
    have HB : ∀ o, Hid (Below w.heap.size w (w.alloc o)) := fun o => hide ((Below.refl _ _).alloc (Nat.le_refl _) o)
    go_enter Tryz.func59, Tryz.ntmps59
    go_wp2_with fail
    go_ret
    exact ⟨rfl, HB _⟩
   ·have HE : Hid (RES = false) := by show _ = _; rw [unhide HR, decide_eq_false xI]; simp
    rw [unhide HE]; clear HE HR
    have hi0 : ((m2 : Int) == 0) = false := by simp; omega
    have HB : ∀ o, Hid (Below w.heap.size w (w.alloc o)) := fun o => hide ((Below.refl _ _).alloc (Nat.le_refl _) o)
    go_enter Tryz.func59, Tryz.ntmps59
    go_wp2_with fail
    go_ret
    exact ⟨rfl, HB _⟩
  ·have HE : Hid (RES = false) := by show _ = _; rw [unhide HR, decide_eq_false xS]; simp
   rw [unhide HE]; clear HE HR
   have hs0 : ((m1 : Int) == 0) = false := by simp; omega
   have HB : ∀ o, Hid (Below w.heap.size w (w.alloc o)) := fun o => hide ((Below.refl _ _).alloc (Nat.le_refl _) o)
   go_enter Tryz.func59, Tryz.ntmps59
   go_wp2_with fail
   go_ret
   exact ⟨rfl, HB _⟩
 ·have HE : Hid (RES = false) := by show _ = _; rw [unhide HR, decide_eq_false xT]; simp
  rw [unhide HE]; clear HE HR
  have ht1 : (str t).toList.isEmpty = false := by rw [toList_str]; simpa [btE] using xT
  have ht2 : ((str t).toList == []) = false := by rw [toList_str]; simpa using xT
  clear xT
  have HB : ∀ o, Hid (Below w.heap.size w (w.alloc o)) := fun o => hide ((Below.refl _ _).alloc (Nat.le_refl _) o)
  go_enter Tryz.func59, Tryz.ntmps59
  go_wp2_with fail
  go_ret
  exact ⟨rfl, HB _⟩
set_option maxHeartbeats 4000000 in
theorem isWF4 (n : Int) (t : List UInt8) (a1 a2 : Option Addr) (m1 c1 m2 c2 : Nat) (w : World) :
  Calls Tryz.prog 59 #[.agg #[.int .i64 4, .int .i64 n, .string (str t), .slice a1 m1 c1, .slice a2 m2 c2]] w fun e w' => e = .returned (.bool ((n == 0) && decide (t = []) && decide (m1 = 0))) ∧ Hid (Below w.heap.size w w') := by
 obtain ⟨RES, hRES⟩ : ∃ RES : Bool, RES = ((n == 0) && decide (t = []) && decide (m1 = 0)) := ⟨_, rfl⟩
 rw [← hRES]
 have HR := hide hRES
 clear hRES
 by_cases xN : n = 0
 ·have HRN := hide xN
  subst xN
  by_cases xT : t = []
  ·have HRT := hide xT
   have ht1 : (str t).toList.isEmpty = true := by rw [toList_str]; rw [xT]; rfl
   have ht2 : ((str t).toList == []) = true := by rw [toList_str]; rw [xT]; rfl
   clear xT
   rw [decide_eq_true (unhide HRT)] at HR
   by_cases xS : m1 = 0
   ·have HRS := hide xS
    subst xS
    have HE : Hid (RES = true) := by show _ = _; rw [unhide HR]; simp
    rw [unhide HE]; clear HE HR
    have HB : ∀ o, Hid (Below w.heap.size w (w.alloc o)) := fun o => hide ((Below.refl _ _).alloc (Nat.le_refl _) o)
    go_enter Tryz.func59, Tryz.ntmps59
    go_wp2_with fail
    go_ret
    exact ⟨rfl, HB _⟩
   ·have HE : Hid (RES = false) := by show _ = _; rw [unhide HR, decide_eq_false xS]; simp
    rw [unhide HE]; clear HE HR
    have hs0 : ((m1 : Int) == 0) = false := by simp; omega
    have HB : ∀ o, Hid (Below w.heap.size w (w.alloc o)) := fun o => hide ((Below.refl _ _).alloc (Nat.le_refl _) o)
    go_enter Tryz.func59, Tryz.ntmps59
    go_wp2_with fail
    go_ret
    exact ⟨rfl, HB _⟩
  ·have HE : Hid (RES = false) := by show _ = _; rw [unhide HR, decide_eq_false xT]; simp
   rw [unhide HE]; clear HE HR
   have ht1 : (str t).toList.isEmpty = false := by rw [toList_str]; simpa [btE] using xT
   have ht2 : ((str t).toList == []) = false := by rw [toList_str]; simpa using xT
   clear xT
   have HB : ∀ o, Hid (Below w.heap.size w (w.alloc o)) := fun o => hide ((Below.refl _ _).alloc (Nat.le_refl _) o)
   go_enter Tryz.func59, Tryz.ntmps59
   go_wp2_with fail
   go_ret
   exact ⟨rfl, HB _⟩
 ·have HE : Hid (RES = false) := by show _ = _; rw [unhide HR, show (n == 0) = false by simpa using xN]; simp
  rw [unhide HE]; clear HE HR
  have hn0 : (n == 0) = false := by simpa using xN
  have HB : ∀ o, Hid (Below w.heap.size w (w.alloc o)) := fun o => hide ((Below.refl _ _).alloc (Nat.le_refl _) o)
  go_enter Tryz.func59, Tryz.ntmps59
  go_wp2_with fail
  go_ret
  exact ⟨rfl, HB _⟩
set_option maxHeartbeats 4000000 in
theorem isWF3 (n : Int) (t : List UInt8) (a1 a2 : Option Addr) (m1 c1 m2 c2 : Nat) (Z : Bool) (w : World) (HC : Hid (Calls Tryz.prog 86 #[.string (str t)] (w.alloc (.cells #[.int .i64 3, .int .i64 0, .string (str t), .slice a1 m1 c1, .slice a2 m2 c2] 25)) fun e w' => e = .returned (.bool Z) ∧ Hid (Below (w.alloc (.cells #[.int .i64 3, .int .i64 0, .string (str t), .slice a1 m1 c1, .slice a2 m2 c2] 25)).heap.size (w.alloc (.cells #[.int .i64 3, .int .i64 0, .string (str t), .slice a1 m1 c1, .slice a2 m2 c2] 25)) w'))) :
  Calls Tryz.prog 59 #[.agg #[.int .i64 3, .int .i64 n, .string (str t), .slice a1 m1 c1, .slice a2 m2 c2]] w fun e w' => e = .returned (.bool ((n == 0) && Z && decide (m1 = 0) && decide (m2 = 0))) ∧ Hid (Below w.heap.size w w') := by
 obtain ⟨RES, hRES⟩ : ∃ RES : Bool, RES = ((n == 0) && Z && decide (m1 = 0) && decide (m2 = 0)) := ⟨_, rfl⟩
 rw [← hRES]
 have HR := hide hRES
 clear hRES
 by_cases xN : n = 0
 ·have HRN := hide xN
  subst xN
  cases Z with
  | true =>
   by_cases xS : m1 = 0
   ·have HRS := hide xS
    subst xS
    by_cases xI : m2 = 0
    ·have HRI := hide xI
     subst xI
     have HE : Hid (RES = true) := by show _ = _; rw [unhide HR]; simp
     rw [unhide HE]; clear HE HR
     have HB : ∀ o, Hid (Below w.heap.size w (w.alloc o)) := fun o => hide ((Below.refl _ _).alloc (Nat.le_refl _) o)
     go_enter Tryz.func59, Tryz.ntmps59
     go_wp2_with fail
     refine (unhide HC).mono ?_
     rintro e w1 ⟨rfl, h1⟩
     obtain ⟨g0, g1, g2, g3, g4⟩ := cells5 (((unhide h1).block w.heap.size (by simp)).trans (heap_alloc_new w _))
     go_wp2_with fail
     go_ret
     exact ⟨rfl, hide ((unhide (HB _)).trans ((unhide h1).mono (unhide (HB _)).size))⟩
    ·have HE : Hid (RES = false) := by show _ = _; rw [unhide HR, decide_eq_false xI]; simp
     rw [unhide HE]; clear HE HR
     have hi0 : ((m2 : Int) == 0) = false := by simp; omega
     have HB : ∀ o, Hid (Below w.heap.size w (w.alloc o)) := fun o => hide ((Below.refl _ _).alloc (Nat.le_refl _) o)
     go_enter Tryz.func59, Tryz.ntmps59
     go_wp2_with fail
     refine (unhide HC).mono ?_
     rintro e w1 ⟨rfl, h1⟩
     obtain ⟨g0, g1, g2, g3, g4⟩ := cells5 (((unhide h1).block w.heap.size (by simp)).trans (heap_alloc_new w _))
     go_wp2_with fail
     go_ret
     exact ⟨rfl, hide ((unhide (HB _)).trans ((unhide h1).mono (unhide (HB _)).size))⟩
   ·have HE : Hid (RES = false) := by show _ = _; rw [unhide HR, decide_eq_false xS]; simp
    rw [unhide HE]; clear HE HR
    have hs0 : ((m1 : Int) == 0) = false := by simp; omega
    have HB : ∀ o, Hid (Below w.heap.size w (w.alloc o)) := fun o => hide ((Below.refl _ _).alloc (Nat.le_refl _) o)
    go_enter Tryz.func59, Tryz.ntmps59
    go_wp2_with fail
    refine (unhide HC).mono ?_
    rintro e w1 ⟨rfl, h1⟩
    obtain ⟨g0, g1, g2, g3, g4⟩ := cells5 (((unhide h1).block w.heap.size (by simp)).trans (heap_alloc_new w _))
    go_wp2_with fail
    go_ret
    exact ⟨rfl, hide ((unhide (HB _)).trans ((unhide h1).mono (unhide (HB _)).size))⟩
  | false =>
   have HE : Hid (RES = false) := by show _ = _; rw [unhide HR]; simp
   rw [unhide HE]; clear HE HR
   have HB : ∀ o, Hid (Below w.heap.size w (w.alloc o)) := fun o => hide ((Below.refl _ _).alloc (Nat.le_refl _) o)
   go_enter Tryz.func59, Tryz.ntmps59
   go_wp2_with fail
   refine (unhide HC).mono ?_
   rintro e w1 ⟨rfl, h1⟩
   obtain ⟨g0, g1, g2, g3, g4⟩ := cells5 (((unhide h1).block w.heap.size (by simp)).trans (heap_alloc_new w _))
   go_wp2_with fail
   go_ret
   exact ⟨rfl, hide ((unhide (HB _)).trans ((unhide h1).mono (unhide (HB _)).size))⟩
 ·have HE : Hid (RES = false) := by show _ = _; rw [unhide HR, show (n == 0) = false by simpa using xN]; simp
  rw [unhide HE]; clear HE HR
  have hn0 : (n == 0) = false := by simpa using xN
  have HB : ∀ o, Hid (Below w.heap.size w (w.alloc o)) := fun o => hide ((Below.refl _ _).alloc (Nat.le_refl _) o)
  go_enter Tryz.func59, Tryz.ntmps59
  go_wp2_with fail
  go_ret
  exact ⟨rfl, HB _⟩
set_option maxHeartbeats 4000000 in
theorem isWF5 (n : Int) (t : List UInt8) (a1 a2 : Option Addr) (m1 c1 m2 c2 : Nat) (Z : Bool) (w : World) (HC : Hid (Calls Tryz.prog 87 #[.slice a1 m1 c1, .func (.func 88) #[] #[]] (w.alloc (.cells #[.int .i64 5, .int .i64 0, .string (str t), .slice a1 m1 c1, .slice a2 m2 c2] 25)) fun e w' => e = .returned (.bool (!Z)) ∧ Hid (Below (w.alloc (.cells #[.int .i64 5, .int .i64 0, .string (str t), .slice a1 m1 c1, .slice a2 m2 c2] 25)).heap.size (w.alloc (.cells #[.int .i64 5, .int .i64 0, .string (str t), .slice a1 m1 c1, .slice a2 m2 c2] 25)) w'))) :
  Calls Tryz.prog 59 #[.agg #[.int .i64 5, .int .i64 n, .string (str t), .slice a1 m1 c1, .slice a2 m2 c2]] w fun e w' => e = .returned (.bool ((n == 0) && decide (t = []) && decide (m1 = m2) && Z)) ∧ Hid (Below w.heap.size w w') := by
 obtain ⟨RES, hRES⟩ : ∃ RES : Bool, RES = ((n == 0) && decide (t = []) && decide (m1 = m2) && Z) := ⟨_, rfl⟩
 rw [← hRES]
 have HR := hide hRES
 clear hRES
 by_cases xN : n = 0
 ·have HRN := hide xN
  subst xN
  by_cases xT : t = []
  ·have HRT := hide xT
   have ht1 : (str t).toList.isEmpty = true := by rw [toList_str]; rw [xT]; rfl
   have ht2 : ((str t).toList == []) = true := by rw [toList_str]; rw [xT]; rfl
   clear xT
   rw [decide_eq_true (unhide HRT)] at HR
   by_cases xL : m1 = m2
   ·have HRL := hide xL
    subst xL
    cases Z with
    | true =>
     have HE : Hid (RES = true) := by show _ = _; rw [unhide HR]; simp
     rw [unhide HE]; clear HE HR
     have HB : ∀ o, Hid (Below w.heap.size w (w.alloc o)) := fun o => hide ((Below.refl _ _).alloc (Nat.le_refl _) o)
     go_enter Tryz.func59, Tryz.ntmps59
     go_wp2_with fail
     refine (unhide HC).mono ?_
     rintro e w1 ⟨rfl, h1⟩
     go_wp2_with fail
     go_ret
     exact ⟨rfl, hide ((unhide (HB _)).trans ((unhide h1).mono (unhide (HB _)).size))⟩
    | false =>
     have HE : Hid (RES = false) := by show _ = _; rw [unhide HR]; simp
     rw [unhide HE]; clear HE HR
     have HB : ∀ o, Hid (Below w.heap.size w (w.alloc o)) := fun o => hide ((Below.refl _ _).alloc (Nat.le_refl _) o)
     go_enter Tryz.func59, Tryz.ntmps59
     go_wp2_with fail
     refine (unhide HC).mono ?_
     rintro e w1 ⟨rfl, h1⟩
     go_wp2_with fail
     go_ret
     exact ⟨rfl, hide ((unhide (HB _)).trans ((unhide h1).mono (unhide (HB _)).size))⟩
   ·have HE : Hid (RES = false) := by show _ = _; rw [unhide HR, decide_eq_false xL]; simp
    rw [unhide HE]; clear HE HR
    have hl0 : ((m1 : Int) == (m2 : Int)) = false := by simp; omega
    have HB : ∀ o, Hid (Below w.heap.size w (w.alloc o)) := fun o => hide ((Below.refl _ _).alloc (Nat.le_refl _) o)
    go_enter Tryz.func59, Tryz.ntmps59
    go_wp2_with fail
    go_ret
    exact ⟨rfl, HB _⟩
  ·have HE : Hid (RES = false) := by show _ = _; rw [unhide HR, decide_eq_false xT]; simp
   rw [unhide HE]; clear HE HR
   have ht1 : (str t).toList.isEmpty = false := by rw [toList_str]; simpa [btE] using xT
   have ht2 : ((str t).toList == []) = false := by rw [toList_str]; simpa using xT
   clear xT
   have HB : ∀ o, Hid (Below w.heap.size w (w.alloc o)) := fun o => hide ((Below.refl _ _).alloc (Nat.le_refl _) o)
   go_enter Tryz.func59, Tryz.ntmps59
   go_wp2_with fail
   go_ret
   exact ⟨rfl, HB _⟩
 ·have HE : Hid (RES = false) := by show _ = _; rw [unhide HR, show (n == 0) = false by simpa using xN]; simp
  rw [unhide HE]; clear HE HR
  have hn0 : (n == 0) = false := by simpa using xN
  have HB : ∀ o, Hid (Below w.heap.size w (w.alloc o)) := fun o => hide ((Below.refl _ _).alloc (Nat.le_refl _) o)
  go_enter Tryz.func59, Tryz.ntmps59
  go_wp2_with fail
  go_ret
  exact ⟨rfl, HB _⟩
set_option maxHeartbeats 4000000 in
theorem isWFo (k n : Int) (t : List UInt8) (a1 a2 : Option Addr) (m1 c1 m2 c2 : Nat) (w : World) (h0 : (k == 0) = false) (h1 : (k == 1) = false) (h2 : (k == 2) = false) (h3 : (k == 3) = false) (h4 : (k == 4) = false) (h5 : (k == 5) = false) :
  Calls Tryz.prog 59 #[.agg #[.int .i64 k, .int .i64 n, .string (str t), .slice a1 m1 c1, .slice a2 m2 c2]] w fun e w' => e = .returned (.bool false) ∧ Hid (Below w.heap.size w w') := by
 have HB : ∀ o, Hid (Below w.heap.size w (w.alloc o)) := fun o => hide ((Below.refl _ _).alloc (Nat.le_refl _) o)
 go_enter Tryz.func59, Tryz.ntmps59
 go_wp2_with fail
 go_ret
 exact ⟨rfl, HB _⟩
theorem isWF_any (k n : Int) (t : List UInt8) (ns : List (List UInt8)) (is : List Js) (a1 : Option Addr) (c1 : Nat) (a2 : Option Addr) (c2 : Nat) (S : Nat → Prop) (w : World) (hT : Tb4 w) (h : NsF w S a1 ns) (hS : ∀ k, S k → k < w.heap.size) (hz : ∀ s ∈ ns, s.length ≤ 100000) (ht : t.length ≤ 100000) (hl : ns.length ≤ 100000) :
  Calls Tryz.prog 59 #[.agg #[.int .i64 k, .int .i64 n, .string (str t), .slice a1 ns.length c1, .slice a2 is.length c2]] w fun e w' => e = .returned (.bool (wfB (.mk k n t ns is))) ∧ Hid (Below w.heap.size w w') := by
 have hbA : ∀ o, Below w.heap.size w (w.alloc o) := fun o => (Below.refl _ _).alloc (Nat.le_refl _) o
 rw [wfB]
 by_cases k0 : k = 0
 ·subst k0
  rw [if_pos rfl, btE, nsE, jsE]
  exact isWF0 n t a1 a2 _ c1 _ c2 w
 rw [if_neg k0]
 by_cases k1 : k = 1
 ·subst k1
  rw [if_pos rfl, btE, nsE, jsE]
  exact isWF1 n t a1 a2 _ c1 _ c2 w
 rw [if_neg k1]
 by_cases k2 : k = 2
 ·subst k2
  rw [if_pos rfl, btE, nsE, jsE]
  exact isWF2 n t a1 a2 _ c1 _ c2 w
 rw [if_neg k2]
 by_cases k3 : k = 3
 ·subst k3
  rw [if_pos rfl, nsE, jsE]
  exact isWF3 n t a1 a2 _ c1 _ c2 _ w (hide (isWhole_any t _ (hT.below (hbA _)) (by omega)))
 rw [if_neg k3]
 by_cases k4 : k = 4
 ·subst k4
  rw [if_pos rfl, btE, nsE]
  exact isWF4 n t a1 a2 _ c1 _ c2 w
 rw [if_neg k4]
 by_cases k5 : k = 5
 ·subst k5
  rw [if_pos rfl, btE, allB, show (ns.length == is.length) = decide (ns.length = is.length) from rfl]
  refine isWF5 n t a1 a2 _ c1 _ c2 _ w (hide ?_)
  rw [Bool.not_not]
  exact con_br a1 c1 ns S _ (hT.below (hbA _)) (h.below (hbA _) hS) (fun k hk => by have := hS k hk; simp; omega) (fun s hs => by have := hz s hs; omega) (by omega)
 rw [if_neg k5]
 exact isWFo k n t a1 a2 _ c1 _ c2 w (by simpa using k0) (by simpa using k1) (by simpa using k2) (by simpa using k3) (by simpa using k4) (by simpa using k5)
#print axioms isWF_any
end Go.Proofs.YtbnbngmnoffmkaaGreatDoor
end
section
set_option linter.unusedVariables false
namespace Go.Proofs.YtbnbngmnoffmkaaGreatDoor
open Go.RowKit

theorem un_ft2 (fit : Nat → Nat → Bool) : ∀ (k n : Nat) (l : List UInt8) (m : Nat) (r : List UInt8), unM fit (k + 1) n l = .ok m r → fit m m = true ∧ m < (n + 1) * 16 ^ (k + 1)
 | 0, n, l, m, r, h => by
  cases l with
  | nil => cases h
  | cons c l =>
   simp only [unM] at h
   cases hx : hxB c with
   | none => rw [hx] at h; cases h
   | some d =>
    have hd := hxB_lt c d hx
    rw [hx] at h
    simp only at h
    split at h
    ·rename_i hf
     simp only [Rs.ok.injEq] at h
     obtain ⟨rfl, rfl⟩ := h
     refine ⟨by simpa using hf, by omega⟩
    ·cases h
 | k + 1, n, l, m, r, h => by
  cases l with
  | nil => cases h
  | cons c l =>
   rw [unM] at h
   cases hx : hxB c with
   | none => rw [hx] at h; cases h
   | some d =>
    have hd := hxB_lt c d hx
    rw [hx] at h
    simp only at h
    split at h
    ·obtain ⟨h1, h2⟩ := un_ft2 fit k _ l m r h
     refine ⟨h1, Nat.lt_of_lt_of_le h2 ?_⟩
     rw [Nat.pow_succ 16 (k + 1), Nat.mul_comm (16 ^ (k + 1)) 16, ← Nat.mul_assoc]
     exact Nat.mul_le_mul_right _ (by omega)
    ·cases h
theorem hc_rune (l : List UInt8) (n : Nat) (r : List UInt8) (h : hcM l = .ok n r) : Rune n ∧ (enB n).length + r.length ≤ l.length := by
 unfold hcM at h
 cases h1 : unM fitH 4 0 l with
 | no r y => rw [h1] at h; cases h
 | ok hh r1 =>
  obtain ⟨f1, f2⟩ := un_ft2 fitH 3 0 l hh r1 h1
  have l1 := un_len _ _ _ _ _ _ h1
  have en3 : ∀ n, n < 65536 → (enB n).length ≤ 3 := by
   intro n hn
   unfold enB
   split
   ·simp
   ·split
    ·simp
    ·simp
  rw [h1] at h
  simp only at h
  split at h
  ·cases h2 : wdM [92, 117] r1 with
   | no r y => rw [h2] at h; cases h
   | ok u r2 =>
    have l2 := congrArg List.length (wd_len _ _ _ h2)
    rw [h2] at h
    simp only at h
    cases h3 : unM fitL 4 0 r2 with
    | no r y => rw [h3] at h; cases h
    | ok lo r3 =>
     obtain ⟨g1, g2⟩ := un_ft2 fitL 3 0 r2 lo r3 h3
     have l3 := un_len _ _ _ _ _ _ h3
     rw [h3] at h
     simp only [Rs.ok.injEq] at h
     obtain ⟨rfl, rfl⟩ := h
     have e1 := en_ne (65536 + (hh - 55296) * 1024 + (lo - 56320))
     unfold fitL at g1
     simp only [Bool.and_eq_true, decide_eq_true_eq] at g1
     simp only [List.length_append, List.length_cons, List.length_nil] at l2
     refine ⟨⟨by omega, by omega⟩, by omega⟩
  ·simp only [Rs.ok.injEq] at h
   obtain ⟨rfl, rfl⟩ := h
   have e1 := en3 hh (by omega)
   refine ⟨⟨by omega, ?_⟩, by omega⟩
   unfold fitH at f1
   simp only [Bool.not_eq_true', Bool.and_eq_false_iff, decide_eq_false_iff_not] at f1
   omega
theorem es_rune (l : List UInt8) (n : Nat) (r : List UInt8) (h : esM l = .ok n r) : Rune n ∧ (enB n).length + r.length ≤ l.length := by
 unfold esM at h
 cases h1 : tkM 92 l with
 | no r y => rw [h1] at h; cases h
 | ok u r1 =>
  have l1 := tk_len _ _ _ h1
  rw [h1] at h
  cases r1 with
  | nil => cases h
  | cons c r2 =>
   simp only at h
   split at h
   ·obtain ⟨k1, k2⟩ := hc_rune r2 n r h
    refine ⟨k1, ?_⟩
    rw [l1]
    simp only [List.length_cons]
    omega
   ·cases hv : escV c with
    | none => rw [hv] at h; cases h
    | some m =>
     rw [hv] at h
     simp only [Rs.ok.injEq] at h
     obtain ⟨rfl, rfl⟩ := h
     have hm : m < 128 := by
      unfold escV at hv
      repeat' (split at hv)
      all_goals first | (cases hv; decide) | cases hv
     have e1 : (enB m).length = 1 := by unfold enB; rw [if_pos hm]; rfl
     refine ⟨⟨by omega, by omega⟩, ?_⟩
     rw [e1, l1]
     simp only [List.length_cons]
     omega
theorem u8of {n : Nat} (h : n < 256) : (UInt8.ofNat n).toNat = n := by simp; omega
theorem chr_en (n : Nat) (h : Rune n) : chr (enB n) = none := by
 have key : d4 (enB n) = (n, (enB n).length) → (n, (enB n).length) ≠ (65533, 1) → chr (enB n) = none := by
  intro e1 e2
  rw [chr_go _ (en_ne n).1 (by rw [e1]; exact e2), e1]
  simp [chr_nil]
 obtain ⟨h1, h2⟩ := h
 unfold enB at key ⊢
 split
 ·rename_i c1
  rw [if_pos c1] at key
  refine key ?_ (by intro e; have := congrArg Prod.fst e; simp only at this; omega)
  unfold d4 Lib.decodeN
  simp only [List.getD_cons_zero, u8of (show n < 256 by omega)]
  rw [if_pos c1]
  rfl
 ·rename_i c1
  rw [if_neg c1] at key
  split
  ·rename_i c2
   rw [if_pos c2] at key
   refine key ?_ (by intro e; have := congrArg Prod.snd e; simp at this)
   unfold d4 Lib.decodeN
   simp only [List.getD_cons_zero, List.getD_cons_succ, List.length_cons, List.length_nil, u8of (show 192 + n / 64 < 256 by omega), u8of (show 128 + n % 64 < 256 by omega)]
   rw [if_neg (by omega), if_pos (by omega), if_pos (by omega)]
   apply Prod.ext <;> simp only <;> omega
  ·rename_i c2
   rw [if_neg c2] at key
   split
   ·rename_i c3
    rw [if_pos c3] at key
    refine key ?_ (by intro e; have := congrArg Prod.snd e; simp at this)
    unfold d4 Lib.decodeN
    simp only [List.getD_cons_zero, List.getD_cons_succ, List.length_cons, List.length_nil, u8of (show 224 + n / 4096 < 256 by omega), u8of (show 128 + n / 64 % 64 < 256 by omega), u8of (show 128 + n % 64 < 256 by omega)]
    rw [if_neg (by omega), if_neg (by omega), if_pos (by omega), if_pos (by omega)]
    apply Prod.ext <;> simp only <;> omega
   ·rename_i c3
    rw [if_neg c3] at key
    refine key ?_ (by intro e; have := congrArg Prod.snd e; simp at this)
    unfold d4 Lib.decodeN
    simp only [List.getD_cons_zero, List.getD_cons_succ, List.length_cons, List.length_nil, u8of (show 240 + n / 262144 < 256 by omega), u8of (show 128 + n / 4096 % 64 < 256 by omega), u8of (show 128 + n / 64 % 64 < 256 by omega), u8of (show 128 + n % 64 < 256 by omega)]
    rw [if_neg (by omega), if_neg (by omega), if_neg (by omega), if_pos (by omega), if_pos (by omega)]
    apply Prod.ext <;> simp only <;> omega
theorem chr_app {a b : List UInt8} (ha : chr a = none) (hb : chr b = none) : chr (a ++ b) = none := by rw [chr_none_append _ a b (Nat.le_refl _) ha, hb]; rfl
theorem chl_none : ∀ (l p q r : List UInt8), chL p l = .ok q r → chr q = none
 | [], p, q, r, h => by simp [chL] at h
 | c :: l, p, q, r, h => by
  simp only [chL] at h
  split at h
  ·split at h
   ·rename_i hc; simp only [Rs.ok.injEq] at h; rw [← h.1]; exact hc
   ·cases h
  ·exact chl_none l _ q r h
theorem uql_good : ∀ (f : Nat) (acc l t r : List UInt8), chr acc = none → uqL f acc l = .ok t r → chr t = none ∧ t.length + r.length ≤ acc.length + l.length
 | 0, acc, l, t, r, ha, h => by simp [uqL] at h
 | f + 1, acc, [], t, r, ha, h => by simp [uqL] at h
 | f + 1, acc, c :: l, t, r, ha, h => by
  simp only [uqL] at h
  split at h
  ·simp only [Rs.ok.injEq] at h; obtain ⟨rfl, rfl⟩ := h; exact ⟨ha, Nat.le_refl _⟩
  ·split at h
   ·cases h1 : esM (c :: l) with
    | no r y => rw [h1] at h; cases h
    | ok n r1 =>
     rw [h1] at h
     obtain ⟨k1, k2⟩ := es_rune _ _ _ h1
     obtain ⟨i1, i2⟩ := uql_good f _ r1 t r (chr_app ha (chr_en n k1)) h
     refine ⟨i1, ?_⟩
     rw [List.length_append] at i2
     omega
   ·split at h
    ·cases h
    ·cases h1 : chM (c :: l) with
     | no r y => rw [h1] at h; cases h
     | ok p r1 =>
      rw [h1] at h
      have k1 := chl_none _ _ _ _ h1
      obtain ⟨u, e1, e2, _⟩ := ch_len _ _ _ _ h1
      obtain ⟨i1, i2⟩ := uql_good f _ r1 t r (chr_app ha k1) h
      refine ⟨i1, ?_⟩
      rw [e1, List.length_append]
      rw [e2, List.nil_append, List.length_append] at i2
      omega
theorem uq_good (l t r : List UInt8) (h : uqM l = .ok t r) : chr t = none ∧ t.length ≤ l.length := by
 unfold uqM at h
 cases h1 : tkM 34 l with
 | no r y => rw [h1] at h; cases h
 | ok u r1 =>
  rw [h1] at h
  have e := congrArg List.length (tk_len _ _ _ h1)
  obtain ⟨k1, k2⟩ := uql_good _ [] r1 t r chr_nil h
  refine ⟨k1, ?_⟩
  simp only [List.length_nil, List.length_cons] at k2 e
  omega
theorem dgl_most (m : Nat) : ∀ (l : List UInt8) (n k : Nat) (r : List UInt8), 9 ≤ m → n ≤ m → dgL m n l = .ok k r → k ≤ m
 | [], n, k, r, h9, hn, h => by simp only [dgL, Rs.ok.injEq] at h; rw [← h.1]; exact hn
 | c :: l, n, k, r, h9, hn, h => by
  simp only [dgL] at h
  split at h
  ·rename_i hd
   split at h
   ·cases h
   ·unfold dgB4 at hd
    simp only [Bool.and_eq_true, decide_eq_true_eq] at hd
    exact dgl_most m l _ k r h9 (by omega) h
  ·simp only [Rs.ok.injEq] at h; rw [← h.1]; exact hn
theorem dgm_most (m : Nat) (h9 : 9 ≤ m) (l : List UInt8) (k : Nat) (r : List UInt8) (h : dgM m l = .ok k r) : k ≤ m := by
 unfold dgM at h
 split at h
 ·cases h
 ·split at h
  ·split at h
   ·simp only [Rs.ok.injEq] at h; omega
   ·split at h
    ·cases h
    ·simp only [Rs.ok.injEq] at h; omega
  ·split at h
   ·exact dgl_most m _ 0 k r h9 (by omega) h
   ·cases h
theorem nu_most (l : List UInt8) (k : Int) (r : List UInt8) (h : nuM l = .ok k r) : -9223372036854775808 ≤ k ∧ k ≤ 9223372036854775807 := by
 by_cases hn : nxI l = 45
 ·obtain ⟨r0, hr0⟩ : ∃ r0, l = 45 :: r0 := by
   cases l with
   | nil => simp [nxI] at hn
   | cons c r0 =>
    simp only [nxI] at hn
    exact ⟨r0, by rw [show c = 45 from UInt8.toNat_inj.1 (by show c.toNat = 45; omega)]⟩
  rw [nu_neg l r0 hr0] at h
  cases h1 : dgM 9223372036854775808 r0 with
  | no r y => rw [h1] at h; cases h
  | ok n r1 =>
   rw [h1] at h
   have := dgm_most _ (by omega) _ _ _ h1
   simp only at h
   split at h
   ·cases h
   ·simp only [Rs.ok.injEq] at h; rw [← h.1]; omega
 ·rw [nu_pos l hn] at h
  cases h1 : dgM 9223372036854775807 l with
  | no r y => rw [h1] at h; cases h
  | ok n r1 =>
   rw [h1] at h
   have := dgm_most _ (by omega) _ _ _ h1
   simp only at h
   split at h
   ·cases h
   ·simp only [Rs.ok.injEq] at h; rw [← h.1]; omega
/-- A value that can be, whose text has at most N bytes. -/
def Gd (n : Nat) (j : Js) : Prop := ck n j = 0 ∧ Sz j
theorem ckF_flat (C : Option (Js → Nat)) (k n : Int) (t : List UInt8) (h1 : ¬ (k = 4 ∨ k = 5)) (h2 : wfB (.mk k n t [] []) = true) : ckF C (.mk k n t [] []) = 0 := by
 rw [ckF_eq, if_neg (fun h => h1 h.1), if_neg (by rw [h2]; simp), if_neg (by simp)]
 cases C <;> rfl
theorem ck_flat (m : Nat) (k n : Int) (t : List UInt8) (h1 : ¬ (k = 4 ∨ k = 5)) (h2 : wfB (.mk k n t [] []) = true) : ck m (.mk k n t [] []) = 0 := by
 cases m with
 | zero => exact ckF_flat none k n t h1 h2
 | succ m => exact ckF_flat _ k n t h1 h2
theorem sz_flat (k n : Int) (t : List UInt8) (h1 : -9223372036854775808 ≤ n ∧ n ≤ 9223372036854775807) (h2 : t.length ≤ 100000) : Sz (.mk k n t [] []) := by
 simp only [Sz, Szs]
 exact ⟨h1, h2, by simp, by simp, (fun s hs => by cases hs), trivial⟩
def GdV (m : Nat) (V : List UInt8 → Rs Js) : Prop := ∀ l v r, l.length ≤ 65536 → V l = .ok v r → Gd m v
theorem li_good (m : Nat) (V : List UInt8 → Rs Js) (hV : GdV m V) (hL : VaL V) : ∀ (f : Nat) (acc : List Js) (l : List UInt8) (is : List Js) (r : List UInt8), l.length ≤ 65536 → (∀ x ∈ acc, Gd m x) → liL V f acc l = .ok is r → (∀ x ∈ is, Gd m x) ∧ is.length ≤ acc.length + f
 | 0, acc, l, is, r, hl, ha, h => by simp [liL] at h
 | f + 1, acc, l, is, r, hl, ha, h => by
  simp only [liL] at h
  cases h1 : V l with
  | no r y => rw [h1] at h; cases h
  | ok v r1 =>
   rw [h1] at h
   have g1 := hV l v r1 hl h1
   have e1 := hL l v r1 h1
   have e2 := skB_le r1
   have hacc : ∀ x ∈ acc ++ [v], Gd m x := fun x hx => by
    rcases List.mem_append.1 hx with hx | hx
    ·exact ha x hx
    ·rw [List.mem_singleton.1 hx]; exact g1
   simp only at h
   cases h2 : skB r1 with
   | nil =>
    rw [h2] at h
    simp only [Rs.ok.injEq] at h
    rw [← h.1]
    exact ⟨hacc, by rw [List.length_append]; simp⟩
   | cons c t =>
    rw [h2] at h e2
    simp only at h
    simp only [List.length_cons] at e2
    split at h
    ·have e3 := skB_le t
     obtain ⟨k1, k2⟩ := li_good m V hV hL f _ _ is r (by omega) hacc h
     refine ⟨k1, ?_⟩
     rw [List.length_append] at k2
     simp at k2
     omega
    ·simp only [Rs.ok.injEq] at h
     rw [← h.1]
     exact ⟨hacc, by rw [List.length_append]; simp⟩
theorem mb_good (m : Nat) (V : List UInt8 → Rs Js) (hV : GdV m V) (ns : List (List UInt8)) (l : List UInt8) (x : List UInt8 × Js) (r : List UInt8) (hl : l.length ≤ 65536) (h : mbM V ns l = .ok x r) : chr x.1 = none ∧ x.1.length ≤ 100000 ∧ x.1 ∉ ns ∧ Gd m x.2 := by
 unfold mbM at h
 cases h1 : uqM l with
 | no r y => rw [h1] at h; cases h
 | ok nm r1 =>
  rw [h1] at h
  obtain ⟨g1, g2⟩ := uq_good _ _ _ h1
  have e1 := (uq_len _ _ _ h1).2
  simp only at h
  split at h
  ·cases h
  ·rename_i hn
   cases h2 : tkM 34 r1 with
   | no r y => rw [h2] at h; cases h
   | ok u r2 =>
    have e2 := tk_le _ _ _ h2
    have e3 := skB_le r2
    rw [h2] at h
    simp only at h
    cases h3 : tkM 58 (skB r2) with
    | no r y => rw [h3] at h; cases h
    | ok u r3 =>
     have e4 := tk_le _ _ _ h3
     have e5 := skB_le r3
     rw [h3] at h
     simp only at h
     cases h4 : V (skB r3) with
     | no r y => rw [h4] at h; cases h
     | ok v r4 =>
      rw [h4] at h
      simp only [Rs.ok.injEq] at h
      rw [← h.1]
      exact ⟨g1, by simp only; omega, hn, hV _ _ _ (by omega) h4⟩
theorem ob_good (m : Nat) (V : List UInt8 → Rs Js) (hV : GdV m V) (hL : VaL V) : ∀ (f : Nat) (ns : List (List UInt8)) (is : List Js) (l : List UInt8) (x : List (List UInt8) × List Js) (r : List UInt8), l.length ≤ 65536 → ns.length = is.length → (∀ s ∈ ns, chr s = none ∧ s.length ≤ 100000) → ns.Nodup → (∀ x ∈ is, Gd m x) → obL V f ns is l = .ok x r → x.1.length = x.2.length ∧ (∀ s ∈ x.1, chr s = none ∧ s.length ≤ 100000) ∧ x.1.Nodup ∧ (∀ y ∈ x.2, Gd m y) ∧ x.2.length ≤ is.length + f
 | 0, ns, is, l, x, r, hl, h1, h2, h3, h4, h => by simp [obL] at h
 | f + 1, ns, is, l, x, r, hl, h1, h2, h3, h4, h => by
  simp only [obL] at h
  cases hm : mbM V ns l with
  | no r y => rw [hm] at h; cases h
  | ok nv r1 =>
   rw [hm] at h
   obtain ⟨g1, g2, g3, g4⟩ := mb_good m V hV ns l nv r1 hl hm
   have e1 := mb_len V hL ns l r1 nv hm
   have e2 := skB_le r1
   have k1 : (ns ++ [nv.1]).length = (is ++ [nv.2]).length := by simp [h1]
   have k2 : ∀ s ∈ ns ++ [nv.1], chr s = none ∧ s.length ≤ 100000 := fun s hs => by
    rcases List.mem_append.1 hs with hs | hs
    ·exact h2 s hs
    ·rw [List.mem_singleton.1 hs]; exact ⟨g1, g2⟩
   have k3 : (ns ++ [nv.1]).Nodup := by
    rw [List.nodup_append]
    refine ⟨h3, by simp, fun a ha b hb => ?_⟩
    rw [List.mem_singleton.1 hb]
    exact fun e => g3 (e ▸ ha)
   have k4 : ∀ x ∈ is ++ [nv.2], Gd m x := fun x hx => by
    rcases List.mem_append.1 hx with hx | hx
    ·exact h4 x hx
    ·rw [List.mem_singleton.1 hx]; exact g4
   simp only at h
   cases hs : skB r1 with
   | nil =>
    rw [hs] at h
    simp only [Rs.ok.injEq] at h
    rw [← h.1]
    exact ⟨k1, k2, k3, k4, by simp⟩
   | cons c t =>
    rw [hs] at h e2
    simp only at h
    simp only [List.length_cons] at e2
    split at h
    ·have e3 := skB_le t
     obtain ⟨i1, i2, i3, i4, i5⟩ := ob_good m V hV hL f _ _ _ x r (by omega) k1 k2 k3 k4 h
     refine ⟨i1, i2, i3, i4, ?_⟩
     rw [List.length_append] at i5
     simp at i5
     omega
    ·simp only [Rs.ok.injEq] at h
     rw [← h.1]
     exact ⟨k1, k2, k3, k4, by simp⟩
theorem mm_ok {α : Type} {cl : UInt8} {z : α} {L : List UInt8 → Rs α} {l : List UInt8} {x : α} {r : List UInt8} (h : mmM cl z L l = .ok x r) : x = z ∨ ∃ l1 r1, l1.length ≤ l.length ∧ L l1 = .ok x r1 := by
 have e1 := skB_le l
 unfold mmM at h
 have key : ∀ m : Rs α, (∀ x r, m = .ok x r → x = z ∨ ∃ l1 r1, l1.length ≤ l.length ∧ L l1 = .ok x r1) → (match m with | .no r y => (Rs.no r y : Rs α) | .ok a r => match tkM cl r with | .no r2 y => .no r2 y | .ok _ r2 => .ok a r2) = .ok x r → x = z ∨ ∃ l1 r1, l1.length ≤ l.length ∧ L l1 = .ok x r1 := by
  intro m hm hh
  cases m with
  | no r y => cases hh
  | ok a r1 =>
   simp only at hh
   split at hh
   ·cases hh
   ·simp only [Rs.ok.injEq] at hh
    rw [← hh.1]
    exact hm a r1 rfl
 refine key _ ?_ h
 intro x r hx
 cases hs : skB l with
 | nil => rw [hs] at hx; exact .inr ⟨_, _, by simp, hx⟩
 | cons c t =>
  rw [hs] at hx e1
  simp only at hx
  split at hx
  ·simp only [Rs.ok.injEq] at hx; exact .inl hx.1.symm
  ·exact .inr ⟨_, _, e1, hx⟩
theorem va_good (n : Nat) (V : Option (List UInt8 → Rs Js)) (hV : ∀ Vf, V = some Vf → ∃ m, n = m + 1 ∧ GdV m Vf ∧ VaL Vf) : GdV n (vaF V) := by
 intro l v r hl h
 cases l with
 | nil => simp [vaF] at h
 | cons c l =>
  unfold vaF at h
  simp only at h
  simp only [List.length_cons] at hl
  split at h
  ·cases V with
   | none => cases h
   | some Vf =>
    obtain ⟨m, rfl, hg, hL⟩ := hV Vf rfl
    simp only at h
    split at h
    ·cases h
    ·rename_i x r2 hx
     simp only [Rs.ok.injEq] at h
     rw [← h.1]
     have key : x.1.length = x.2.length ∧ (∀ s ∈ x.1, chr s = none ∧ s.length ≤ 100000) ∧ x.1.Nodup ∧ (∀ y ∈ x.2, Gd m y) ∧ x.2.length ≤ 65537 := by
      rcases mm_ok hx with rfl | ⟨l1, r1, k1, k2⟩
      ·exact ⟨rfl, (fun s hs => by cases hs), List.nodup_nil, (fun s hs => by cases hs), by simp⟩
      ·obtain ⟨i1, i2, i3, i4, i5⟩ := ob_good m Vf hg hL _ [] [] l1 x r1 (by omega) rfl (fun s hs => by cases hs) List.nodup_nil (fun s hs => by cases hs) k2
       exact ⟨i1, i2, i3, i4, by simp at i5; omega⟩
     obtain ⟨i1, i2, i3, i4, i5⟩ := key
     refine ⟨?_, ?_⟩
     ·show ckF (some (ck m)) _ = 0
      rw [ckF_eq, if_neg (by simp), if_neg, if_neg (by simpa using i3)]
      ·exact fsE_zero.2 (fun j hj => (i4 j hj).1)
      ·rw [wfB]
       simp [i1]
       exact fun s hs => (i2 s hs).1
     ·simp only [Sz]
      exact ⟨by omega, by simp, by omega, by omega, fun s hs => (i2 s hs).2, (szs_iff _).2 (fun j hj => (i4 j hj).2)⟩
  ·split at h
   ·cases V with
    | none => cases h
    | some Vf =>
     obtain ⟨m, rfl, hg, hL⟩ := hV Vf rfl
     simp only at h
     split at h
     ·cases h
     ·rename_i x r2 hx
      simp only [Rs.ok.injEq] at h
      rw [← h.1]
      have key : (∀ y ∈ x, Gd m y) ∧ x.length ≤ 65537 := by
       rcases mm_ok hx with rfl | ⟨l1, r1, k1, k2⟩
       ·exact ⟨(fun s hs => by cases hs), by simp⟩
       ·obtain ⟨i1, i2⟩ := li_good m Vf hg hL _ [] l1 x r1 (by omega) (fun s hs => by cases hs) k2
        exact ⟨i1, by simp at i2; omega⟩
      obtain ⟨i1, i2⟩ := key
      refine ⟨?_, ?_⟩
      ·show ckF (some (ck m)) _ = 0
       rw [ckF_eq, if_neg (by simp), if_neg (by rw [wfB]; simp), if_neg (by simp)]
       exact fsE_zero.2 (fun j hj => (i1 j hj).1)
      ·simp only [Sz]
       exact ⟨by omega, by simp, by simp, by omega, (fun s hs => by cases hs), (szs_iff _).2 (fun j hj => (i1 j hj).2)⟩
   ·split at h
    ·split at h
     ·cases h
     ·rename_i t r2 hx
      obtain ⟨g1, g2⟩ := uq_good _ _ _ hx
      simp only [List.length_cons] at g2
      split at h
      ·cases h
      ·simp only [Rs.ok.injEq] at h
       rw [← h.1]
       exact ⟨ck_flat n 3 0 t (by omega) (by rw [wfB]; simp [g1]), sz_flat 3 0 t (by omega) (by omega)⟩
    ·split at h
     ·split at h
      ·cases h
      ·rename_i k r2 hx
       simp only [Rs.ok.injEq] at h
       rw [← h.1]
       exact ⟨ck_flat n 2 k [] (by omega) (by rw [wfB]; simp), sz_flat 2 k [] (nu_most _ _ _ hx) (by simp)⟩
     ·split at h
      ·split at h
       ·cases h
       ·simp only [Rs.ok.injEq] at h
        rw [← h.1]
        exact ⟨ck_flat n 1 1 [] (by omega) (by decide), sz_flat 1 1 [] (by omega) (by simp)⟩
      ·split at h
       ·split at h
        ·cases h
        ·simp only [Rs.ok.injEq] at h
         rw [← h.1]
         exact ⟨ck_flat n 1 0 [] (by omega) (by decide), sz_flat 1 0 [] (by omega) (by simp)⟩
       ·split at h
        ·split at h
         ·cases h
         ·simp only [Rs.ok.injEq] at h
          rw [← h.1]
          exact ⟨ck_flat n 0 0 [] (by omega) (by decide), sz_flat 0 0 [] (by omega) (by simp)⟩
        ·cases h
theorem vaM_good : ∀ n, GdV n (vaM n)
 | 0 => va_good 0 none (fun _ e => by cases e)
 | n + 1 => va_good (n + 1) (some (vaM n)) (fun Vf e => by cases e; exact ⟨n, rfl, vaM_good n, va_len n⟩)
theorem sz_nul : Sz Js.nul := sz_flat 0 0 [] (by omega) (by simp)
theorem ck_nul (n : Nat) : ck n Js.nul = 0 := ck_flat n 0 0 [] (by omega) (by decide)
/-- What is read can be. -/
theorem psM_good (s : List UInt8) : Gd 16 (psM s).1 := by
 unfold psM
 split
 ·exact ⟨ck_nul 16, sz_nul⟩
 ·rename_i hl
  have e := skB_le s
  cases h1 : vaM 16 (skB s) with
  | no r y => exact ⟨ck_nul 16, sz_nul⟩
  | ok v r =>
   simp only
   cases h2 : skB r with
   | nil => exact vaM_good 16 _ _ _ (by omega) h1
   | cons c t => exact ⟨ck_nul 16, sz_nul⟩
#print axioms psM_good
end Go.Proofs.YtbnbngmnoffmkaaGreatDoor
end
section
set_option linter.unusedVariables false
set_option maxRecDepth 1000000
namespace Go.Proofs.YtbnbngmnoffmkaaGreatDoor
open Go.RowKit

/-- A list or an object that is not at its end. -/
structure Opn where
 k : Int
 ns : List (List UInt8)
 is : List Js
 nm : List UInt8
def Opn.v (o : Opn) : Js := .mk o.k 0 [] o.ns o.is
structure Mc where
 st : Nat
 l : List Opn
 rest : List UInt8
 v : Js
 text : List UInt8
 isKey : Bool
 char : List UInt8
 n : Nat
 many : Nat
 high : Nat
 neg : Bool
 num : Int
def mc0 : Mc := ⟨0, [], [], Js.nul, [], false, [], 0, 0, 0, false, 0⟩
/-- The last one, changed. -/
def upd (f : Opn → Opn) : List Opn → List Opn
 | [] => []
 | [o] => [f o]
 | o :: p :: r => o :: upd f (p :: r)
theorem upd_last (f : Opn → Opn) (o : Opn) : ∀ l : List Opn, upd f (l ++ [o]) = l ++ [f o]
 | [] => rfl
 | [p] => rfl
 | p :: q :: r => by
  have := upd_last f o (q :: r)
  show p :: upd f (q :: (r ++ [o])) = _
  rw [List.cons_append] at this
  rw [this]
  rfl
def addV (v : Js) (o : Opn) : Opn := { o with is := o.is ++ [v], ns := if o.k = 5 then o.ns ++ [o.nm] else o.ns }
def topO (l : List Opn) : Opn := l.getLast?.getD ⟨0, [], [], []⟩
theorem topO_last (l : List Opn) (o : Opn) : topO (l ++ [o]) = o := by simp [topO]
def doneM (m : Mc) (v : Js) : Mc := if m.l = [] then { m with st := 5, v := v } else { m with st := 5, l := upd (addV v) m.l }
def digitM (m : Mc) (c : UInt8) : Nat × Mc :=
 let d : Int := (c.toNat : Int) - 48
 let s := if m.st ≠ 7 ∧ d = 0 then 14 else 7
 if m.neg then (if m.num < -922337203685477580 ∨ (m.num = -922337203685477580 ∧ d > 8) then (42, m) else (0, { m with num := m.num * 10 - d, st := s }))
 else (if m.num > 922337203685477580 ∨ (m.num = 922337203685477580 ∧ d > 7) then (42, m) else (0, { m with num := m.num * 10 + d, st := s }))
def endsM (m : Mc) (c : UInt8) : Nat × Mc :=
 if blB4 c then (0, m)
 else if m.l = [] then (40, m)
 else
  let top := topO m.l
  if c = 44 ∧ top.k = 4 then (0, { m with st := 0 })
  else if c = 44 then (0, { m with st := 2 })
  else if (c = 93 ∧ top.k = 4) ∨ (c = 125 ∧ top.k = 5) then (0, doneM { m with l := m.l.dropLast } top.v)
  else (40, m)
def beginsM (m : Mc) (c : UInt8) : Nat × Mc :=
 if c = 91 ∨ c = 123 then
  (if 16 ≤ m.l.length then (41, m)
   else if c = 91 then (0, { m with l := m.l ++ [⟨4, [], [], []⟩], st := 1 }) else (0, { m with l := m.l ++ [⟨5, [], [], []⟩], st := 3 }))
 else if c = 34 then (0, { m with st := 9, text := [], isKey := false })
 else if c = 110 then (0, { m with st := 6, v := Js.nul, rest := [117, 108, 108] })
 else if c = 116 then (0, { m with st := 6, v := .mk 1 1 [] [] [], rest := [114, 117, 101] })
 else if c = 102 then (0, { m with st := 6, v := .mk 1 0 [] [] [], rest := [97, 108, 115, 101] })
 else if c = 45 then (0, { m with st := 8, neg := true, num := 0 })
 else if dgB4 c then digitM { m with neg := false, num := 0 } c
 else (40, m)
def putM (m : Mc) (n : Nat) : Mc := { m with st := 9, text := m.text ++ enB n }
def digitOfM (m : Mc) (c : UInt8) : Nat × Mc :=
 match hxB c with
 | none => (40, m)
 | some x =>
  if (0 < m.high ∧ m.many = 0 ∧ x ≠ 13) ∨ (m.many = 1 ∧ m.n = 13 ∧ decide (12 ≤ x) ≠ decide (0 < m.high)) then (40, m)
  else
   let m' := { m with n := 16 * m.n + x, many := m.many + 1 }
   if m'.many < 4 then (0, m')
   else if 0 < m.high then (0, { putM m' (65536 + (m.high - 55296) * 1024 + m'.n - 56320) with high := 0 })
   else if 55296 ≤ m'.n ∧ m'.n < 56320 then (0, { m' with high := m'.n, st := 12 })
   else (0, putM m' m'.n)
/-- Is it the beginning of a character's bytes? (As the document tries it out.) -/
def begB (b : List UInt8) : Bool :=
 let t (x : List UInt8) : Bool := decide (chr x = none)
 let six (m : List UInt8) : Bool := [128, 144, 160, 143, 159, 191].any fun c => t (m ++ [c])
 six b || (decide (b.length = 1) && [128, 144, 160].any fun c => t (b ++ [c, 128]) || t (b ++ [c, 128, 128])) || six (b ++ [128]) || six (b ++ [128] ++ [128])
def partM (m : Mc) (c : UInt8) : Nat × Mc :=
 let b := m.char ++ [c]
 if chr b = none then (0, { m with text := m.text ++ b, st := 9 })
 else if begB b = false then (40, m)
 else (0, { m with char := b, st := 15 })
def withinM (m : Mc) (c : UInt8) : Nat × Mc :=
 if c = 34 then
  (if m.isKey = false then (0, doneM m (.mk 3 0 m.text [] []))
   else if m.text ∈ (topO m.l).ns then (43, m)
   else (0, { m with l := upd (fun o => { o with nm := m.text }) m.l, st := 4 }))
 else if c.toNat < 32 then (40, m)
 else if c = 92 then (0, { m with st := 10 })
 else if c.toNat < 128 then (0, { m with text := m.text ++ [c] })
 else partM { m with char := [] } c
def figureM (m : Mc) (c : UInt8) : Nat × Mc :=
 if m.st = 8 then (if dgB4 c then digitM m c else (40, m))
 else if dgB4 c ∧ m.st = 7 then digitM m c
 else if c = 46 ∨ c = 101 ∨ c = 69 then (42, m)
 else endsM (doneM m (.mk 2 m.num [] [] [])) c
def escapedM (m : Mc) (c : UInt8) : Nat × Mc :=
 match escV c with
 | some n => (0, putM m n)
 | none => if c = 117 then (0, { m with st := 11, n := 0, many := 0, high := 0 }) else (40, m)
def nextM (m : Mc) (c : UInt8) : Nat × Mc :=
 if m.st = 0 ∨ m.st = 1 then (if blB4 c then (0, m) else if m.st = 1 ∧ c = 93 then endsM m c else beginsM m c)
 else if m.st = 2 ∨ m.st = 3 then (if blB4 c then (0, m) else if m.st = 3 ∧ c = 125 then endsM m c else if c ≠ 34 then (40, m) else (0, { m with st := 9, text := [], isKey := true }))
 else if m.st = 4 then (if c = 58 then (0, { m with st := 0 }) else if blB4 c then (0, m) else (40, m))
 else if m.st = 5 then endsM m c
 else if m.st = 6 then (match m.rest with
  | [] => (40, m)
  | x :: r => if c ≠ x then (40, m) else if r = [] then (0, doneM { m with rest := r } m.v) else (0, { m with rest := r }))
 else if m.st = 8 ∨ m.st = 7 ∨ m.st = 14 then figureM m c
 else if m.st = 9 then withinM m c
 else if m.st = 10 then escapedM m c
 else if m.st = 11 then digitOfM m c
 else if m.st = 15 then partM m c
 else if m.st = 12 then (if c ≠ 92 then (40, m) else (0, { m with st := 13 }))
 else (if c ≠ 117 then (40, m) else (0, { m with st := 11, n := 0, many := 0 }))
def finM (m : Mc) : Rs Js := if m.l = [] ∧ (m.st = 7 ∨ m.st = 14) then .ok (.mk 2 m.num [] [] []) [] else if m.l ≠ [] ∨ m.st ≠ 5 then .no [] 40 else .ok m.v []
def runJ : Mc → List UInt8 → Rs Js
 | m, [] => finM m
 | m, c :: r => match nextM m c with
  | (0, m') => runJ m' r
  | (y + 1, _) => .no (c :: r) (y + 1)
theorem runJ_nil (m : Mc) : runJ m [] = finM m := by rw [runJ]
theorem runJ_ok {m m' : Mc} {c : UInt8} (r : List UInt8) (h : nextM m c = (0, m')) : runJ m (c :: r) = runJ m' r := by rw [runJ, h]
theorem runJ_no {m m' : Mc} {c : UInt8} {y : Nat} (r : List UInt8) (h : nextM m c = (y, m')) (hy : y ≠ 0) : runJ m (c :: r) = .no (c :: r) y := by
 rw [runJ, h]
 cases y with
 | zero => exact absurd rfl hy
 | succ y => rfl
/-- The machine behind a value. -/
def Bh (l : List Opn) (v : Js) (m : Mc) : Prop := m.st = 5 ∧ (l = [] → m.l = [] ∧ m.v = v) ∧ (l ≠ [] → m.l = upd (addV v) l)
theorem upd_ne {f : Opn → Opn} {l : List Opn} (h : l ≠ []) : upd f l ≠ [] := by
 obtain ⟨r, o, rfl⟩ : ∃ r o, l = r ++ [o] := ⟨l.dropLast, l.getLast h, (List.dropLast_concat_getLast h).symm⟩
 rw [upd_last]; simp
theorem doneM_bh (m : Mc) (v : Js) : Bh m.l v (doneM m v) := by
 unfold doneM
 by_cases h : m.l = []
 ·rw [if_pos h]; exact ⟨rfl, fun _ => ⟨h, rfl⟩, fun k => absurd h k⟩
 ·rw [if_neg h]; exact ⟨rfl, fun k => absurd k h, fun _ => rfl⟩
/-- Behind a value only that matters. -/
theorem next5 {m : Mc} (h : m.st = 5) (c : UInt8) : nextM m c = endsM m c := by
 unfold nextM
 simp [h]
theorem blank_next {m : Mc} (h : m.st ≤ 5) {c : UInt8} (hc : blB4 c = true) : nextM m c = (0, m) := by
 have n1 : c ≠ 58 := fun e => by rw [e] at hc; revert hc; decide
 unfold nextM endsM
 have : m.st = 0 ∨ m.st = 1 ∨ m.st = 2 ∨ m.st = 3 ∨ m.st = 4 ∨ m.st = 5 := by omega
 rcases this with e | e | e | e | e | e <;> simp [e, hc, n1]
theorem run_sk {m : Mc} (h : m.st ≤ 5) : ∀ l, runJ m l = runJ m (skB l)
 | [] => rfl
 | c :: r => by
  rw [skB_cons]
  by_cases hc : blB4 c = true
  ·rw [if_pos hc, runJ_ok r (blank_next h hc)]
   exact run_sk h r
  ·rw [if_neg hc]
theorem run_word (v : Js) : ∀ (u : List UInt8) (l : List UInt8) (m : Mc), m.st = 6 → m.rest = u → u ≠ [] → m.v = v →
  match wdM u l with
  | .no r y => runJ m l = .no r y
  | .ok _ r => ∃ m', Bh m.l v m' ∧ runJ m l = runJ m' r
 | [], l, m, _, _, h, _ => absurd rfl h
 | x :: u, [], m, hs, hr, _, hv => by
  simp only [wdM]
  rw [runJ_nil]
  unfold finM
  simp [hs]
 | x :: u, c :: r, m, hs, hr, _, hv => by
  simp only [wdM]
  by_cases e : c = x
  ·rw [if_pos e]
   by_cases hu : u = []
   ·subst hu
    simp only [wdM]
    refine ⟨doneM { m with rest := [] } v, doneM_bh _ _, runJ_ok r ?_⟩
    unfold nextM
    simp [hs, hr, e, hv]
   ·have hn : nextM m c = (0, { m with rest := u }) := by
     unfold nextM
     simp [hs, hr, e, hu]
    rw [runJ_ok r hn]
    exact run_word v u r { m with rest := u } hs rfl hu hv
  ·rw [if_neg e]
   refine runJ_no r (m' := m) ?_ (by omega)
   unfold nextM
   simp [hs, hr, e]
theorem fin_num {m : Mc} (h : m.st = 7 ∨ m.st = 14) : finM m = finM (doneM m (.mk 2 m.num [] [] [])) := by
 unfold finM
 by_cases hl : m.l = []
 ·have e : (doneM m (.mk 2 m.num [] [] [])) = { m with st := 5, v := .mk 2 m.num [] [] [] } := by unfold doneM; rw [if_pos hl]
  rw [e]
  simp [hl, h]
 ·have e := (doneM_bh m (.mk 2 m.num [] [] [])).2.2 hl
  have hu := upd_ne (f := addV (.mk 2 m.num [] [] [])) hl
  rw [if_neg (fun k => hl k.1), if_pos (.inl hl), e, if_neg (fun k => hu k.1), if_pos (.inl hu)]
/-- A number is at its end. -/
theorem fig_end {m : Mc} {c : UInt8} (h : (m.st = 7 ∧ dgB4 c = false) ∨ m.st = 14) (hf : fracB [c] = false) (r : List UInt8) : runJ m (c :: r) = runJ (doneM m (.mk 2 m.num [] [] [])) (c :: r) := by
 have hs : m.st = 7 ∨ m.st = 14 := by rcases h with ⟨h, _⟩ | h <;> simp [h]
 have e1 : nextM m c = endsM (doneM m (.mk 2 m.num [] [] [])) c := by
  have e2 : nextM m c = figureM m c := by
   unfold nextM
   rcases hs with e | e <;> simp [e]
  rw [e2]
  unfold figureM
  have h8 : m.st ≠ 8 := by omega
  have hd : ¬ (dgB4 c = true ∧ m.st = 7) := by
   rintro ⟨k1, k2⟩
   rcases h with ⟨_, k⟩ | k
   ·rw [k] at k1; cases k1
   ·omega
  have hf2 : ¬ (c = 46 ∨ c = 101 ∨ c = 69) := by
   simp only [fracB] at hf
   rintro (k | k | k) <;> rw [k] at hf <;> revert hf <;> decide
  rw [if_neg h8, if_neg hd, if_neg hf2]
 have e3 := next5 (doneM_bh m (.mk 2 m.num [] [] [])).1 c
 show (match nextM m c with | (0, m') => runJ m' r | (y + 1, _) => .no (c :: r) (y + 1)) = _
 rw [e1, ← e3]
 rfl
theorem fig_frac {m : Mc} {c : UInt8} (h : (m.st = 7 ∧ dgB4 c = false) ∨ m.st = 14) (hf : fracB [c] = true) (r : List UInt8) : runJ m (c :: r) = .no (c :: r) 42 := by
 refine runJ_no r (m' := m) ?_ (by omega)
 have hs : m.st = 7 ∨ m.st = 14 := by rcases h with ⟨h, _⟩ | h <;> simp [h]
 have e2 : nextM m c = figureM m c := by
  unfold nextM
  rcases hs with e | e <;> simp [e]
 rw [e2]
 unfold figureM
 have h8 : m.st ≠ 8 := by omega
 have hf2 : c = 46 ∨ c = 101 ∨ c = 69 := by
  simp only [fracB, Bool.or_eq_true, beq_iff_eq] at hf
  rcases hf with (k | k) | k <;> simp [k]
 have hd0 : dgB4 c = false := by rcases hf2 with k | k | k <;> rw [k] <;> decide
 rw [if_neg h8, if_neg (fun k => by rw [hd0] at k; exact absurd k.1 (by simp)), if_pos hf2]
def ngI (neg : Bool) (n : Nat) : Int := if neg then -(n : Int) else (n : Int)
def mxN (neg : Bool) : Nat := if neg then 9223372036854775808 else 9223372036854775807
theorem dg_val {c : UInt8} (h : dgB4 c = true) : 48 ≤ c.toNat ∧ c.toNat ≤ 57 := by
 unfold dgB4 at h
 simpa using h
/-- A digit more. -/
theorem digit_ok {m : Mc} {c : UInt8} {n : Nat} (hc : dgB4 c = true) (hn : m.num = ngI m.neg n) (hle : ¬ n > (mxN m.neg - (c.toNat - 48)) / 10) :
  digitM m c = (0, { m with num := ngI m.neg (n * 10 + (c.toNat - 48)), st := if m.st ≠ 7 ∧ c.toNat = 48 then 14 else 7 }) := by
 obtain ⟨h1, h2⟩ := dg_val hc
 unfold digitM
 cases hneg : m.neg with
 | true =>
  rw [hneg] at hn hle
  simp only [ngI, mxN, if_true] at hn hle ⊢
  have e0 : ¬ (m.num < -922337203685477580 ∨ (m.num = -922337203685477580 ∧ (c.toNat : Int) - 48 > 8)) := by rw [hn]; omega
  rw [if_neg e0]
  congr 1
  congr 1
  ·by_cases k : c.toNat = 48
   ·by_cases k2 : m.st = 7 <;> simp [k, k2]
   ·have : ¬ (c.toNat : Int) - 48 = 0 := by omega
    simp [k, this]
  ·rw [hn]; push_cast; omega
 | false =>
  rw [hneg] at hn hle
  simp only [ngI, mxN, if_false, Bool.false_eq_true] at hn hle ⊢
  have e0 : ¬ (m.num > 922337203685477580 ∨ (m.num = 922337203685477580 ∧ (c.toNat : Int) - 48 > 7)) := by rw [hn]; omega
  rw [if_neg e0]
  congr 1
  congr 1
  ·by_cases k : c.toNat = 48
   ·by_cases k2 : m.st = 7 <;> simp [k, k2]
   ·have : ¬ (c.toNat : Int) - 48 = 0 := by omega
    simp [k, this]
  ·rw [hn]; push_cast; omega
theorem digit_no {m : Mc} {c : UInt8} {n : Nat} (hc : dgB4 c = true) (hn : m.num = ngI m.neg n) (hle : n > (mxN m.neg - (c.toNat - 48)) / 10) : digitM m c = (42, m) := by
 obtain ⟨h1, h2⟩ := dg_val hc
 unfold digitM
 cases hneg : m.neg with
 | true =>
  rw [hneg] at hn hle
  simp only [ngI, mxN, if_true] at hn hle ⊢
  have e0 : (m.num < -922337203685477580 ∨ (m.num = -922337203685477580 ∧ (c.toNat : Int) - 48 > 8)) := by rw [hn]; omega
  rw [if_pos e0]
 | false =>
  rw [hneg] at hn hle
  simp only [ngI, mxN, if_false, Bool.false_eq_true] at hn hle ⊢
  have e0 : (m.num > 922337203685477580 ∨ (m.num = 922337203685477580 ∧ (c.toNat : Int) - 48 > 7)) := by rw [hn]; omega
  rw [if_pos e0]
/-- What a number owes behind its digits. -/
def NuE (m : Mc) (l : List UInt8) (R : Rs Nat) : Prop :=
 match R with
 | .no r y => runJ m l = .no r y
 | .ok n r => if fracB r then runJ m l = .no r 42 else ∃ m', Bh m.l (.mk 2 (ngI m.neg n) [] [] []) m' ∧ runJ m l = runJ m' r
theorem nue_end {m : Mc} {n : Nat} (hn : m.num = ngI m.neg n) (r : List UInt8) (h : m.st = 14 ∨ (m.st = 7 ∧ ∀ c t, r = c :: t → dgB4 c = false)) : NuE m r (.ok n r) := by
 have hs : m.st = 7 ∨ m.st = 14 := by rcases h with h | ⟨h, _⟩ <;> simp [h]
 unfold NuE
 cases r with
 | nil =>
  simp only [fracB, Bool.false_eq_true, if_false]
  refine ⟨doneM m (.mk 2 m.num [] [] []), by rw [← hn]; exact doneM_bh _ _, ?_⟩
  rw [runJ_nil, runJ_nil, fin_num hs]
 | cons c t =>
  have h' : (m.st = 7 ∧ dgB4 c = false) ∨ m.st = 14 := by
   rcases h with h | ⟨h, k⟩
   ·exact .inr h
   ·exact .inl ⟨h, k c t rfl⟩
  dsimp only
  by_cases hf : fracB (c :: t) = true
  ·rw [if_pos hf]
   exact fig_frac h' (by simpa [fracB] using hf) t
  ·have hf' : fracB (c :: t) = false := by simpa using hf
   rw [if_neg hf]
   exact ⟨doneM m (.mk 2 m.num [] [] []), by rw [← hn]; exact doneM_bh _ _, fig_end h' (by simpa [fracB] using hf') t⟩
theorem run_dgl : ∀ (l : List UInt8) (n : Nat) (m : Mc), m.st = 7 → m.num = ngI m.neg n → NuE m l (dgL (mxN m.neg) n l)
 | [], n, m, hs, hn => by
  rw [dgL]
  exact nue_end hn [] (.inr ⟨hs, fun c t e => by cases e⟩)
 | c :: r, n, m, hs, hn => by
  rw [dgL]
  by_cases hc : dgB4 c = true
  ·rw [if_pos hc]
   have e2 : nextM m c = digitM m c := by
    unfold nextM figureM
    simp [hs, hc]
   by_cases hb : n > (mxN m.neg - (c.toNat - 48)) / 10
   ·rw [if_pos hb]
    exact runJ_no r (e2.trans (digit_no hc hn hb)) (by omega)
   ·rw [if_neg hb]
    have e3 := e2.trans (digit_ok hc hn hb)
    have ih := run_dgl r (n * 10 + (c.toNat - 48)) { m with num := ngI m.neg (n * 10 + (c.toNat - 48)), st := 7 } rfl rfl
    rw [if_neg (fun k => k.1 hs)] at e3
    unfold NuE at ih ⊢
    rw [runJ_ok r e3]
    exact ih
  ·rw [if_neg hc]
   exact nue_end hn (c :: r) (.inr ⟨hs, fun c' t e => by cases e; simpa using hc⟩)
/-- Digits, from the first on: the machine has come to them by a minus, or by the first of them. -/
theorem run_dgm (l : List UInt8) (m : Mc) (hs : m.st ≠ 7) (hn : m.num = 0) (hnext : ∀ c, dgB4 c = true → nextM m c = digitM m c) (hno : ∀ c r, l = c :: r → dgB4 c = false → runJ m (c :: r) = .no (c :: r) 40) (hnil : l = [] → finM m = .no [] 40) : NuE m l (dgM (mxN m.neg) l) := by
 have h0 : m.num = ngI m.neg 0 := by rw [hn]; cases m.neg <;> rfl
 cases l with
 | nil =>
  simp only [dgM]
  show runJ m [] = _
  rw [runJ_nil]; exact hnil rfl
 | cons c r =>
  simp only [dgM]
  by_cases hc : dgB4 c = true
  ·have hb : ¬ 0 > (mxN m.neg - (c.toNat - 48)) / 10 := by omega
   have e3 := (hnext c hc).trans (digit_ok hc h0 hb)
   obtain ⟨h1, h2⟩ := dg_val hc
   rw [Nat.zero_mul, Nat.zero_add] at e3
   by_cases hz : c = 48
   ·subst hz
    rw [if_pos rfl]
    rw [if_pos ⟨hs, by decide⟩] at e3
    have ek : ((48 : UInt8).toNat - 48) = 0 := by decide
    rw [ek] at e3
    have ih := fun r h => nue_end (m := { m with num := ngI m.neg 0, st := 14 }) (n := 0) rfl r h
    cases r with
    | nil =>
     have := ih [] (.inl rfl)
     unfold NuE at this ⊢
     rw [runJ_ok [] e3]
     exact this
    | cons x t =>
     by_cases hx : dgB4 x = true
     ·simp only [hx, if_true]
      show runJ m _ = _
      rw [runJ_ok _ e3]
      refine runJ_no t (m' := doneM { m with num := ngI m.neg 0, st := 14 } (.mk 2 (ngI m.neg 0) [] [] [])) ?_ (by omega)
      have hbl : blB4 x = false := by
       cases hb : blB4 x with
       | false => rfl
       | true => rw [bl_dg hb] at hx; cases hx
      obtain ⟨k1, k2⟩ := dg_val hx
      have x1 : ¬ (x = 46 ∨ x = 101 ∨ x = 69) := by rintro (k | k | k) <;> rw [k] at hx <;> revert hx <;> decide
      have x2 : x ≠ 44 ∧ x ≠ 93 ∧ x ≠ 125 := by refine ⟨?_, ?_, ?_⟩ <;> (intro k; rw [k] at hx; revert hx; decide)
      have e4 : nextM { m with num := ngI m.neg 0, st := 14 } x = endsM (doneM { m with num := ngI m.neg 0, st := 14 } (.mk 2 (ngI m.neg 0) [] [] [])) x := by
       unfold nextM figureM
       simp [x1]
      rw [e4]
      unfold endsM
      simp [hbl, x2]
     ·simp only [hx, Bool.false_eq_true, if_false]
      have := ih (x :: t) (.inl rfl)
      unfold NuE at this ⊢
      rw [runJ_ok _ e3]
      exact this
   ·have hcn : c.toNat ≠ 48 := fun k => hz (UInt8.toNat_inj.1 (by rw [k]; rfl))
    rw [if_neg hz, if_pos hc]
    rw [if_neg (fun k => hcn k.2)] at e3
    have ih := run_dgl r (c.toNat - 48) { m with num := ngI m.neg (c.toNat - 48), st := 7 } rfl rfl
    rw [dgL, if_pos hc, if_neg hb, Nat.zero_mul, Nat.zero_add]
    unfold NuE at ih ⊢
    rw [runJ_ok _ e3]
    exact ih
  ·have hc0 : dgB4 c = false := by simpa using hc
   have hz : c ≠ 48 := fun k => by rw [k] at hc; exact hc (by decide)
   rw [if_neg hz, if_neg hc]
   exact hno c r rfl hc0
#print axioms run_dgm
end Go.Proofs.YtbnbngmnoffmkaaGreatDoor
end
section
set_option linter.unusedVariables false
set_option maxRecDepth 1000000
namespace Go.Proofs.YtbnbngmnoffmkaaGreatDoor
open Go.RowKit

theorem chr_whole {l : List UInt8} (h : l ≠ []) (h1 : d4 l ≠ (65533, 1)) (h2 : (d4 l).2 = l.length) : chr l = none := by
 rw [chr_go l h h1, h2, List.drop_length, chr_nil]
 rfl
theorem beg_false {b : List UInt8} (h : ∀ y, chr (b ++ y) ≠ none) : begB b = false := by
 unfold begB
 simp only [List.append_assoc, List.any_cons, List.any_nil, h, decide_false, Bool.or_false, Bool.and_false]
theorem beg_six {b : List UInt8} {c : UInt8} (hc : c ∈ ([128, 144, 160, 143, 159, 191] : List UInt8)) (h : chr (b ++ [c]) = none) : begB b = true := by
 unfold begB
 have : ([128, 144, 160, 143, 159, 191].any fun c => decide (chr (b ++ [c]) = none)) = true := List.any_eq_true.2 ⟨c, hc, decide_eq_true h⟩
 simp only [this, Bool.true_or]
theorem beg_two {b : List UInt8} {c : UInt8} (hc : c ∈ ([128, 144, 160, 143, 159, 191] : List UInt8)) (h : chr (b ++ [128] ++ [c]) = none) : begB b = true := by
 unfold begB
 have : ([128, 144, 160, 143, 159, 191].any fun c => decide (chr (b ++ [128] ++ [c]) = none)) = true := List.any_eq_true.2 ⟨c, hc, decide_eq_true h⟩
 simp only [this, Bool.true_or, Bool.or_true]
theorem beg_one {b : List UInt8} {c : UInt8} (hb : b.length = 1) (hc : c ∈ ([128, 144, 160] : List UInt8)) (h : chr (b ++ [c, 128]) = none ∨ chr (b ++ [c, 128, 128]) = none) : begB b = true := by
 unfold begB
 have : ([128, 144, 160].any fun c => decide (chr (b ++ [c, 128]) = none) || decide (chr (b ++ [c, 128, 128]) = none)) = true := List.any_eq_true.2 ⟨c, hc, by rcases h with h | h <;> simp [h]⟩
 simp only [this, hb, decide_true, Bool.true_and, Bool.true_or, Bool.or_true]
theorem dec_ne {n a b c d v k : Nat} (hk : k ≠ 1) (h : Lib.decodeN n a b c d = (v, k)) : Lib.decodeN n a b c d ≠ (65533, 1) := fun e => by
 rw [e] at h
 exact hk (congrArg Prod.snd h).symm
theorem d4_two (a b : UInt8) : d4 [a, b] = Lib.decodeN 2 a.toNat b.toNat 0 0 := rfl
theorem d4_three (a b c : UInt8) : d4 [a, b, c] = Lib.decodeN 3 a.toNat b.toNat c.toNat 0 := rfl
theorem d4_4 (a b c d : UInt8) : d4 [a, b, c, d] = Lib.decodeN 4 a.toNat b.toNat c.toNat d.toNat := rfl
theorem w2 {a b : UInt8} (ha : 194 ≤ a.toNat ∧ a.toNat ≤ 223) (hb : b.toNat / 64 = 2) : chr [a, b] = none := by
 have e : Lib.decodeN 2 a.toNat b.toNat 0 0 = (a.toNat % 32 * 64 + b.toNat % 64, 2) := by
  unfold Lib.decodeN
  rw [if_neg (by omega), if_pos (by omega), if_pos (by omega)]
 exact chr_whole (by simp) (by rw [d4_two]; exact dec_ne (by omega) e) (by rw [d4_two, e]; rfl)
theorem w3 {a b c : UInt8} (ha : 224 ≤ a.toNat ∧ a.toNat ≤ 239) (hb : b.toNat / 64 = 2) (hc : c.toNat / 64 = 2) (h0 : a.toNat = 224 → 160 ≤ b.toNat) (h1 : a.toNat = 237 → b.toNat ≤ 159) : chr [a, b, c] = none := by
 have e : Lib.decodeN 3 a.toNat b.toNat c.toNat 0 = (a.toNat % 16 * 4096 + b.toNat % 64 * 64 + c.toNat % 64, 3) := by
  unfold Lib.decodeN
  rw [if_neg (by omega), if_neg (by omega), if_pos (by omega), if_pos (by omega)]
 exact chr_whole (by simp) (by rw [d4_three]; exact dec_ne (by omega) e) (by rw [d4_three, e]; rfl)
theorem w4 {a b c d : UInt8} (ha : 240 ≤ a.toNat ∧ a.toNat ≤ 244) (hb : b.toNat / 64 = 2) (hc : c.toNat / 64 = 2) (hd : d.toNat / 64 = 2) (h0 : a.toNat = 240 → 144 ≤ b.toNat) (h1 : a.toNat = 244 → b.toNat ≤ 143) : chr [a, b, c, d] = none := by
 have e : Lib.decodeN 4 a.toNat b.toNat c.toNat d.toNat = (a.toNat % 8 * 262144 + b.toNat % 64 * 4096 + c.toNat % 64 * 64 + d.toNat % 64, 4) := by
  unfold Lib.decodeN
  rw [if_neg (by omega), if_neg (by omega), if_neg (by omega), if_pos (by omega), if_pos (by omega)]
 exact chr_whole (by simp) (by rw [d4_4]; exact dec_ne (by omega) e) (by rw [d4_4, e]; rfl)
theorem bad1 {a : UInt8} (y : List UInt8) (ha : 128 ≤ a.toNat) (h : a.toNat < 194 ∨ 244 < a.toNat) : chr ([a] ++ y) ≠ none := by
 have e : d4 ([a] ++ y) = (65533, 1) := by
  unfold d4
  simp only [List.cons_append, List.nil_append, List.getD_cons_zero]
  unfold Lib.decodeN
  have := a.toNat_lt
  repeat' split
  all_goals first | rfl | (exfalso; omega)
 rw [chr_bad _ (by simp) e]; simp
theorem bad2 {a b : UInt8} (y : List UInt8) (ha : 194 ≤ a.toNat ∧ a.toNat ≤ 244) (h : b.toNat / 64 ≠ 2 ∨ (a.toNat = 224 ∧ b.toNat < 160) ∨ (a.toNat = 237 ∧ 159 < b.toNat) ∨ (a.toNat = 240 ∧ b.toNat < 144) ∨ (a.toNat = 244 ∧ 143 < b.toNat)) : chr ([a, b] ++ y) ≠ none := by
 have e : d4 ([a, b] ++ y) = (65533, 1) := by
  unfold d4
  simp only [List.cons_append, List.nil_append, List.getD_cons_zero, List.getD_cons_succ]
  unfold Lib.decodeN
  have := b.toNat_lt
  repeat' split
  all_goals first | rfl | (exfalso; omega)
 rw [chr_bad _ (by simp) e]; simp
theorem bad3 {a b c : UInt8} (y : List UInt8) (ha : 224 ≤ a.toNat ∧ a.toNat ≤ 244) (h : c.toNat / 64 ≠ 2) : chr ([a, b, c] ++ y) ≠ none := by
 have e : d4 ([a, b, c] ++ y) = (65533, 1) := by
  unfold d4
  simp only [List.cons_append, List.nil_append, List.getD_cons_zero, List.getD_cons_succ]
  unfold Lib.decodeN
  repeat' split
  all_goals first | rfl | (exfalso; omega)
 rw [chr_bad _ (by simp) e]; simp
theorem bad4 {a b c d : UInt8} (y : List UInt8) (ha : 240 ≤ a.toNat ∧ a.toNat ≤ 244) (h : d.toNat / 64 ≠ 2) : chr ([a, b, c, d] ++ y) ≠ none := by
 have e : d4 ([a, b, c, d] ++ y) = (65533, 1) := by
  unfold d4
  simp only [List.cons_append, List.nil_append, List.getD_cons_zero, List.getD_cons_succ]
  unfold Lib.decodeN
  repeat' split
  all_goals first | rfl | (exfalso; omega)
 rw [chr_bad _ (by simp) e]; simp
/-- Too few bytes. -/
theorem few2 {a b : UInt8} (ha : 224 ≤ a.toNat) : chr [a, b] ≠ none := by
 have e : d4 [a, b] = (65533, 1) := by
  rw [d4_two]
  unfold Lib.decodeN
  repeat' split
  all_goals first | rfl | (exfalso; omega)
 rw [chr_bad _ (by simp) e]; simp
theorem few3 {a b c : UInt8} (ha : 240 ≤ a.toNat) : chr [a, b, c] ≠ none := by
 have e : d4 [a, b, c] = (65533, 1) := by
  rw [d4_three]
  unfold Lib.decodeN
  repeat' split
  all_goals first | rfl | (exfalso; omega)
 rw [chr_bad _ (by simp) e]; simp
theorem few1 {a : UInt8} (ha : 128 ≤ a.toNat) : chr [a] ≠ none := by
 have e : d4 [a] = (65533, 1) := by
  show Lib.decodeN 1 a.toNat 0 0 0 = _
  unfold Lib.decodeN
  repeat' split
  all_goals first | rfl | (exfalso; omega)
 rw [chr_bad _ (by simp) e]; simp
/-- The bounds of a second byte. -/
def loN (x : Nat) : Nat := if x = 224 then 160 else if x = 240 then 144 else 128
def hiN (x : Nat) : Nat := if x = 237 then 159 else if x = 244 then 143 else 191
theorem fu1 (a : UInt8) : fuB [a] = (decide (a.toNat < 194) || decide (244 < a.toNat)) := by
 unfold fuB
 simp only [List.length_cons, List.length_nil]
 by_cases h : a.toNat < 194 ∨ 244 < a.toNat
 ·rw [if_pos h]; rcases h with h | h <;> simp [h]
 ·have h1 : ¬ a.toNat < 194 := fun k => h (.inl k)
  have h2 : ¬ 244 < a.toNat := fun k => h (.inr k)
  rw [if_neg h]
  by_cases h3 : a.toNat < 224
  ·simp [h1, h2, h3]
  ·have : ¬ (if a.toNat < 240 then 3 else 4) ≤ 0 + 1 := by split <;> omega
   simp [h1, h2, h3, this]
theorem fu2 (a b : UInt8) (ha : 194 ≤ a.toNat ∧ a.toNat ≤ 244) : fuB [a, b] = (decide (a.toNat < 224) || (decide (b.toNat < loN a.toNat) || decide (hiN a.toNat < b.toNat))) := by
 unfold fuB loN hiN
 simp only [List.length_cons, List.length_nil]
 rw [if_neg (by omega)]
 by_cases h3 : a.toNat < 224
 ·simp [h3]
 ·have : ¬ (if a.toNat < 240 then 3 else 4) ≤ 0 + 1 + 1 := by split <;> omega
  rw [if_neg h3, if_neg this]
  generalize (if a.toNat = 224 then 160 else if a.toNat = 240 then 144 else 128) = lo
  generalize (if a.toNat = 237 then 159 else if a.toNat = 244 then 143 else 191) = hi
  by_cases h : b.toNat < lo ∨ hi < b.toNat
  ·rw [if_pos h]; rcases h with h | h <;> simp [h]
  ·have h1 : ¬ b.toNat < lo := fun k => h (.inl k)
   have h2 : ¬ hi < b.toNat := fun k => h (.inr k)
   simp [h3, h1, h2]
theorem fu3 (a b c : UInt8) (ha : 224 ≤ a.toNat ∧ a.toNat ≤ 244) (hb : fuB [a, b] = false) : fuB [a, b, c] = (decide (a.toNat < 240) || decide (c.toNat < 128 ∨ 191 < c.toNat)) := by
 rw [fu2 a b (by omega)] at hb
 simp only [Bool.or_eq_false_iff, decide_eq_false_iff_not] at hb
 unfold loN hiN at hb
 unfold fuB
 simp only [List.length_cons, List.length_nil]
 rw [if_neg (by omega), if_neg (by omega)]
 generalize (if a.toNat = 224 then 160 else if a.toNat = 240 then 144 else 128) = lo at hb ⊢
 generalize (if a.toNat = 237 then 159 else if a.toNat = 244 then 143 else 191) = hi at hb ⊢
 by_cases h : a.toNat < 240
 ·simp [h]
 ·have h1 : ¬ (b.toNat < lo ∨ hi < b.toNat) := by omega
  simp [h, h1]
theorem fu4 (a b c d : UInt8) (ha : 240 ≤ a.toNat ∧ a.toNat ≤ 244) : fuB [a, b, c, d] = true := by
 unfold fuB
 simp only [List.length_cons, List.length_nil]
 rw [if_neg (by omega), if_neg (by omega)]
 simp [show ¬ a.toNat < 240 by omega]
theorem lo_hi {x b : Nat} (hx : 194 ≤ x ∧ x ≤ 244) (h1 : ¬ b < loN x) (h2 : ¬ hiN x < b) : b / 64 = 2 ∧ (x = 224 → 160 ≤ b) ∧ (x = 237 → b ≤ 159) ∧ (x = 240 → 144 ≤ b) ∧ (x = 244 → b ≤ 143) := by
 unfold loN at h1
 unfold hiN at h2
 repeat' split at h1
 all_goals repeat' split at h2
 all_goals refine ⟨?_, ?_, ?_, ?_, ?_⟩
 all_goals omega
theorem lo_bad {x b : Nat} (hx : 224 ≤ x ∧ x ≤ 244) (h : b < loN x ∨ hiN x < b) (hb : b < 256) : b / 64 ≠ 2 ∨ (x = 224 ∧ b < 160) ∨ (x = 237 ∧ 159 < b) ∨ (x = 240 ∧ b < 144) ∨ (x = 244 ∧ 143 < b) := by
 unfold loN hiN at h
 repeat' split at h
 all_goals omega
/-- A byte more behind a beginning: what the machine finds, and what the program finds. -/
theorem beg_fu (p : List UInt8) (c : UInt8) (hp : p ≠ [] → fuB p = false) (hc : p = [] → 128 ≤ c.toNat) : (chr (p ++ [c]) = none → fuB (p ++ [c]) = true) ∧ (chr (p ++ [c]) ≠ none → begB (p ++ [c]) = !fuB (p ++ [c])) := by
 have hcl := c.toNat_lt
 match p, hp, hc with
 | [], _, hc =>
  have h128 := hc rfl
  refine ⟨fun h => absurd h (few1 h128), fun _ => ?_⟩
  show begB [c] = !fuB [c]
  rw [fu1]
  by_cases h : c.toNat < 194 ∨ 244 < c.toNat
  ·rw [beg_false (fun y => bad1 y h128 h)]
   rcases h with h | h <;> simp [h]
  ·have h1 : ¬ c.toNat < 194 := fun k => h (.inl k)
   have h2 : ¬ 244 < c.toNat := fun k => h (.inr k)
   rw [show (!(decide (c.toNat < 194) || decide (244 < c.toNat))) = true by simp [h1, h2]]
   by_cases k1 : c.toNat ≤ 223
   ·exact beg_six (c := 128) (by simp) (w2 (by omega) (by decide))
   ·by_cases k2 : c.toNat = 224
    ·exact beg_one (c := 160) rfl (by simp) (.inl (w3 (by omega) (by decide) (by decide) (fun _ => by decide) (fun k => by omega)))
    ·by_cases k3 : c.toNat ≤ 239
     ·exact beg_one (c := 128) rfl (by simp) (.inl (w3 (by omega) (by decide) (by decide) (fun k => by omega) (fun _ => by decide)))
     ·by_cases k4 : c.toNat = 240
      ·exact beg_one (c := 144) rfl (by simp) (.inr (w4 (by omega) (by decide) (by decide) (by decide) (fun _ => by decide) (fun k => by omega)))
      ·exact beg_one (c := 128) rfl (by simp) (.inr (w4 (by omega) (by decide) (by decide) (by decide) (fun k => by omega) (fun _ => by decide)))
 | [a], hp, _ =>
  have ha := hp (by simp)
  rw [fu1] at ha
  simp only [Bool.or_eq_false_iff, decide_eq_false_iff_not] at ha
  have ha' : 194 ≤ a.toNat ∧ a.toNat ≤ 244 := by omega
  show (chr [a, c] = none → fuB [a, c] = true) ∧ (chr [a, c] ≠ none → begB [a, c] = !fuB [a, c])
  rw [fu2 a c ha']
  by_cases k1 : a.toNat < 224
  ·refine ⟨fun _ => by simp [k1], fun h => ?_⟩
   have hcc : c.toNat / 64 ≠ 2 := fun k => h (w2 (by omega) k)
   rw [beg_false (fun y => bad2 y ha' (.inl hcc))]
   simp [k1]
  ·refine ⟨fun h => absurd h (few2 (by omega)), fun _ => ?_⟩
   by_cases h : c.toNat < loN a.toNat ∨ hiN a.toNat < c.toNat
   ·rw [beg_false (fun y => bad2 y ha' (lo_bad (by omega) h hcl))]
    rcases h with h | h <;> simp [h]
   ·have h1 : ¬ c.toNat < loN a.toNat := fun k => h (.inl k)
    have h2 : ¬ hiN a.toNat < c.toNat := fun k => h (.inr k)
    obtain ⟨e1, e2, e3, e4, e5⟩ := lo_hi ha' h1 h2
    rw [show (!(decide (a.toNat < 224) || (decide (c.toNat < loN a.toNat) || decide (hiN a.toNat < c.toNat)))) = true by simp [k1, h1, h2]]
    by_cases k3 : a.toNat ≤ 239
    ·exact beg_six (c := 128) (by simp) (w3 (by omega) e1 (by decide) e2 e3)
    ·exact beg_two (c := 128) (by simp) (w4 (by omega) e1 (by decide) (by decide) e4 e5)
 | [a, b], hp, _ =>
  have hb := hp (by simp)
  have ha' : 224 ≤ a.toNat ∧ a.toNat ≤ 244 := by
   have hb2 := hb
   unfold fuB at hb2
   simp only [List.length_cons, List.length_nil] at hb2
   split at hb2
   ·cases hb2
   ·split at hb2
    ·simp at hb2
    ·omega
  have hb' := hb
  rw [fu2 a b (by omega)] at hb'
  simp only [Bool.or_eq_false_iff, decide_eq_false_iff_not] at hb'
  obtain ⟨e1, e2, e3, e4, e5⟩ := lo_hi (by omega) hb'.2.1 hb'.2.2
  show (chr [a, b, c] = none → fuB [a, b, c] = true) ∧ (chr [a, b, c] ≠ none → begB [a, b, c] = !fuB [a, b, c])
  rw [fu3 a b c ha' hb]
  by_cases k1 : a.toNat < 240
  ·refine ⟨fun _ => by simp [k1], fun h => ?_⟩
   have hcc : c.toNat / 64 ≠ 2 := fun k => h (w3 (by omega) e1 k e2 e3)
   rw [beg_false (fun y => bad3 y ha' hcc)]
   simp [k1]
  ·refine ⟨fun h => absurd h (few3 (by omega)), fun _ => ?_⟩
   by_cases h : c.toNat < 128 ∨ 191 < c.toNat
   ·rw [beg_false (fun y => bad3 y ha' (by omega))]
    simp [h]
   ·rw [show (!(decide (a.toNat < 240) || decide (c.toNat < 128 ∨ 191 < c.toNat))) = true by simp [k1]; omega]
    exact beg_six (c := 128) (by simp) (w4 (by omega) e1 (by omega) (by decide) e4 e5)
 | [a, b, d], hp, _ =>
  have hb := hp (by simp)
  have hx : 240 ≤ a.toNat ∧ a.toNat ≤ 244 ∧ fuB [a, b] = false ∧ d.toNat / 64 = 2 := by
   have ha' : 224 ≤ a.toNat ∧ a.toNat ≤ 244 := by
    have hb2 := hb
    unfold fuB at hb2
    simp only [List.length_cons, List.length_nil] at hb2
    split at hb2
    ·cases hb2
    ·split at hb2
     ·simp at hb2
     ·omega
   have h2 : fuB [a, b] = false := by
    cases h2 : fuB [a, b] with
    | false => rfl
    | true =>
     exfalso
     rw [fu2 a b (by omega)] at h2
     have h3 : decide (a.toNat < 224) = false := by simp; omega
     rw [h3, Bool.false_or] at h2
     simp only [Bool.or_eq_true, decide_eq_true_eq] at h2
     unfold loN hiN at h2
     unfold fuB at hb
     simp only [List.length_cons, List.length_nil] at hb
     rw [if_neg (by omega), if_neg (by omega), if_pos h2] at hb
     split at hb <;> cases hb
   rw [fu3 a b d ha' h2] at hb
   simp only [Bool.or_eq_false_iff, decide_eq_false_iff_not] at hb
   exact ⟨by omega, by omega, h2, by omega⟩
  obtain ⟨x1, x2, x3, x4⟩ := hx
  rw [fu2 a b (by omega)] at x3
  simp only [Bool.or_eq_false_iff, decide_eq_false_iff_not] at x3
  obtain ⟨e1, e2, e3, e4, e5⟩ := lo_hi (by omega) x3.2.1 x3.2.2
  show (chr [a, b, d, c] = none → fuB [a, b, d, c] = true) ∧ (chr [a, b, d, c] ≠ none → begB [a, b, d, c] = !fuB [a, b, d, c])
  rw [fu4 a b d c ⟨x1, x2⟩]
  refine ⟨fun _ => rfl, fun h => ?_⟩
  have hcc : c.toNat / 64 ≠ 2 := fun k => h (w4 (by omega) e1 x4 k e4 e5)
  rw [beg_false (fun y => bad4 y ⟨x1, x2⟩ hcc)]
  rfl
 | a :: b :: d :: e :: r, hp, _ =>
  exfalso
  have hb := hp (by simp)
  unfold fuB at hb
  simp only [List.length_cons] at hb
  split at hb
  ·cases hb
  ·split at hb
   ·simp at hb
   ·rw [if_pos (by split <;> omega)] at hb
    cases hb
#print axioms beg_fu
end Go.Proofs.YtbnbngmnoffmkaaGreatDoor
end
