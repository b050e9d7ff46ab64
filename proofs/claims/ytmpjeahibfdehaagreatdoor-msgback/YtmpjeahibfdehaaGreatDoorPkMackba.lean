/-
  jsonx as mathematics: which values are alike.; for all texts and numbers JsonxBlanks answers true: blanks ahead of a text and behind it.; jsonx: slices.EqualFunc by alike; sameMembers; alike; Same.; jsonx's statements: a value in memory of its own (own): a value in the midst of being copied; slices.Clone of names.; jsonx: sameMembers.; jsonx: alike; Same.; for all pairs of texts JsonxOne answers true.
-/
import Derived.Test.YtmpjeahibfdehaaGreatDoorPkMackaz
import Derived.Test.YtmpjeahibfdehaaGreatDoorPkMackar
import Derived.Test.YtmpjeahibfdehaaGreatDoorPkMackau
import Derived.BigQuiet
import Derived.Deep.RegionHeld3
section
set_option linter.unusedVariables false
namespace Go.Proofs.YtmpjeahibfdehaaGreatDoor
open Go.RowKit

def eqA (A : Js → Js → Bool) : List Js → List Js → Bool
 | x :: r, y :: s => A x y && eqA A r s
 | _, _ => true
def smA (A : Js → Js → Bool) (ns ms : List (List UInt8)) (is js : List Js) : List Nat → List Nat → Bool
 | i :: o, j :: p => (decide (nmA ns i = nmA ms j) && A (is.getD i Js.nul) (js.getD j Js.nul)) && smA A ns ms is js o p
 | _, _ => true
def alF (A : Js → Js → Bool) : Js → Js → Bool
 | .mk k n t ns is, .mk k' n' t' ns' is' => (decide (k = k') && decide (n = n') && decide (t = t') && decide (is.length = is'.length)) && (if k = 5 then smA A ns ns' is is' (ordS ns) (ordS ns') else eqA A is is')
theorem alF_eq (A : Js → Js → Bool) (k n : Int) (t : List UInt8) (ns : List (List UInt8)) (is : List Js) (k' n' : Int) (t' : List UInt8) (ns' : List (List UInt8)) (is' : List Js) : alF A (.mk k n t ns is) (.mk k' n' t' ns' is') = ((decide (k = k') && decide (n = n') && decide (t = t') && decide (is.length = is'.length)) && (if k = 5 then smA A ns ns' is is' (ordS ns) (ordS ns') else eqA A is is')) := rfl
def alN : Nat → Js → Js → Bool
 | 0 => alF (fun _ _ => true)
 | n + 1 => alF (alN n)
theorem eqA_iff (A : Js → Js → Bool) (S : Js → Js) : ∀ (is js : List Js), is.length = js.length → (∀ x ∈ is, ∀ y ∈ js, A x y = true ↔ S x = S y) → (eqA A is js = true ↔ is.map S = js.map S)
 | [], [], _, _ => by simp [eqA]
 | [], y :: s, h, _ => by simp at h
 | x :: r, [], h, _ => by simp at h
 | x :: r, y :: s, h, hA => by
  have ih := eqA_iff A S r s (by simpa using h) (fun a ha b hb => hA a (List.mem_cons_of_mem _ ha) b (List.mem_cons_of_mem _ hb))
  simp only [eqA, Bool.and_eq_true, List.map_cons, List.cons.injEq]
  rw [ih, hA x List.mem_cons_self y List.mem_cons_self]
theorem smA_iff (A : Js → Js → Bool) (S : Js → Js) (ns ms : List (List UInt8)) (is js : List Js) : ∀ (o p : List Nat), o.length = p.length → (∀ i ∈ o, ∀ j ∈ p, A (is.getD i Js.nul) (js.getD j Js.nul) = true ↔ S (is.getD i Js.nul) = S (js.getD j Js.nul)) →
  (smA A ns ms is js o p = true ↔ o.map (nmA ns) = p.map (nmA ms) ∧ (o.map fun i => S (is.getD i Js.nul)) = p.map fun i => S (js.getD i Js.nul))
 | [], [], _, _ => by simp [smA]
 | [], y :: s, h, _ => by simp at h
 | x :: r, [], h, _ => by simp at h
 | x :: r, y :: s, h, hA => by
  have ih := smA_iff A S ns ms is js r s (by simpa using h) (fun a ha b hb => hA a (List.mem_cons_of_mem _ ha) b (List.mem_cons_of_mem _ hb))
  simp only [smA, Bool.and_eq_true, List.map_cons, List.cons.injEq, decide_eq_true_eq]
  rw [ih, hA x List.mem_cons_self y List.mem_cons_self]
  constructor
  ·rintro ⟨⟨h1, h2⟩, h3, h4⟩; exact ⟨⟨h1, h3⟩, h2, h4⟩
  ·rintro ⟨⟨h1, h3⟩, h2, h4⟩; exact ⟨⟨h1, h2⟩, h3, h4⟩
theorem ck_small {n : Nat} {k i : Int} {t : List UInt8} {ns : List (List UInt8)} {is : List Js} (h : ck n (.mk k i t ns is) = 0) (hk : k ≠ 5) : ns = [] := by
 obtain ⟨hw, _, _⟩ := ck_zero n k i t ns is h
 obtain ⟨hkk, _⟩ := wf_kind hw
 by_cases h4 : k = 4
 ·exact (wf4 hw h4).2.2
 ·exact (wf_flat hw (by omega)).1
/-- Two values are alike just if they are the same, their members by rising names. -/
theorem al_iff : ∀ (n : Nat) (a b : Js), ck n a = 0 → ck n b = 0 → (alN n a b = true ↔ srN n a = srN n b)
 | 0, .mk k i t ns is, .mk k' i' t' ns' is', ha, hb => by
  have fl : ∀ {k i : Int} {t : List UInt8} {ns : List (List UInt8)} {is : List Js}, ck 0 (.mk k i t ns is) = 0 → ns = [] ∧ is = [] ∧ k < 4 := by
   intro k i t ns is h
   obtain ⟨hw, _, h45⟩ := ck_zero 0 k i t ns is h
   obtain ⟨hkk, _⟩ := wf_kind hw
   have hk : k < 4 := by
    rcases hkk with h | h | h | h | h | h
    ·omega
    ·omega
    ·omega
    ·omega
    ·obtain ⟨m, e, _⟩ := h45 (.inl h); cases e
    ·obtain ⟨m, e, _⟩ := h45 (.inr h); cases e
   obtain ⟨h1, h2, _⟩ := wf_flat hw hk
   exact ⟨h1, h2, hk⟩
  obtain ⟨rfl, rfl, hk⟩ := fl ha
  obtain ⟨rfl, rfl, hk'⟩ := fl hb
  show alF _ _ _ = true ↔ _
  rw [alF_eq, if_neg (by omega)]
  simp [eqA, srN, and_assoc]
 | n + 1, .mk k i t ns is, .mk k' i' t' ns' is', ha, hb => by
  show alF (alN n) _ _ = true ↔ srF (srN n) _ = srF (srN n) _
  rw [alF_eq, srF_eq, srF_eq]
  by_cases hk : k = k'
  ·subst hk
   by_cases h5 : k = 5
   ·subst h5
    rw [if_pos rfl, if_pos rfl, if_pos rfl]
    obtain ⟨hw, hnd, h45⟩ := ck_zero (n + 1) _ i t ns is ha
    obtain ⟨hw', hnd', h45'⟩ := ck_zero (n + 1) _ i' t' ns' is' hb
    obtain ⟨rfl, rfl, hnl, hch⟩ := wf5 hw rfl
    obtain ⟨rfl, rfl, hnl', hch'⟩ := wf5 hw' rfl
    obtain ⟨m, e, hit⟩ := h45 (.inr rfl)
    cases e
    obtain ⟨m, e, hit'⟩ := h45' (.inr rfl)
    cases e
    have hr := ordS_ris ns
    have hr' := ordS_ris ns'
    simp only [decide_true, Bool.true_and, Bool.and_eq_true, decide_eq_true_eq, Js.mk.injEq, true_and]
    by_cases hl : is.length = is'.length
    ·rw [smA_iff (alN n) (srN n) ns ns' is is' (ordS ns) (ordS ns') (by rw [hr.len, hr'.len]; omega) (fun p hp q hq => al_iff n _ _ (hit _ (getD_mem (by have := hr.lt p hp; omega))) (hit' _ (getD_mem (by have := hr'.lt q hq; omega))))]
     exact ⟨fun h => h.2, fun h => ⟨hl, h⟩⟩
    ·constructor
     ·exact fun h => absurd h.1 hl
     ·intro h
      have e := congrArg List.length h.1
      rw [List.length_map, List.length_map, hr.len, hr'.len] at e
      omega
   ·rw [if_neg h5, if_neg h5, if_neg h5]
    have e1 := ck_small ha h5
    have e2 := ck_small hb h5
    subst e1
    subst e2
    simp only [decide_true, Bool.true_and, Bool.and_eq_true, decide_eq_true_eq, Js.mk.injEq, true_and]
    by_cases hl : is.length = is'.length
    ·have hrec : ∀ x ∈ is, ∀ y ∈ is', alN n x y = true ↔ srN n x = srN n y := by
      by_cases h4 : k = 4
      ·obtain ⟨_, _, h45⟩ := ck_zero (n + 1) _ i t [] is ha
       obtain ⟨_, _, h45'⟩ := ck_zero (n + 1) _ i' t' [] is' hb
       obtain ⟨m, e, hit⟩ := h45 (.inl h4)
       cases e
       obtain ⟨m, e, hit'⟩ := h45' (.inl h4)
       cases e
       exact fun x hx y hy => al_iff n x y (hit x hx) (hit' y hy)
      ·obtain ⟨hw, _, _⟩ := ck_zero (n + 1) _ i t [] is ha
       obtain ⟨hkk, _⟩ := wf_kind hw
       have hk4 : k < 4 := by
        rcases hkk with h | h | h | h | h | h
        ·rw [h]; decide
        ·rw [h]; decide
        ·rw [h]; decide
        ·rw [h]; decide
        ·exact absurd h h4
        ·exact absurd h h5
       obtain ⟨_, e, _⟩ := wf_flat hw hk4
       subst e
       intro x hx
       cases hx
     rw [eqA_iff (alN n) (srN n) is is' hl hrec]
     constructor
     ·rintro ⟨⟨⟨h1, h2⟩, _⟩, h4⟩; exact ⟨h1, h2, h4⟩
     ·rintro ⟨h1, h2, h4⟩; exact ⟨⟨⟨h1, h2⟩, hl⟩, h4⟩
    ·constructor
     ·exact fun h => absurd h.1.2 hl
     ·intro h
      have e := congrArg List.length h.2.2
      rw [List.length_map, List.length_map] at e
      exact absurd e hl
  ·rw [decide_eq_false hk]
   simp only [Bool.false_and, Bool.false_eq_true, false_iff]
   intro h
   split at h
   ·split at h
    ·omega
    ·simp only [Js.mk.injEq] at h; exact hk h.1
   ·split at h
    ·simp only [Js.mk.injEq] at h; exact hk h.1
    ·simp only [Js.mk.injEq] at h; exact hk h.1
/-- Same. -/
def saM (a b : Js) : Bool := decide (ck 16 a = 0) && (decide (ck 16 b = 0) && alN 16 a b)
end Go.Proofs.YtmpjeahibfdehaaGreatDoor
end
section
set_option linter.unusedVariables false
set_option maxRecDepth 1000000
namespace Go.Proofs.YtmpjeahibfdehaaGreatDoor
open Go.RowKit

def bl4 (i : Nat) : UInt8 := if i % 4 = 0 then 32 else if i % 4 = 1 then 9 else if i % 4 = 2 then 10 else 13
def pdL (k : Nat) : List UInt8 := (List.range k).map bl4
theorem pd_succ (k : Nat) : pdL (k + 1) = pdL k ++ [bl4 k] := by unfold pdL; rw [List.range_succ, List.map_append]; rfl
theorem pd_len (k : Nat) : (pdL k).length = k := by simp [pdL]
theorem pd_bk (k : Nat) : Bk (pdL k) := by
 intro c hc
 obtain ⟨i, _, rfl⟩ := List.mem_map.1 hc
 unfold bl4
 repeat' split
 all_goals decide
theorem op50 (o : Int) : ∃ r : Nat, r < 50 ∧ wrap64 ((IntKind.u64.wrap o).tmod 50) = (r : Int) := by
 have e : IntKind.u64.wrap o = o % 18446744073709551616 := by simp [IntKind.wrap, IntKind.bits, IntKind.signed]
 have h0 : 0 ≤ o % 18446744073709551616 := Int.emod_nonneg _ (by omega)
 have e2 : (o % 18446744073709551616).tmod 50 = o % 18446744073709551616 % 50 := Int.tmod_eq_emod_of_nonneg h0
 refine ⟨(o % 18446744073709551616 % 50).toNat, by omega, ?_⟩
 rw [e, e2, IntWalk.wrap64_in _ (by omega)]
 omega
theorem str_app4 (x y : List UInt8) : str x ++ str y = str (x ++ y) := by
 apply ByteArray.ext
 rw [ByteArray.data_append]
 simp [str]
theorem cut4 (w : World) (i : Nat) : (Instr.slice 9 (.string ⟨#[32, 9, 10, 13]⟩) (some (.int .i64 ((i % 4 : Nat) : Int))) (some (.int .i64 ((i % 4 : Nat) + 1 : Int))) none).run Tryz.prog w = .ok (.string (str [bl4 i])) w := by
 have h4 : i % 4 < 4 := Nat.mod_lt _ (by omega)
 rw [run_slice_string w 9 ⟨#[32, 9, 10, 13]⟩ .i64 .i64 ((i % 4 : Nat) : Int) ((i % 4 : Nat) + 1 : Int) Tryz.underlying9 (by omega) (by omega) (by show _ ≤ ((4 : Nat) : Int); omega)]
 have key : ∀ m : Nat, m < 4 → (⟨#[32, 9, 10, 13]⟩ : ByteArray).extract m (m + 1) = str [if m = 0 then 32 else if m = 1 then 9 else if m = 2 then 10 else 13] := by decide +kernel
 have e := key (i % 4) h4
 rw [show ((i % 4 : Nat) : Int).toNat = i % 4 by omega, show ((i % 4 : Nat) + 1 : Int).toNat = i % 4 + 1 by omega, e]
 rfl
theorem psM_at (s : List UInt8) : (psM s).2.1 ≤ s.length := by
 unfold psM
 split
 ·exact Nat.zero_le _
 ·split
  ·exact Nat.sub_le _ _
  ·split
   ·exact Nat.zero_le _
   ·exact Nat.sub_le _ _
end Go.Proofs.YtmpjeahibfdehaaGreatDoor
end
section
set_option linter.unusedVariables false
set_option maxRecDepth 1000000
namespace Go.Proofs.YtmpjeahibfdehaaGreatDoor
open Go.RowKit Go.Extern.Stop Go.Stop Go.Extern

/-- Two values are held against each other. -/
def AlP (C : Js → Js → Bool) (x y : Js) : Prop := ∀ (S : Nat → Prop) (v v' : Value) (w : World), JV w S v x → JV w S v' y → (∀ k, S k → k < w.heap.size) → Calls Tryz.prog 35 #[v, v'] w fun e w' => e = .returned (.bool (C x y)) ∧ Hid (Below w.heap.size w w')
set_option maxHeartbeats 8000000 in
theorem eqf_any (C : Js → Js → Bool) (is js : List Js) (hlen : is.length = js.length) (a b : Option Addr) (c d : Nat) (S : Nat → Prop) (w : World) (hI : JVs w S a 0 is) (hJ : JVs w S b 0 js) (hS : ∀ k, S k → k < w.heap.size) (hm : is.length ≤ 100000) (hC : ∀ x ∈ is, ∀ y ∈ js, AlP C x y) :
  Calls Tryz.prog 82 #[.slice a is.length c, .slice b js.length d, .func (.func 35) #[] #[]] w fun e w' => e = .returned (.bool (eqA C is js)) ∧ Hid (Below w.heap.size w w') := by
 rw [← hlen]
 obtain ⟨m, hm'⟩ : ∃ m, m = is.length := ⟨_, rfl⟩
 obtain ⟨R, hR⟩ : ∃ R, R = eqA C is js := ⟨_, rfl⟩
 rw [← hm', ← hR]
 have HR : Hid (R = eqA C (is.drop 0) (js.drop 0)) := by show _ = _; rw [hR, List.drop_zero, List.drop_zero]
 have HM : Hid (is.length = m ∧ js.length = m) := ⟨hm'.symm, by omega⟩
 have HI := hide hI
 have HJ := hide hJ
 have HS := hide hS
 have HC := hide hC
 have hm9 : m ≤ 100000 := by omega
 clear hI hJ hS hC hlen hm' hR hm
 go_enter Tryz.func82, Tryz.ntmps82
 go_wp2_with fail
 go_loopw [17] (fun v wr => ∃ i : Nat, i ≤ m ∧ v = .int .i64 (i : Int) ∧ Hid (R = eqA C (is.drop i) (js.drop i)) ∧ Hid (Below w.heap.size w wr)) (fun v _ => m - (intOf v).toNat)
 case atStart => exact ⟨0, Nat.zero_le _, rfl, HR, hide (Below.refl _ _)⟩
 case round =>
  obtain ⟨i, hi, rfl, HQ, HB⟩ := hrel
  by_cases hlt : i < m
  ·have hlt' : (i : Int) < (m : Int) := by omega
   obtain ⟨x, hx⟩ : ∃ x, is[i]? = some x := ⟨_, List.getElem?_eq_getElem (by rw [(uh HM).1]; exact hlt)⟩
   obtain ⟨y, hy⟩ : ∃ y, js[i]? = some y := ⟨_, List.getElem?_eq_getElem (by rw [(uh HM).2]; exact hlt)⟩
   have ex := ((jvs_iff w S a is 0).1 (uh HI) i x hx).keep (S' := S) (w' := wr) (fun k hk => ⟨hk, (uh HB).block k (uh HS k hk)⟩)
   have ey := ((jvs_iff w S b js 0).1 (uh HJ) i y hy).keep (S' := S) (w' := wr) (fun k hk => ⟨hk, (uh HB).block k (uh HS k hk)⟩)
   rw [Nat.zero_add] at ex ey
   obtain ⟨B, off, v0, v1, v2, v3, v4, rfl, hSb, g0, g1, g2, g3, g4, hj⟩ := ex
   obtain ⟨D, od, x0, x1, x2, x3, x4, rfl, hSd, f0, f1, f2, f3, f4, hj'⟩ := ey
   obtain ⟨jk, jn, jt, ja1, jn1, jc1, ja2, jn2, jc2, e⟩ := hj.form
   simp only [Value.agg.injEq, Array.mk.injEq, List.cons.injEq, and_true] at e
   obtain ⟨rfl, rfl, rfl, rfl, rfl⟩ := e
   obtain ⟨ik, inn, it, ia1, in1, ic1, ia2, in2, ic2, e⟩ := hj'.form
   simp only [Value.agg.injEq, Array.mk.injEq, List.cons.injEq, and_true] at e
   obtain ⟨rfl, rfl, rfl, rfl, rfl⟩ := e
   have HXM : Hid (x ∈ is ∧ y ∈ js) := ⟨List.mem_of_getElem? hx, List.mem_of_getElem? hy⟩
   have HQ2 : Hid (R = (C x y && eqA C (is.drop (i + 1)) (js.drop (i + 1)))) := by
    show _ = _
    have e1 : is.drop i = x :: is.drop (i + 1) := by
     have hl2 := (List.getElem?_eq_some_iff.1 hx).1
     rw [List.drop_eq_getElem_cons hl2]; congr 1; exact (List.getElem?_eq_some_iff.1 hx).2
    have e2 : js.drop i = y :: js.drop (i + 1) := by
     have hl2 := (List.getElem?_eq_some_iff.1 hy).1
     rw [List.drop_eq_getElem_cons hl2]; congr 1; exact (List.getElem?_eq_some_iff.1 hy).2
    rw [uh HQ, e1, e2]
    rfl
   obtain ⟨U, hU⟩ : ∃ U, U = (wr.alloc (.cells #[.int .i64 jk, .int .i64 jn, .string (str jt), .slice ja1 jn1 jc1, .slice ja2 jn2 jc2] 44)).alloc (.cells #[.int .i64 ik, .int .i64 inn, .string (str it), .slice ia1 in1 ic1, .slice ia2 in2 ic2] 44) := ⟨_, rfl⟩
   obtain ⟨V, hV⟩ : ∃ V, V = wr.heap.size := ⟨_, rfl⟩
   obtain ⟨X, hX⟩ : ∃ X, X = wr.heap.size + 1 := ⟨_, rfl⟩
   have bU : Below wr.heap.size wr U := by rw [hU]; exact below2 wr _ _
   have hbU := (uh HB).trans (bU.mono (uh HB).size)
   have rV : U.heap[V]? = some (.cells #[.int .i64 jk, .int .i64 jn, .string (str jt), .slice ja1 jn1 jc1, .slice ja2 jn2 jc2] 44 (0, 0)) := by rw [hU, hV, heap_alloc_old _ _ (by simp)]; exact heap_alloc_new _ _
   have rX : U.heap[X]? = some (.cells #[.int .i64 ik, .int .i64 inn, .string (str it), .slice ia1 in1 ic1, .slice ia2 in2 ic2] 44 (0, 0)) := by rw [hU, hX]; exact heap_alloc2_new _ _ _
   have HA := hide (uh HC x (uh HXM).1 y (uh HXM).2 S _ _ U (JV.keep (fun k hk => ⟨hk, bU.block k (Nat.lt_of_lt_of_le (uh HS k hk) (uh HB).size)⟩) _ _ hj) (JV.keep (fun k hk => ⟨hk, bU.block k (Nat.lt_of_lt_of_le (uh HS k hk) (uh HB).size)⟩) _ _ hj') (fun k hk => Nat.lt_of_lt_of_le (uh HS k hk) hbU.size))
   have HBU := hide hbU
   generalize C x y = E at HA HQ2
   obtain ⟨p0, p1, p2, p3, p4⟩ := cells5 rV
   obtain ⟨q0, q1, q2, q3, q4⟩ := cells5 rX
   clear hx hy hSb hSd hj hj' bU hbU rV rX HQ
   obtain ⟨U1, hU1⟩ : ∃ U1, U1 = wr.alloc (.cells #[.int .i64 jk, .int .i64 jn, .string (str jt), .slice ja1 jn1 jc1, .slice ja2 jn2 jc2] 44) := ⟨_, rfl⟩
   have kk : ∀ (o : Nat) (z : Value), wr.cell? ⟨D, o, none⟩ = some z → U1.cell? ⟨D, o, none⟩ = some z := fun o z h => by
    rw [hU1]
    have hd := World.block_lt_of_cell? wr _ h
    rw [World.cell?_alloc_old]
    ·exact h
    ·exact Nat.ne_of_lt hd
   replace f0 := kk _ _ f0
   replace f1 := kk _ _ f1
   replace f2 := kk _ _ f2
   replace f3 := kk _ _ f3
   replace f4 := kk _ _ f4
   rw [← hU1] at hU
   have hX1 : X = U1.heap.size := by rw [hX, hU1]; simp
   clear kk hX
   go_upto_region 6 with fail
   rw [← hU1, ← hV]
   clear hU1 hV g0 g1 g2 g3 g4
   go_upto_region 7 with fail
   rw [← hU, ← hX1]
   clear hU hX1 f0 f1 f2 f3 f4
   go_wp2_with fail
   refine (uh HA).mono ?_
   rintro e w5 ⟨rfl, h5⟩
   have HB5 : Hid (Below w.heap.size w w5) := (uh HBU).trans ((uh h5).mono (uh HBU).size)
   clear HA h5 p0 p1 p2 p3 p4 q0 q1 q2 q3 q4
   cases E with
   | true =>
    have HQ3 : Hid (R = eqA C (is.drop (i + 1)) (js.drop (i + 1))) := by show _ = _; rw [uh HQ2, Bool.true_and]
    go_wp2_with fail
    go_roundw
    case rel => exact ⟨i + 1, by omega, by go_num, HQ3, HB5⟩
    case measure => simp [intOf]; omega
   | false =>
    have HQ3 : Hid (R = false) := by show _ = _; rw [uh HQ2, Bool.false_and]
    go_wp2_with fail
    go_ret
    rw [uh HQ3]
    exact ⟨rfl, HB5⟩
  ·have him : i = m := by omega
   subst him
   have hlt' : ¬ (i : Int) < (i : Int) := by omega
   have HQ3 : Hid (R = true) := by show _ = _; rw [uh HQ, List.drop_eq_nil_of_le (by rw [(uh HM).1]; omega)]; rfl
   go_wp2_with fail
   go_ret
   rw [uh HQ3]
   exact ⟨rfl, HB⟩
end Go.Proofs.YtmpjeahibfdehaaGreatDoor
end
section
set_option linter.unusedVariables false
set_option maxRecDepth 1000000
namespace Go.Proofs.YtmpjeahibfdehaaGreatDoor
open Go.RowKit

/-- slices.Clone of names. -/
theorem nclone_any (a : Option Addr) (cp : Nat) (l : List (List UInt8)) (S : Nat → Prop) (w : World) (hr : NsF w S a l) (ha : a = none → cp = 0) (hlc : l.length ≤ cp) (hl : l.length ≤ 1000000) :
  Calls Tryz.prog 135 #[.slice a l.length cp] w fun e w' => ∃ a' c', e = .returned (.slice a' l.length c') ∧ Hid (OwnT w' w.heap.size a' c' l) ∧ Hid (Below w.heap.size w w') := by
 have hq := fun (wx : World) (a : Option Addr) (n c : Nat) => Lib.run_eql_slice_nil (P := Tryz.prog) wx 41 9 a n c 0 0 Tryz.underlying41
 cases a with
 | none =>
  have hc0 := ha rfl
  have hl0 : l = [] := List.eq_nil_of_length_eq_zero (by omega)
  subst hl0
  subst hc0
  have HO : Hid (OwnT w w.heap.size none 0 []) := ⟨rfl, .inl ⟨rfl, rfl⟩⟩
  go_enter Tryz.func135, Tryz.ntmps135
  go_wp2
  go_ret
  exact ⟨none, 0, rfl, HO, Below.refl _ _⟩
 | some ad =>
  have HSR : Hid (∀ o j u, (nsv l)[j]? = some u → (w.alloc o).cell? (ad.add j) = some u) := fun o j u hu => by
   obtain ⟨b, off, hh, _, hc⟩ := hr (by intro e; subst e; simp [nsv] at hu)
   obtain rfl : ad = ⟨b, off, none⟩ := by simpa using hh
   rw [addr_add]
   obtain ⟨s, hs, rfl⟩ : ∃ s, l[j]? = some s ∧ u = .string (str s) := by
    simp only [nsv, List.getElem?_map] at hu
    cases hx : l[j]? with
    | none => rw [hx] at hu; cases hu
    | some s => rw [hx] at hu; simp at hu; exact ⟨s, rfl, hu.symm⟩
   exact Lib.cell?_alloc_some o (hc j s hs)
  obtain ⟨i, hi, hz0, hz1, hz2⟩ := info_parts Tryz.infoT4
  have hnl : (nsv l).length = l.length := by simp [nsv]
  have HEM : Hid ((w.alloc (.cells #[] 9)).ownsRow w.heap.size 9 1 (.slice (some ⟨w.heap.size, 0, none⟩) 0 0) 0 []) := World.ownsRow_made w #[] 0 (Nat.le_refl _) (by unfold maxLen; omega) rfl
  clear hr ha
  go_enter Tryz.func135, Tryz.ntmps135
  go_wp2_with (at_builtin; refine wpList_append_own _ rfl _ _ 41 rfl w.heap.size 9 i (.string ByteArray.empty) 1 16 Tryz.underlying41 hi hz0 hz1 hz2 rfl (by decide) _ _ _ rfl (uh HEM) ad l.length cp (nsv l) rfl (by rw [hnl]; omega) (uh HSR _) (nsv_one l) ?k1 ?k2 ?k3 ?_)
  case k1 => unfold maxLen; omega
  case k2 => omega
  case k3 => simp
  intro v2 w2 ho2 hg2 _
  have HB : Hid (Below w.heap.size w w2) := below_grown (a := some ⟨w.heap.size, 0, none⟩) (bA _) hg2 (Nat.le_refl _) (fun k hk => by simp [blk] at hk; omega)
  obtain ⟨a', c', rfl⟩ : ∃ a' c', v2 = .slice a' l.length c' := by
   rcases ho2.2 with ⟨hv, hn⟩ | ⟨g, cap, cur, hv, _⟩
   ·have : l.length = 0 := by omega
    exact ⟨none, 0, by rw [hv, this]⟩
   ·exact ⟨some ⟨g, 0, none⟩, cap, by rw [hv]⟩
  have HO : Hid (OwnT w2 w.heap.size a' c' l) := by show OwnT _ _ _ _ _; simpa [OwnT] using ho2
  clear ho2 hg2
  go_wp2
  go_ret
  exact ⟨a', c', rfl, HO, HB⟩
/-! ### A value in the midst of being copied -/
structure Bw (w : World) (V lo : Nat) (k n : Int) (t : List UInt8) (ns : List (List UInt8)) (is : List Js) (a1 : Option Addr) (c1 : Nat) (a2 : Option Addr) (c2 : Nat) (xs : List Value) : Prop where
 row : w.heap[V]? = some (.cells #[.int .i64 k, .int .i64 n, .string (str t), .slice a1 ns.length c1, .slice a2 is.length c2] 44 (0, 0))
 nm : OwnT w lo a1 c1 ns
 it : OwnJ w lo a2 c2 is.length xs
 el : ∀ m j, is[m]? = some j → ∃ v, At5 xs m v ∧ JV w (Fp lo w.heap.size V a1 a2) v j
 v1 : blk a1 ≠ some V
 v2 : blk a2 ≠ some V
 v3 : ∀ k, blk a1 = some k → blk a2 ≠ some k
theorem Bw.lt {w : World} {V lo : Nat} {k n : Int} {t : List UInt8} {ns : List (List UInt8)} {is : List Js} {a1 : Option Addr} {c1 : Nat} {a2 : Option Addr} {c2 : Nat} {xs : List Value} (h : Bw w V lo k n t ns is a1 c1 a2 c2 xs) : V < w.heap.size := (aI h.row).1
theorem Bw.cells {w : World} {V lo : Nat} {k n : Int} {t : List UInt8} {ns : List (List UInt8)} {is : List Js} {a1 : Option Addr} {c1 : Nat} {a2 : Option Addr} {c2 : Nat} {xs : List Value} (h : Bw w V lo k n t ns is a1 c1 a2 c2 xs) : w.cell? ⟨V, 3, none⟩ = some (.slice a1 ns.length c1) ∧ w.cell? ⟨V, 4, none⟩ = some (.slice a2 is.length c2) ∧ (∀ j, w.frozen? ⟨V, j, none⟩ = false) :=
 ⟨cR6 h.row, cR6 h.row, fun j => frozen_of_row _ _ _ _ _ h.row⟩
/-- All from lo on stays. -/
theorem Bw.keep {w w' : World} {V lo : Nat} {k n : Int} {t : List UInt8} {ns : List (List UInt8)} {is : List Js} {a1 : Option Addr} {c1 : Nat} {a2 : Option Addr} {c2 : Nat} {xs : List Value} (h : Bw w V lo k n t ns is a1 c1 a2 c2 xs) (e : ∀ k, lo ≤ k ∨ k = V → k < w.heap.size → w'.heap[k]? = w.heap[k]?) (hs : w.heap.size ≤ w'.heap.size) : Bw w' V lo k n t ns is a1 c1 a2 c2 xs :=
 { h with
  row := (e V (.inr rfl) h.lt).trans h.row
  nm := owns_same h.nm (fun k hk => e k (.inl (owns_lt h.nm k hk).1) (owns_lt h.nm k hk).2)
  it := owns_same h.it (fun k hk => e k (.inl (owns_lt h.it k hk).1) (owns_lt h.it k hk).2)
  el := fun m j hj => by
   obtain ⟨v, h1, h2⟩ := h.el m j hj
   exact ⟨v, h1, JV.keep (fun k hk => ⟨⟨hk.1, by have := hk.2.1; omega, hk.2.2⟩, e k (.inl hk.1) hk.2.1⟩) j v h2⟩ }
theorem Bw.below {w w' : World} {V lo : Nat} {k n : Int} {t : List UInt8} {ns : List (List UInt8)} {is : List Js} {a1 : Option Addr} {c1 : Nat} {a2 : Option Addr} {c2 : Nat} {xs : List Value} (h : Bw w V lo k n t ns is a1 c1 a2 c2 xs) (m : Below w.heap.size w w') : Bw w' V lo k n t ns is a1 c1 a2 c2 xs :=
 h.keep (fun k hk hl => m.block k hl) m.size
/-- One item more. -/
theorem Bw.push {u w2 w4 : World} {V lo old : Nat} {k n : Int} {t : List UInt8} {ns : List (List UInt8)} {is : List Js} {a1 : Option Addr} {c1 : Nat} {a2 : Option Addr} {c2 : Nat} {xs : List Value} (h : Bw u V lo k n t ns is a1 c1 a2 c2 xs) {v0 v1 v2 v3 v4 : Value} {j : Js} (hj : JV u (fun k => old ≤ k ∧ k < u.heap.size) (.agg #[v0, v1, v2, v3, v4]) j) (hold : lo ≤ old) (hV : V < old) (h1 : ∀ k, blk a1 = some k → k < old) (h2 : ∀ k, blk a2 = some k → k < old)
  {g cap : Nat} (hg : u.grownBy w2 (blk a2)) (hat : blk a2 = some g ∨ g = u.heap.size) (hgl : g < w2.heap.size)
  (hr : w4.heap[V]? = some (.cells #[.int .i64 k, .int .i64 n, .string (str t), .slice a1 ns.length c1, .slice (some ⟨g, 0, none⟩) (is.length + 1) cap] 44 (0, 0)))
  (ho : OwnJ w4 lo (some ⟨g, 0, none⟩) cap (is.length + 1) (xs ++ [v0, v1, v2, v3, v4])) (hk : ∀ k, k ≠ V → k ≠ g → w4.heap[k]? = w2.heap[k]?) (hs : w4.heap.size = w2.heap.size) :
  Bw w4 V lo k n t ns (is ++ [j]) a1 c1 (some ⟨g, 0, none⟩) cap (xs ++ [v0, v1, v2, v3, v4]) := by
 have hxl : xs.length = is.length * 5 := h.it.1
 have hbg : blk (some (⟨g, 0, none⟩ : Addr)) = some g := rfl
 have hgV : g ≠ V := by
  rintro rfl
  rcases hat with e | e
  ·exact h.v2 e
  ·have := h.lt; omega
 have hg1 : ∀ m, blk a1 = some m → m ≠ g := by
  rintro m hm rfl
  rcases hat with e | e
  ·exact h.v3 m hm e
  ·have := (owns_lt h.nm m hm).2; omega
 have blkU : ∀ m, m < u.heap.size → m ≠ V → m ≠ g → blk a2 ≠ some m → w4.heap[m]? = u.heap[m]? := fun m hm n1 n2 n3 => (hk m n1 n2).trans (hg.block m hm (fun e => n3 e.symm))
 refine ⟨by rw [List.length_append]; exact hr, owns_same h.nm (fun m hm => blkU m (owns_lt h.nm m hm).2 (fun e => h.v1 (by rw [hm, e])) (hg1 m hm) (h.v3 m hm)), ?_, ?_, h.v1, by rw [hbg]; exact fun e => hgV (Option.some.inj e), fun m hm e => hg1 m hm (Option.some.inj (hbg.symm.trans e)).symm⟩
 ·rw [List.length_append]; exact ho
 ·intro m x hx
  have sz : u.heap.size ≤ w4.heap.size := by rw [hs]; exact hg.size
  by_cases hm : m < is.length
  ·rw [List.getElem?_append_left hm] at hx
   obtain ⟨v, ⟨z0, z1, z2, z3, z4, e0, q0, q1, q2, q3, q4⟩, hv⟩ := h.el m x hx
   refine ⟨v, ⟨z0, z1, z2, z3, z4, e0, ?_, ?_, ?_, ?_, ?_⟩, JV.keep (fun b hb => ?_) x v hv⟩
   ·rw [List.getElem?_append_left (by omega)]; exact q0
   ·rw [List.getElem?_append_left (by omega)]; exact q1
   ·rw [List.getElem?_append_left (by omega)]; exact q2
   ·rw [List.getElem?_append_left (by omega)]; exact q3
   ·rw [List.getElem?_append_left (by omega)]; exact q4
   ·have hbn : b ≠ g := by
     rintro rfl
     rcases hat with e | e
     ·exact hb.2.2.2.2 e
     ·have := hb.2.1; omega
    exact ⟨⟨hb.1, by have := hb.2.1; omega, hb.2.2.1, hb.2.2.2.1, by rw [hbg]; exact fun e => hbn (Option.some.inj e).symm⟩, blkU b hb.2.1 hb.2.2.1 hbn hb.2.2.2.2⟩
  ·have hlt := (List.getElem?_eq_some_iff.1 hx).1
   simp at hlt
   obtain rfl : m = is.length := by omega
   simp at hx
   subst hx
   refine ⟨_, ⟨v0, v1, v2, v3, v4, rfl, ?_, ?_, ?_, ?_, ?_⟩, JV.keep (fun b hb => ?_) j _ hj⟩
   ·rw [List.getElem?_append_right (by omega), show is.length * 5 - xs.length = 0 by omega]; rfl
   ·rw [List.getElem?_append_right (by omega), show is.length * 5 + 1 - xs.length = 1 by omega]; rfl
   ·rw [List.getElem?_append_right (by omega), show is.length * 5 + 2 - xs.length = 2 by omega]; rfl
   ·rw [List.getElem?_append_right (by omega), show is.length * 5 + 3 - xs.length = 3 by omega]; rfl
   ·rw [List.getElem?_append_right (by omega), show is.length * 5 + 4 - xs.length = 4 by omega]; rfl
   ·have n2 : blk a2 ≠ some b := fun e => by have := h2 b e; omega
    have n1 : blk a1 ≠ some b := fun e => by have := h1 b e; omega
    have hbn : b ≠ g := by
     rintro rfl
     rcases hat with e | e
     ·exact n2 e
     ·omega
    exact ⟨⟨by omega, by omega, by omega, n1, by rw [hbg]; exact fun e => hbn (Option.some.inj e).symm⟩, blkU b hb.2 (by omega) hbn n2⟩
/-- append(items, one item), as a step of a region that draws its order. -/
theorem stp_app5 (w : World) {ops : Array Oper} {o : Oper} {a : Act} {K : Act → World → Prop} {Q : Exit → Act → World → Prop} {E : Prop} (hgd : o.guard = none) (s x : Operand)
  (ho : o.op = .call { callee := .builtin .append, args := #[s, x], argTypes := #[42, 42] })
  (base : Nat) (a1 : Option Addr) (cap1 n1 : Nat) (xs : List Value) (hs : a.eval s = .slice a1 n1 cap1) (hown : OwnJ w base a1 cap1 n1 xs)
  (B c2 : Nat) (hx : a.eval x = .slice (some ⟨B, 0, none⟩) 1 c2) (zs : List Value) (hz5 : zs.length = 5) (hz1 : ∀ u ∈ zs, u.oneCell' = true) (hsrc : w.heap[B]? = some (.cells zs.toArray 44 (0, 0))) (hlen : n1 ≤ 1000000) (hb : base ≤ w.heap.size)
  (h : ∀ g cap w', Hid (OwnJ w' base (some ⟨g, 0, none⟩) cap (n1 + 1) (xs ++ zs)) → Hid (w.grownBy w' (blk a1)) → Hid (blk a1 = some g ∨ g = w.heap.size) → Hid (g < w'.heap.size) → K (a.put o.dst (.slice (some ⟨g, 0, none⟩) (n1 + 1) cap)) w') :
  if Region.wanted o (yielded ops a.tmps) = true then Oper.wp Tryz.prog o a w K Q else E := by
 obtain ⟨i, hi, hz0, hz1', hz2⟩ := info_parts Tryz.infoJ
 refine step_append_lies w hgd s x 42 ho base 44 i _ 5 80 Tryz.underlying42 hi hz0 hz1' hz2 rfl (by decide) _ _ _ hs hown ⟨B, 0, none⟩ 1 c2 zs hx (by rw [hz5]) ?_ hz1 (by decide) (by unfold maxLen; omega) (by omega) hb _ rfl ?_
 ·intro j u hu
  rw [addr_add, Nat.zero_add, cell_of_row w B j _ _ _ hsrc]
  simpa using hu
 ·intro g cap w' h1 h2 h3 h4
  have hblk : (Value.slice a1 n1 cap1).ownBlock = blk a1 := by cases a1 <;> rfl
  rw [hblk] at h2 h3
  exact h g cap w' h1 h2 h3 h4
/-- Blocks of what lies in a value, none of them its own two rows. -/
def Fq (lo hi : Nat) (a1 a2 : Option Addr) (k : Nat) : Prop := lo ≤ k ∧ k < hi ∧ blk a1 ≠ some k ∧ blk a2 ≠ some k
/-- A copy: its rows its own. -/
def CpJ (lo : Nat) (w : World) (v : Value) : Js → Prop
 | .mk k n t ns is => ∃ a1 c1 a2 c2 xs, v = .agg #[.int .i64 k, .int .i64 n, .string (str t), .slice a1 ns.length c1, .slice a2 is.length c2] ∧ OwnT w lo a1 c1 ns ∧ OwnJ w lo a2 c2 is.length xs ∧ (∀ m j, is[m]? = some j → ∃ v, At5 xs m v ∧ JV w (Fq lo w.heap.size a1 a2) v j) ∧ (∀ k, blk a1 = some k → blk a2 ≠ some k)
theorem CpJ.jv {lo : Nat} {w : World} {v : Value} {j : Js} (h : CpJ lo w v j) {S : Nat → Prop} (hS : ∀ k, lo ≤ k → k < w.heap.size → S k) : JV w S v j := by
 cases j with
 | mk k n t ns is =>
 obtain ⟨a1, c1, a2, c2, xs, rfl, hT, hJ, hel, _⟩ := h
 simp only [JV]
 obtain ⟨t1, t2, t3⟩ := owns_cap hT
 obtain ⟨j1, j2, j3⟩ := owns_cap hJ
 refine ⟨a1, c1, a2, c2, rfl, hT.nsf (fun k hk => hS k (owns_lt hT k hk).1 (owns_lt hT k hk).2), t1, t2, t3, j1, j2, j3, (jvs_iff _ _ _ _ _).2 (fun m j hj => ?_)⟩
 obtain ⟨v, ⟨v0, v1, v2, v3, v4, rfl, q0, q1, q2, q3, q4⟩, hv⟩ := hel m j hj
 have hm := (List.getElem?_eq_some_iff.1 hj).1
 rcases owns_cases hJ with ⟨_, _, h3, _⟩ | ⟨g, cur, rfl, hb, hg, _⟩
 ·omega
 ·refine ⟨g, 0, v0, v1, v2, v3, v4, rfl, hS g hb (aI hg).1, ?_, ?_, ?_, ?_, ?_, JV.keep (fun k hk => ⟨hS k hk.1 hk.2.1, rfl⟩) _ _ hv⟩
  ·rw [Nat.zero_add, Nat.zero_add]; exact (owns_cell hJ _ _ q0).1
  ·rw [Nat.zero_add, Nat.zero_add]; exact (owns_cell hJ _ _ q1).1
  ·rw [Nat.zero_add, Nat.zero_add]; exact (owns_cell hJ _ _ q2).1
  ·rw [Nat.zero_add, Nat.zero_add]; exact (owns_cell hJ _ _ q3).1
  ·rw [Nat.zero_add, Nat.zero_add]; exact (owns_cell hJ _ _ q4).1
theorem Bw.cp {w : World} {V lo : Nat} {k n : Int} {t : List UInt8} {ns : List (List UInt8)} {is : List Js} {a1 : Option Addr} {c1 : Nat} {a2 : Option Addr} {c2 : Nat} {xs : List Value} (h : Bw w V lo k n t ns is a1 c1 a2 c2 xs) : CpJ lo w (.agg #[.int .i64 k, .int .i64 n, .string (str t), .slice a1 ns.length c1, .slice a2 is.length c2]) (.mk k n t ns is) :=
 ⟨a1, c1, a2, c2, xs, rfl, h.nm, h.it, fun m j hj => by
  obtain ⟨v, h1, h2⟩ := h.el m j hj
  exact ⟨v, h1, JV.keep (fun k hk => ⟨⟨hk.1, hk.2.1, hk.2.2.2.1, hk.2.2.2.2⟩, rfl⟩) _ _ h2⟩, h.v3⟩
end Go.Proofs.YtmpjeahibfdehaaGreatDoor
end
section
set_option linter.unusedVariables false
set_option maxRecDepth 1000000
namespace Go.Proofs.YtmpjeahibfdehaaGreatDoor
open Go.RowKit Go.Extern.Stop Go.Stop Go.Extern

set_option maxHeartbeats 8000000 in
theorem sm_any (C : Js → Js → Bool) (k n : Int) (t : List UInt8) (ns : List (List UInt8)) (is : List Js) (k' n' : Int) (t' : List UInt8) (ms : List (List UInt8)) (js : List Js) (S : Nat → Prop) (v v' : Value) (w : World)
  (hJ : JV w S v (.mk k n t ns is)) (hJ' : JV w S v' (.mk k' n' t' ms js)) (hS : ∀ k, S k → k < w.heap.size) (hd : ns.Nodup) (hd' : ms.Nodup) (hl1 : ns.length = is.length) (hl2 : ms.length = is.length) (hl3 : js.length = is.length) (hm : is.length ≤ 100000) (hC : ∀ x ∈ is, ∀ y ∈ js, AlP C x y) :
  Calls Tryz.prog 81 #[v, v'] w fun e w' => e = .returned (.bool (smA C ns ms is js (ordS ns) (ordS ms))) ∧ Hid (Below w.heap.size w w') := by
 simp only [JV] at hJ hJ'
 obtain ⟨a1, c1, a2, c2, rfl, hN, hnc, hnm, _, hic, him, _, hIt⟩ := hJ
 obtain ⟨b1, d1, b2, d2, rfl, hN', hnc', _, _, hic', _, _, hIt'⟩ := hJ'
 obtain ⟨m, hm'⟩ : ∃ m, m = is.length := ⟨_, rfl⟩
 rw [hl1, hl2, hl3, ← hm']
 rw [hl1] at hnc
 rw [hl2] at hnc'
 rw [hl3] at hic'
 rw [← hm'] at hnc hnc' hic hic' hm
 obtain ⟨V, hV⟩ : ∃ V, V = w.heap.size := ⟨_, rfl⟩
 obtain ⟨X, hX⟩ : ∃ X, X = w.heap.size + 1 := ⟨_, rfl⟩
 obtain ⟨W, hW⟩ : ∃ W, W = (w.alloc (.cells #[.int .i64 k, .int .i64 n, .string (str t), .slice a1 m c1, .slice a2 m c2] 44)).alloc (.cells #[.int .i64 k', .int .i64 n', .string (str t'), .slice b1 m d1, .slice b2 m d2] 44) := ⟨_, rfl⟩
 have bW : Below w.heap.size w W := by rw [hW]; exact below2 w _ _
 have rV : W.heap[V]? = some (.cells #[.int .i64 k, .int .i64 n, .string (str t), .slice a1 m c1, .slice a2 m c2] 44 (0, 0)) := by rw [hW, hV, heap_alloc_old _ _ (by simp)]; exact heap_alloc_new _ _
 have rX : W.heap[X]? = some (.cells #[.int .i64 k', .int .i64 n', .string (str t'), .slice b1 m d1, .slice b2 m d2] 44 (0, 0)) := by rw [hW, hX]; exact heap_alloc2_new _ _ _
 have HKV : Hid (∀ u, Below W.heap.size W u → u.heap[V]? = some (.cells #[.int .i64 k, .int .i64 n, .string (str t), .slice a1 m c1, .slice a2 m c2] 44 (0, 0))) := fun u hb => (hb.block V (aI rV).1).trans rV
 have HKX : Hid (∀ u, Below W.heap.size W u → u.heap[X]? = some (.cells #[.int .i64 k', .int .i64 n', .string (str t'), .slice b1 m d1, .slice b2 m d2] 44 (0, 0))) := fun u hb => (hb.block X (aI rX).1).trans rX
 have HBw : Hid (∀ u, Below W.heap.size W u → Below w.heap.size w u) := fun u hb => bW.trans (hb.mono bW.size)
 have HSK : Hid (∀ u, Below W.heap.size W u → ∀ k, S k → S k ∧ u.heap[k]? = w.heap[k]?) := fun u hb k hk => ⟨hk, (uh HBw u hb).block k (hS k hk)⟩
 have HRa : Hid (∀ u, Below W.heap.size W u → Calls Tryz.prog 115 #[.slice a1 m c1] u fun e w' => Below u.heap.size u w' ∧ ∃ ao o, e = .returned (.slice ao m m) ∧ RisO ns o ∧ OrR w' u.heap.size ao o) := fun u hb => by
  have hr := rising_any a1 c1 ns S u (hN.keep (uh HSK u hb)) (by omega)
  have e : ns.length = m := by omega
  rw [e] at hr
  refine hr.mono ?_
  rintro _ w' ⟨h1, ao, o, rfl, h3, h4⟩
  rw [e]
  exact ⟨h1, ao, o, rfl, h3, h4⟩
 have HRb : Hid (∀ u, Below W.heap.size W u → Calls Tryz.prog 115 #[.slice b1 m d1] u fun e w' => Below u.heap.size u w' ∧ ∃ ao o, e = .returned (.slice ao m m) ∧ RisO ms o ∧ OrR w' u.heap.size ao o) := fun u hb => by
  have hr := rising_any b1 d1 ms S u (hN'.keep (uh HSK u hb)) (by omega)
  have e : ms.length = m := by omega
  rw [e] at hr
  refine hr.mono ?_
  rintro _ w' ⟨h1, ao, o, rfl, h3, h4⟩
  rw [e]
  exact ⟨h1, ao, o, rfl, h3, h4⟩
 have HN := hide hN
 have HN' := hide hN'
 have HI := hide hIt
 have HI' := hide hIt'
 have HS := hide hS
 have HC := hide hC
 have HD := hide hd
 have HD' := hide hd'
 have HL : Hid (ns.length = m ∧ ms.length = m ∧ is.length = m ∧ js.length = m) := ⟨by omega, by omega, by omega, by omega⟩
 have HWW := hide bW
 obtain ⟨R, hR⟩ : ∃ R, R = smA C ns ms is js (ordS ns) (ordS ms) := ⟨_, rfl⟩
 rw [← hR]
 have HR := hide hR
 obtain ⟨p0, p1, p2, p3, p4⟩ := cells5 rV
 obtain ⟨q0, q1, q2, q3, q4⟩ := cells5 rX
 have HRa1 := hide (uh HRa W.drew (Below.refl _ _).drew)
 have hmB : m ≤ 100000 := hm
 clear hN hN' hIt hIt' hS hC hd hd' hl1 hl2 hl3 hm' bW rV rX hR hnm him hm HRa
 go_enter Tryz.func81, Tryz.ntmps81
 go_upto_region 1 with fail
 rw [← hW, ← hX, ← hV]
 clear hW hV hX
 go_region_held3 (fun w' => w'.cell? ⟨V, 3, none⟩ = some (.slice a1 m c1) ∧ w'.cell? ⟨X, 3, none⟩ = some (.slice b1 m d1)) (first | exact ⟨p3, q3⟩ | exact S6 | exact S5 | assumption | go_keep) ((first | (go_at_call 115; have hh := HB5; clear hh; refine (uh HRb w5 (uh HB5)).mono ?_; rintro e w6 ⟨hb6, ao', o', rfl, hO6, hR6⟩; have HB6 : Hid (Below W.heap.size W w6) := (uh HB5).trans (hb6.mono (uh HB5).size); have S6 := (And.intro ((cells5 (uh HKV w6 (uh HB6))).2.2.2.1) ((cells5 (uh HKX w6 (uh HB6))).2.2.2.1))) | (go_at_call 115; refine (uh HRa1).mono ?_; rintro e w5 ⟨hb5, ao, o, rfl, hO5, hR5⟩; have HB5 : Hid (Below W.heap.size W w5) := ((Below.refl _ _).drew : Below W.heap.size W W.drew).trans hb5; have S5 := (And.intro ((cells5 (uh HKV w5 (uh HB5))).2.2.2.1) ((cells5 (uh HKX w5 (uh HB5))).2.2.2.1)))))
 have eo : o = ordS ns := hO5.eq (uh HD) (ordS_ris ns)
 have eo' : o' = ordS ms := hO6.eq (uh HD') (ordS_ris ms)
 have HRR : Hid (R = smA C ns ms is js (o.drop 0) (o'.drop 0)) := by show _ = _; rw [uh HR, List.drop_zero, List.drop_zero, eo, eo']
 have hol : o.length = m := by rw [hO5.len, (uh HL).1]
 have hol' : o'.length = m := by rw [hO6.len, (uh HL).2.1]
 have HLt : Hid (∀ i ∈ o, i < m) := fun i hi => by have := hO5.lt i hi; have := (uh HL).1; omega
 have HLt' : Hid (∀ i ∈ o', i < m) := fun i hi => by have := hO6.lt i hi; have := (uh HL).2.1; omega
 have HOR : Hid (∀ u, Below w6.heap.size w6 u → OrR u W.heap.size ao o ∧ OrR u W.heap.size ao' o') := fun u hb => by
  have e1 : W.drew.heap.size = W.heap.size := rfl
  have h1 := (hR5.below hb6).below hb
  have h2 := hR6.below hb
  have low : ∀ {lo lo' : Nat} {a : Option Addr} {l : List Nat}, OrR u lo a l → lo' ≤ lo → OrR u lo' a l := by
   intro lo lo' a l h hle hne
   obtain ⟨G, cur, g1, g2, g3, g4⟩ := h hne
   exact ⟨G, cur, g1, by omega, g3, g4⟩
  exact ⟨low h1 (by rw [e1]; exact Nat.le_refl _), low h2 (uh HB5).size⟩
 have HO := hide hol
 have HO' := hide hol'
 clear hO5 hR5 hO6 hR6 eo eo' hol hol' hb5 hb6 HR p0 p1 p2 p3 p4 q0 q1 q2 q3 q4 HRa1 HRb S5 S6
 go_wp2_with fail
 go_loopw [18] (fun v wr => ∃ i : Nat, i ≤ m ∧ v = .int .i64 (i : Int) ∧ Hid (R = smA C ns ms is js (o.drop i) (o'.drop i)) ∧ Hid (Below w6.heap.size w6 wr)) (fun v _ => m - (intOf v).toNat)
 case atStart => exact ⟨0, Nat.zero_le _, rfl, HRR, hide (Below.refl _ _)⟩
 case round =>
  obtain ⟨i, hi, rfl, HQ, HB⟩ := hrel
  have HBW : Hid (Below W.heap.size W wr) := (uh HB6).trans ((uh HB).mono (uh HB6).size)
  by_cases hlt : i < m
  ·have hlt' : (i : Int) < (m : Int) := by omega
   obtain ⟨p, hp⟩ : ∃ p, o[i]? = some p := ⟨_, List.getElem?_eq_getElem (by rw [uh HO]; exact hlt)⟩
   obtain ⟨q, hq⟩ : ∃ q, o'[i]? = some q := ⟨_, List.getElem?_eq_getElem (by rw [uh HO']; exact hlt)⟩
   have hpm := uh HLt p (List.mem_of_getElem? hp)
   have hqm := uh HLt' q (List.mem_of_getElem? hq)
   have hpi : (p : Int) < (m : Int) := by omega
   have hqi : (q : Int) < (m : Int) := by omega
   have hone : o ≠ [] := fun e => by rw [e] at hp; simp at hp
   have hone' : o' ≠ [] := fun e => by rw [e] at hq; simp at hq
   obtain ⟨G, cur, rfl, hGl, hGr, hGc⟩ := (uh HOR wr (uh HB)).1 hone
   obtain ⟨G', cur', rfl, hGl', hGr', hGc'⟩ := (uh HOR wr (uh HB)).2 hone'
   have g1 := hGc i p hp
   have g2 := hGc' i q hq
   have HQ2 : Hid (R = ((decide (nmA ns p = nmA ms q) && C (is.getD p Js.nul) (js.getD q Js.nul)) && smA C ns ms is js (o.drop (i + 1)) (o'.drop (i + 1)))) := by
    show _ = _
    have e1 : o.drop i = p :: o.drop (i + 1) := by
     have hl2 := (List.getElem?_eq_some_iff.1 hp).1
     rw [List.drop_eq_getElem_cons hl2]; congr 1; exact (List.getElem?_eq_some_iff.1 hp).2
    have e2 : o'.drop i = q :: o'.drop (i + 1) := by
     have hl2 := (List.getElem?_eq_some_iff.1 hq).1
     rw [List.drop_eq_getElem_cons hl2]; congr 1; exact (List.getElem?_eq_some_iff.1 hq).2
    rw [uh HQ, e1, e2]
    rfl
   clear hp hq hone hone' hGr hGr' hGc hGc' HQ hGl hGl'
   go_wp2_with fail
   go_quiet (fail)
   go_upto_region 6 with fail
   have HBy : Hid (Below w6.heap.size w6 (wr.drewN nq)) := bdr4 (uh HB) nq
   generalize hy : wr.drewN nq = y at HBy ⊢
   have HByW : Hid (Below W.heap.size W y) := (uh HB6).trans ((uh HBy).mono (uh HB6).size)
   have HFy := hide (uh HBw y (uh HByW))
   clear hy HB HBW g1 g2
   obtain ⟨p0, p1, p2, p3, p4⟩ := cells5 (uh HKV y (uh HByW))
   obtain ⟨q0, q1, q2, q3, q4⟩ := cells5 (uh HKX y (uh HByW))
   have hpn : p < ns.length := by rw [(uh HL).1]; exact hpm
   have hqn : q < ms.length := by rw [(uh HL).2.1]; exact hqm
   obtain ⟨B, ob, rfl, hSB, hBc⟩ := ((uh HN).keep (uh HSK y (uh HByW))) (by intro e; rw [e] at hpn; simp at hpn)
   obtain ⟨D, od, rfl, hSD, hDc⟩ := ((uh HN').keep (uh HSK y (uh HByW))) (by intro e; rw [e] at hqn; simp at hqn)
   have z1 := hBc p (nmA ns p) (by rw [nmA_get hpn, List.getElem?_eq_getElem])
   have z2 := hDc q (nmA ms q) (by rw [nmA_get hqn, List.getElem?_eq_getElem])
   by_cases hnm : nmA ns p = nmA ms q
   ·rw [hnm] at HQ2 z1
    rw [decide_eq_true rfl, Bool.true_and] at HQ2
    generalize nmA ms q = nm at z1 z2
    have e1 : ((str nm).toList != (str nm).toList) = false := by simp
    have hpi2 : p < is.length := by rw [(uh HL).2.2.1]; exact hpm
    have hqi2 : q < js.length := by rw [(uh HL).2.2.2]; exact hqm
    have ex := ((jvs_iff w S a2 is 0).1 (uh HI) p _ (List.getElem?_eq_getElem hpi2)).keep (S' := S) (w' := y) (uh HSK y (uh HByW))
    have ey := ((jvs_iff w S b2 js 0).1 (uh HI') q _ (List.getElem?_eq_getElem hqi2)).keep (S' := S) (w' := y) (uh HSK y (uh HByW))
    have gp : is.getD p Js.nul = is[p] := by rw [List.getD_eq_getElem?_getD, List.getElem?_eq_getElem hpi2]; rfl
    have gq : js.getD q Js.nul = js[q] := by rw [List.getD_eq_getElem?_getD, List.getElem?_eq_getElem hqi2]; rfl
    rw [gp, gq] at HQ2
    rw [Nat.zero_add] at ex ey
    have hmx := List.getElem_mem hpi2
    have hmy := List.getElem_mem hqi2
    generalize is[p] = jx at ex HQ2 hmx
    generalize js[q] = jy at ey HQ2 hmy
    obtain ⟨E1, off, v0, v1, v2, v3, v4, rfl, hSb, g0, g1, g2, g3, g4, hj⟩ := ex
    obtain ⟨E2, oe, x0, x1, x2, x3, x4, rfl, hSd, f0, f1, f2, f3, f4, hj'⟩ := ey
    obtain ⟨jk, jn, jt, ja1, jn1, jc1, ja2, jn2, jc2, e⟩ := hj.form
    simp only [Value.agg.injEq, Array.mk.injEq, List.cons.injEq, and_true] at e
    obtain ⟨rfl, rfl, rfl, rfl, rfl⟩ := e
    obtain ⟨ik, inn, it, ia1, in1, ic1, ia2, in2, ic2, e⟩ := hj'.form
    simp only [Value.agg.injEq, Array.mk.injEq, List.cons.injEq, and_true] at e
    obtain ⟨rfl, rfl, rfl, rfl, rfl⟩ := e
    have HA := hide (uh HC jx hmx jy hmy S _ _ y.drew (JV.keep (w := y) (w' := y.drew) (fun k hk => ⟨hk, rfl⟩) _ _ hj) (JV.keep (w := y) (w' := y.drew) (fun k hk => ⟨hk, rfl⟩) _ _ hj') (fun k hk => Nat.lt_of_lt_of_le (uh HS k hk) (uh HFy).size))
    generalize C jx jy = E at HA HQ2
    clear hj hj' hSb hSd p0 p1 p2 q0 q1 q2 hBc hDc hSB hSD hmx hmy gp gq hpi2 hqi2 hpn hqn hnm hpm hqm
    go_region_held3 (fun w' => w'.cell? ⟨V, 3, none⟩ = some (.slice (some ⟨B, ob, none⟩) m c1) ∧ w'.cell? ⟨V, 4, none⟩ = some (.slice (some ⟨E1, off, none⟩) m c2) ∧ w'.cell? ⟨X, 3, none⟩ = some (.slice (some ⟨D, od, none⟩) m d1) ∧ w'.cell? ⟨X, 4, none⟩ = some (.slice (some ⟨E2, oe, none⟩) m d2) ∧ w'.cell? ⟨B, ob + p, none⟩ = some (.string (str nm)) ∧ w'.cell? ⟨D, od + q, none⟩ = some (.string (str nm)) ∧ w'.cell? ⟨E1, off + p * 5, none⟩ = some (.int .i64 jk) ∧ w'.cell? ⟨E1, off + p * 5 + 1, none⟩ = some (.int .i64 jn) ∧ w'.cell? ⟨E1, off + p * 5 + 2, none⟩ = some (.string (str jt)) ∧ w'.cell? ⟨E1, off + p * 5 + 3, none⟩ = some (.slice ja1 jn1 jc1) ∧ w'.cell? ⟨E1, off + p * 5 + 4, none⟩ = some (.slice ja2 jn2 jc2) ∧ w'.cell? ⟨E2, oe + q * 5, none⟩ = some (.int .i64 ik) ∧ w'.cell? ⟨E2, oe + q * 5 + 1, none⟩ = some (.int .i64 inn) ∧ w'.cell? ⟨E2, oe + q * 5 + 2, none⟩ = some (.string (str it)) ∧ w'.cell? ⟨E2, oe + q * 5 + 3, none⟩ = some (.slice ia1 in1 ic1) ∧ w'.cell? ⟨E2, oe + q * 5 + 4, none⟩ = some (.slice ia2 in2 ic2)) (first | exact ⟨p3, p4, q3, q4, z1, z2, g0, g1, g2, g3, g4, f0, f1, f2, f3, f4⟩ | exact S5 | assumption | go_keep) ((first | (go_at_call 35; refine (uh HA).mono ?_; rintro e w5 ⟨rfl, h5⟩; have kk : ∀ (a : Addr) (v : Value), y.cell? a = some v → w5.cell? a = some v := (fun a v h => ((uh h5).cell (World.block_lt_of_cell? y a h)).trans h); have S5 := (And.intro (kk _ _ p3) (And.intro (kk _ _ p4) (And.intro (kk _ _ q3) (And.intro (kk _ _ q4) (And.intro (kk _ _ z1) (And.intro (kk _ _ z2) (And.intro (kk _ _ g0) (And.intro (kk _ _ g1) (And.intro (kk _ _ g2) (And.intro (kk _ _ g3) (And.intro (kk _ _ g4) (And.intro (kk _ _ f0) (And.intro (kk _ _ f1) (And.intro (kk _ _ f2) (And.intro (kk _ _ f3) (kk _ _ f4)))))))))))))))); clear kk)))
    all_goals
     have HB5' : Hid (Below w6.heap.size w6 w5) := (uh HBy).trans (((Below.refl _ _).drew).trans ((uh h5).mono (uh HBy).size) : Below _ _ _)
     have HFw5 := hide (uh HBw w5 ((uh HB6).trans ((uh HB5').mono (uh HB6).size)))
     clear HA h5 p3 p4 q3 q4 z1 z2 g0 g1 g2 g3 g4 f0 f1 f2 f3 f4 S5
     cases E with
     | true =>
      have HQ3 : Hid (R = smA C ns ms is js (o.drop (i + 1)) (o'.drop (i + 1))) := by show _ = _; rw [uh HQ2, Bool.true_and]
      go_wp2_with fail
      go_roundw
      case rel => exact ⟨i + 1, by omega, by go_num, HQ3, HB5'⟩
      case measure => simp [intOf]; omega
     | false =>
      have HQ3 : Hid (R = false) := by show _ = _; rw [uh HQ2, Bool.false_and]
      go_wp2_with fail
      go_ret
      rw [uh HQ3]
      exact ⟨rfl, HFw5⟩
   ·rw [decide_eq_false hnm] at HQ2
    have HQ3 : Hid (R = false) := by show _ = _; rw [uh HQ2, Bool.false_and, Bool.false_and]
    generalize nmA ns p = nm at z1 hnm
    generalize nmA ms q = nm' at z2 hnm
    have e1 : ((str nm).toList != (str nm').toList) = true := by rw [toList_str, toList_str]; simpa using hnm
    have e2 : ((str nm).toList == (str nm').toList) = false := by rw [toList_str, toList_str]; simpa using hnm
    have HFd : ∀ n, Hid (Below w.heap.size w (y.drewN n)) := fun n => hide (bdr4 (uh HFy) n)
    clear p0 p1 p2 p4 q0 q1 q2 q4 hBc hDc hSB hSD hpn hqn hnm hpm hqm HQ2
    go_quiet (fail)
    go_wp2_with fail
    go_ret
    rw [uh HQ3]
    exact ⟨rfl, HFd _⟩
  ·have him : i = m := by omega
   subst him
   have hlt' : ¬ (i : Int) < (i : Int) := by omega
   have HQ3 : Hid (R = true) := by show _ = _; rw [uh HQ, List.drop_eq_nil_of_le (by rw [uh HO]; omega)]; rfl
   have HF := hide (uh HBw wr (uh HBW))
   go_wp2_with fail
   go_ret
   rw [uh HQ3]
   exact ⟨rfl, HF⟩
end Go.Proofs.YtmpjeahibfdehaaGreatDoor
end
section
set_option linter.unusedVariables false
set_option maxRecDepth 1000000
namespace Go.Proofs.YtmpjeahibfdehaaGreatDoor
open Go.RowKit

theorem al_off {A : Js → Js → Bool} {k n : Int} {t : List UInt8} {ns : List (List UInt8)} {is : List Js} {k' n' : Int} {t' : List UInt8} {ns' : List (List UInt8)} {is' : List Js} (h : ¬ (k = k' ∧ n = n' ∧ t = t' ∧ is.length = is'.length)) : alF A (.mk k n t ns is) (.mk k' n' t' ns' is') = false := by
 rw [alF_eq]
 have e : (decide (k = k') && decide (n = n') && decide (t = t') && decide (is.length = is'.length)) = false := by
  rw [Bool.eq_false_iff]
  intro h2
  simp only [Bool.and_eq_true, decide_eq_true_eq] at h2
  exact h ⟨h2.1.1.1, h2.1.1.2, h2.1.2, h2.2⟩
 rw [e, Bool.false_and]
theorem al_on {A : Js → Js → Bool} {k n : Int} {t : List UInt8} {ns : List (List UInt8)} {is : List Js} {ns' : List (List UInt8)} {is' : List Js} (h : is.length = is'.length) : alF A (.mk k n t ns is) (.mk k n t ns' is') = if k = 5 then smA A ns ns' is is' (ordS ns) (ordS ns') else eqA A is is' := by
 rw [alF_eq, decide_eq_true rfl, decide_eq_true rfl, decide_eq_true rfl, decide_eq_true h]
 rfl
set_option maxHeartbeats 8000000 in
theorem al_core (A : Js → Js → Bool) (k n : Int) (t : List UInt8) (ns : List (List UInt8)) (is : List Js) (k' n' : Int) (t' : List UInt8) (ns' : List (List UInt8)) (is' : List Js)
  (h5 : k = 5 → ns.Nodup ∧ ns.length = is.length) (h5' : k' = 5 → ns'.Nodup ∧ ns'.length = is'.length) (hm : is.length ≤ 100000) (hm' : is'.length ≤ 100000) (hC : ∀ x ∈ is, ∀ y ∈ is', AlP A x y) : AlP (alF A) (.mk k n t ns is) (.mk k' n' t' ns' is') := by
 intro S v v' w hJ hJ' hS
 have HJ0 := hide hJ
 have HJ0' := hide hJ'
 simp only [JV] at hJ hJ'
 obtain ⟨a1, c1, a2, c2, rfl, hN, hnc, hnm, _, hic, him, _, hIt⟩ := hJ
 obtain ⟨b1, d1, b2, d2, rfl, hN', hnc', hnm', _, hic', him', _, hIt'⟩ := hJ'
 obtain ⟨m, hmm⟩ : ∃ m, m = is.length := ⟨_, rfl⟩
 obtain ⟨m', hmm'⟩ : ∃ m', m' = is'.length := ⟨_, rfl⟩
 obtain ⟨g, hg⟩ : ∃ g, g = ns.length := ⟨_, rfl⟩
 obtain ⟨g', hg'⟩ : ∃ g', g' = ns'.length := ⟨_, rfl⟩
 have HLL : Hid (is.length = m ∧ is'.length = m' ∧ ns.length = g ∧ ns'.length = g') := ⟨hmm.symm, hmm'.symm, hg.symm, hg'.symm⟩
 rw [← hmm] at hic hm
 rw [← hmm'] at hic' hm'
 rw [← hmm, ← hmm', ← hg, ← hg']
 clear hmm hmm' hg hg'
 obtain ⟨V, hV⟩ : ∃ V, V = w.heap.size := ⟨_, rfl⟩
 obtain ⟨X, hX⟩ : ∃ X, X = w.heap.size + 1 := ⟨_, rfl⟩
 obtain ⟨W, hW⟩ : ∃ W, W = (w.alloc (.cells #[.int .i64 k, .int .i64 n, .string (str t), .slice a1 g c1, .slice a2 m c2] 44)).alloc (.cells #[.int .i64 k', .int .i64 n', .string (str t'), .slice b1 g' d1, .slice b2 m' d2] 44) := ⟨_, rfl⟩
 have bW : Below w.heap.size w W := by rw [hW]; exact below2 w _ _
 have rV : W.heap[V]? = some (.cells #[.int .i64 k, .int .i64 n, .string (str t), .slice a1 g c1, .slice a2 m c2] 44 (0, 0)) := by rw [hW, hV, heap_alloc_old _ _ (by simp)]; exact heap_alloc_new _ _
 have rX : W.heap[X]? = some (.cells #[.int .i64 k', .int .i64 n', .string (str t'), .slice b1 g' d1, .slice b2 m' d2] 44 (0, 0)) := by rw [hW, hX]; exact heap_alloc2_new _ _ _
 obtain ⟨p0, p1, p2, p3, p4⟩ := cells5 rV
 obtain ⟨q0, q1, q2, q3, q4⟩ := cells5 rX
 have HW := hide bW
 have HI := hide hIt
 have HI' := hide hIt'
 have HS := hide hS
 have HC := hide hC
 have H5 := hide h5
 have H5' := hide h5'
 have HSW : Hid (∀ k, S k → S k ∧ W.heap[k]? = w.heap[k]?) := fun k hk => ⟨hk, bW.block k (hS k hk)⟩
 clear hN hN' hIt hIt' hS hC h5 h5' rV rX bW hnc hnc' hnm hnm' him him'
 have HF : Hid (∀ u : World, Hid (Below W.heap.size W u) → Hid (Below w.heap.size w u)) := fun u h => (uh HW).trans ((uh h).mono (uh HW).size)
 by_cases hall : k = k' ∧ n = n' ∧ t = t' ∧ m = m'
 ·obtain ⟨rfl, rfl, rfl, rfl⟩ := hall
  have e1 : ((str t).toList != (str t).toList) = false := by simp
  have hl : is.length = is'.length := (uh HLL).1.trans (uh HLL).2.1.symm
  by_cases hk : k = 5
  ·subst hk
   obtain ⟨g1, g2⟩ := uh H5 rfl
   obtain ⟨g3, g4⟩ := uh H5' rfl
   have HM := hide (sm_any A 5 n t ns is 5 n t ns' is' S _ _ W (JV.keep (uh HSW) _ _ (uh HJ0)) (JV.keep (uh HSW) _ _ (uh HJ0')) (fun k hk => Nat.lt_of_lt_of_le (uh HS k hk) (uh HW).size) g1 g3 g2 (by omega) hl.symm (by rw [(uh HLL).1]; exact hm) (uh HC))
   rw [(uh HLL).1, (uh HLL).2.1, (uh HLL).2.2.1, (uh HLL).2.2.2] at HM
   have hR : alF A (.mk 5 n t ns is) (.mk 5 n t ns' is') = smA A ns ns' is is' (ordS ns) (ordS ns') := by rw [al_on hl, if_pos rfl]
   rw [hR]
   generalize smA A ns ns' is is' (ordS ns) (ordS ns') = R at HM ⊢
   clear g1 g2 g3 g4 HJ0 HJ0' HI HI' HC H5 H5' HSW hl hR HLL
   go_enter Tryz.func35, Tryz.ntmps35
   go_upto_region 1 with fail
   rw [← hW, ← hX, ← hV]
   clear hW hV hX
   go_wp2_with fail
   refine (uh HM).mono ?_
   rintro e w1 ⟨rfl, h1⟩
   have HF1 := uh HF w1 h1
   clear HM h1 p0 p1 p2 p3 p4 q0 q1 q2 q3 q4
   go_wp2_with fail
   go_ret
   exact ⟨rfl, HF1⟩
  ·have HM := hide (eqf_any A is is' hl a2 b2 c2 d2 S W (JVs.keep (uh HSW) _ _ _ (uh HI)) (JVs.keep (uh HSW) _ _ _ (uh HI')) (fun k hk => Nat.lt_of_lt_of_le (uh HS k hk) (uh HW).size) (by rw [(uh HLL).1]; exact hm) (uh HC))
   rw [(uh HLL).1, (uh HLL).2.1] at HM
   have hR : alF A (.mk k n t ns is) (.mk k n t ns' is') = eqA A is is' := by rw [al_on hl, if_neg hk]
   rw [hR]
   generalize eqA A is is' = R at HM ⊢
   have hkb : (k == 5) = false := by simpa using hk
   clear HJ0 HJ0' HI HI' HC H5 H5' HSW hl hR HLL
   go_enter Tryz.func35, Tryz.ntmps35
   go_upto_region 1 with fail
   rw [← hW, ← hX, ← hV]
   clear hW hV hX
   go_wp2_with fail
   refine (uh HM).mono ?_
   rintro e w1 ⟨rfl, h1⟩
   have HF1 := uh HF w1 h1
   clear HM h1 p0 p1 p2 p3 p4 q0 q1 q2 q3 q4
   go_wp2_with fail
   go_ret
   exact ⟨rfl, HF1⟩
 ·have hR : alF A (.mk k n t ns is) (.mk k' n' t' ns' is') = false := al_off (fun h => hall ⟨h.1, h.2.1, h.2.2.1, by rw [← (uh HLL).1, ← (uh HLL).2.1]; exact h.2.2.2⟩)
  rw [hR]
  have HF1 := uh HF W (hide (Below.refl _ _))
  clear HJ0 HJ0' HI HI' HC H5 H5' HSW hR HLL HF
  go_enter Tryz.func35, Tryz.ntmps35
  go_upto_region 1 with fail
  rw [← hW, ← hX, ← hV]
  clear hW hV hX
  by_cases h1 : k = k'
  ·subst h1
   by_cases h2 : n = n'
   ·subst h2
    by_cases h3 : t = t'
    ·subst h3
     have h4 : ¬ m = m' := fun e => hall ⟨rfl, rfl, rfl, e⟩
     have e1 : ((str t).toList != (str t).toList) = false := by simp
     have e4 : ((m : Int) != (m' : Int)) = true := by simp; omega
     have e5 : ((m : Int) == (m' : Int)) = false := by simp; omega
     have e6 : ¬ (m : Int) = (m' : Int) := by omega
     clear hall h4
     go_wp2_with fail
     go_ret
     exact ⟨rfl, HF1⟩
    ·have e1 : ((str t).toList != (str t').toList) = true := by rw [toList_str, toList_str]; simpa using h3
     have e2 : ((str t).toList == (str t').toList) = false := by rw [toList_str, toList_str]; simpa using h3
     clear hall h3
     go_wp2_with fail
     go_ret
     exact ⟨rfl, HF1⟩
   ·have e1 : (n != n') = true := by simpa using h2
    have e2 : (n == n') = false := by simpa using h2
    clear hall
    go_wp2_with fail
    go_ret
    exact ⟨rfl, HF1⟩
  ·have e1 : (k != k') = true := by simpa using h1
   have e2 : (k == k') = false := by simpa using h1
   clear hall
   go_wp2_with fail
   go_ret
   exact ⟨rfl, HF1⟩
theorem ck_five {n : Nat} {k i : Int} {t : List UInt8} {ns : List (List UInt8)} {is : List Js} (h : ck n (.mk k i t ns is) = 0) (hk : k = 5) : ns.Nodup ∧ ns.length = is.length := by
 obtain ⟨hw, hnd, _⟩ := ck_zero n k i t ns is h
 exact ⟨hnd, (wf5 hw hk).2.2.1⟩
theorem ck_items {n : Nat} {k i : Int} {t : List UInt8} {ns : List (List UInt8)} {is : List Js} (h : ck n (.mk k i t ns is) = 0) : is = [] ∨ ∃ m, n = m + 1 ∧ ∀ x ∈ is, ck m x = 0 := by
 obtain ⟨hw, _, h45⟩ := ck_zero n k i t ns is h
 obtain ⟨hkk, _⟩ := wf_kind hw
 rcases hkk with h | h | h | h | h | h
 ·left; exact (wf_flat hw (by rw [h]; decide)).2.1
 ·left; exact (wf_flat hw (by rw [h]; decide)).2.1
 ·left; exact (wf_flat hw (by rw [h]; decide)).2.1
 ·left; exact (wf_flat hw (by rw [h]; decide)).2.1
 ·right; exact h45 (.inl h)
 ·right; exact h45 (.inr h)
/-- alike, of two values that can be. -/
theorem al_any : ∀ (n : Nat) (a b : Js), ck n a = 0 → ck n b = 0 → Sz a → Sz b → AlP (alN n) a b
 | 0, .mk k i t ns is, .mk k' i' t' ns' is', ha, hb, za, zb => by
  simp only [Sz] at za zb
  have e1 : is = [] := (ck_items ha).elim id (fun ⟨m, e, _⟩ => by cases e)
  refine al_core _ k i t ns is k' i' t' ns' is' (ck_five ha) (ck_five hb) za.2.2.2.1 zb.2.2.2.1 (fun x hx => ?_)
  rw [e1] at hx
  cases hx
 | n + 1, .mk k i t ns is, .mk k' i' t' ns' is', ha, hb, za, zb => by
  simp only [Sz] at za zb
  refine al_core _ k i t ns is k' i' t' ns' is' (ck_five ha) (ck_five hb) za.2.2.2.1 zb.2.2.2.1 (fun x hx y hy => ?_)
  have h1 : ck n x = 0 := by
   rcases ck_items ha with e | ⟨m, e, h⟩
   ·rw [e] at hx; cases hx
   ·cases e; exact h x hx
  have h2 : ck n y = 0 := by
   rcases ck_items hb with e | ⟨m, e, h⟩
   ·rw [e] at hy; cases hy
   ·cases e; exact h y hy
  exact al_any n x y h1 h2 ((szs_iff is).1 za.2.2.2.2.2 x hx) ((szs_iff is').1 zb.2.2.2.2.2 y hy)
set_option maxHeartbeats 8000000 in
theorem same_any (a b : Js) (S : Nat → Prop) (v v' : Value) (w : World) (hT : Tb4 w) (hJ : JV w S v a) (hJ' : JV w S v' b) (hS : ∀ k, S k → k < w.heap.size) (za : Sz a) (zb : Sz b) :
  Calls Tryz.prog 17 #[v, v'] w fun e w' => e = .returned (.bool (saM a b)) ∧ Hid (Below w.heap.size w w') := by
 obtain ⟨k, n, t, a1, n1, c1, a2, n2, c2, rfl⟩ := hJ.form
 obtain ⟨k', n', t', b1, m1, d1, b2, m2, d2, rfl⟩ := hJ'.form
 obtain ⟨V, hV⟩ : ∃ V, V = w.heap.size := ⟨_, rfl⟩
 obtain ⟨X, hX⟩ : ∃ X, X = w.heap.size + 1 := ⟨_, rfl⟩
 obtain ⟨W, hW⟩ : ∃ W, W = (w.alloc (.cells #[.int .i64 k, .int .i64 n, .string (str t), .slice a1 n1 c1, .slice a2 n2 c2] 44)).alloc (.cells #[.int .i64 k', .int .i64 n', .string (str t'), .slice b1 m1 d1, .slice b2 m2 d2] 44) := ⟨_, rfl⟩
 have bW : Below w.heap.size w W := by rw [hW]; exact below2 w _ _
 have rV : W.heap[V]? = some (.cells #[.int .i64 k, .int .i64 n, .string (str t), .slice a1 n1 c1, .slice a2 n2 c2] 44 (0, 0)) := by rw [hW, hV, heap_alloc_old _ _ (by simp)]; exact heap_alloc_new _ _
 have rX : W.heap[X]? = some (.cells #[.int .i64 k', .int .i64 n', .string (str t'), .slice b1 m1 d1, .slice b2 m2 d2] 44 (0, 0)) := by rw [hW, hX]; exact heap_alloc2_new _ _ _
 have HKV : Hid (∀ u, Below W.heap.size W u → u.heap[V]? = some (.cells #[.int .i64 k, .int .i64 n, .string (str t), .slice a1 n1 c1, .slice a2 n2 c2] 44 (0, 0))) := fun u hb => (hb.block V (aI rV).1).trans rV
 have HKX : Hid (∀ u, Below W.heap.size W u → u.heap[X]? = some (.cells #[.int .i64 k', .int .i64 n', .string (str t'), .slice b1 m1 d1, .slice b2 m2 d2] 44 (0, 0))) := fun u hb => (hb.block X (aI rX).1).trans rX
 have HF : Hid (∀ u, Below W.heap.size W u → Below w.heap.size w u) := fun u hb => bW.trans (hb.mono bW.size)
 have HA : Hid (∀ u, Below W.heap.size W u → JV u S _ a ∧ JV u S _ b ∧ (∀ k, S k → k < u.heap.size) ∧ Tb4 u) := fun u hb => ⟨JV.keep (fun k hk => ⟨hk, (uh HF u hb).block k (hS k hk)⟩) _ _ hJ, JV.keep (fun k hk => ⟨hk, (uh HF u hb).block k (hS k hk)⟩) _ _ hJ', fun k hk => Nat.lt_of_lt_of_le (hS k hk) (uh HF u hb).size, hT.below (uh HF u hb)⟩
 have HCa := hide (checkJ_any a S _ W (uh HA W (Below.refl _ _)).2.2.2 (uh HA W (Below.refl _ _)).1 (uh HA W (Below.refl _ _)).2.2.1 za)
 have HCb : Hid (∀ u, Below W.heap.size W u → Calls Tryz.prog 34 #[.agg #[.int .i64 k', .int .i64 n', .string (str t'), .slice b1 m1 d1, .slice b2 m2 d2]] u fun e w' => e = .returned (.int .i64 ((ck 16 b : Nat) : Int)) ∧ Hid (Below u.heap.size u w')) := fun u hb => checkJ_any b S _ u (uh HA u hb).2.2.2 (uh HA u hb).2.1 (uh HA u hb).2.2.1 zb
 have HAl : Hid (ck 16 a = 0 → ck 16 b = 0 → ∀ u, Below W.heap.size W u → Calls Tryz.prog 35 #[.agg #[.int .i64 k, .int .i64 n, .string (str t), .slice a1 n1 c1, .slice a2 n2 c2], .agg #[.int .i64 k', .int .i64 n', .string (str t'), .slice b1 m1 d1, .slice b2 m2 d2]] u fun e w' => e = .returned (.bool (alN 16 a b)) ∧ Hid (Below u.heap.size u w')) := fun h1 h2 u hb => al_any 16 a b h1 h2 za zb S _ _ u (uh HA u hb).1 (uh HA u hb).2.1 (uh HA u hb).2.2.1
 have HR : Hid (saM a b = (decide (ck 16 a = 0) && (decide (ck 16 b = 0) && alN 16 a b))) := rfl
 generalize saM a b = R at HR ⊢
 generalize alN 16 a b = A at HR HAl
 generalize ck 16 a = Ea at HR HCa HAl
 generalize ck 16 b = Eb at HR HCb HAl
 obtain ⟨p0, p1, p2, p3, p4⟩ := cells5 rV
 clear hT hJ hJ' hS za zb bW rV rX HA
 go_enter Tryz.func17, Tryz.ntmps17
 go_upto_region 1 with fail
 rw [← hW, ← hX, ← hV]
 clear hW hV hX
 by_cases ha : Ea = 0
 ·subst ha
  simp only [show ((0 : Nat) : Int) = 0 from rfl] at HCa
  go_wp2_with fail
  refine (uh HCa).mono ?_
  rintro e w1 ⟨rfl, h1⟩
  have HC1 := hide (uh HCb w1 (uh h1))
  obtain ⟨q0, q1, q2, q3, q4⟩ := cells5 (uh HKX w1 (uh h1))
  clear HCa HCb p0 p1 p2 p3 p4
  by_cases hb : Eb = 0
  ·subst hb
   simp only [show ((0 : Nat) : Int) = 0 from rfl] at HC1
   go_wp2_with fail
   refine (uh HC1).mono ?_
   rintro e w2 ⟨rfl, h2⟩
   have HB2 : Hid (Below W.heap.size W w2) := (uh h1).trans ((uh h2).mono (uh h1).size)
   have HA2 := hide (uh HAl (by first | exact rfl | trivial) (by first | exact rfl | trivial) w2 (uh HB2))
   clear HC1 HAl q0 q1 q2 q3 q4 h1 h2
   obtain ⟨q0, q1, q2, q3, q4⟩ := cells5 (uh HKX w2 (uh HB2))
   obtain ⟨p0, p1, p2, p3, p4⟩ := cells5 (uh HKV w2 (uh HB2))
   have HR2 : Hid (R = A) := by show _ = _; rw [uh HR]; rfl
   go_wp2_with fail
   refine (uh HA2).mono ?_
   rintro e w3 ⟨rfl, h3⟩
   have HF3 := hide (uh HF w3 ((uh HB2).trans ((uh h3).mono (uh HB2).size)))
   clear HA2 h3 p0 p1 p2 p3 p4 q0 q1 q2 q3 q4
   go_wp2_with fail
   go_ret
   rw [uh HR2]
   exact ⟨rfl, HF3⟩
  ·have e1 : (((Eb : Nat) : Int) == 0) = false := by simp; omega
   have e2 : ¬ ((Eb : Nat) : Int) = 0 := by omega
   have HR2 : Hid (R = false) := by show _ = _; rw [uh HR, decide_eq_false hb]; rfl
   go_wp2_with fail
   refine (uh HC1).mono ?_
   rintro e w2 ⟨rfl, h2⟩
   have HF3 := hide (uh HF w2 ((uh h1).trans ((uh h2).mono (uh h1).size)))
   clear HC1 HAl q0 q1 q2 q3 q4 h1 h2
   go_wp2_with fail
   go_ret
   rw [uh HR2]
   exact ⟨rfl, HF3⟩
 ·have e1 : (((Ea : Nat) : Int) == 0) = false := by simp; omega
  have e2 : ¬ ((Ea : Nat) : Int) = 0 := by omega
  have HR2 : Hid (R = false) := by show _ = _; rw [uh HR, decide_eq_false ha]; rfl
  go_wp2_with fail
  refine (uh HCa).mono ?_
  rintro e w1 ⟨rfl, h1⟩
  have HF3 := hide (uh HF w1 (uh h1))
  clear HCa HCb HAl p0 p1 p2 p3 p4 h1
  go_wp2_with fail
  go_ret
  rw [uh HR2]
  exact ⟨rfl, HF3⟩
end Go.Proofs.YtmpjeahibfdehaaGreatDoor
end
section
set_option linter.unusedVariables false
set_option maxRecDepth 1000000
namespace Go.Proofs.YtmpjeahibfdehaaGreatDoor
open Go.RowKit

theorem prM_ok (j : Js) (h : ck 16 j = 0) : ((prM j).2 = 0 ∧ (prM j).1 = prN 16 j ∧ (prN 16 j).length ≤ 65536) ∨ (prM j).2 = 4 := by
 unfold prM
 rw [if_neg (by rw [h]; simp)]
 by_cases hl : 65536 < (prN 16 j).length
 ·rw [if_pos hl]; exact .inr rfl
 ·rw [if_neg hl]; exact .inl ⟨rfl, rfl, by omega⟩
theorem prM_len (j : Js) : (prM j).1.length ≤ 65536 := by
 unfold prM
 split
 ·exact Nat.zero_le _
 ·split
  ·exact Nat.zero_le _
  ·simp only; omega
theorem saM_iff (a b : Js) (ha : Gd 16 a) (hb : Gd 16 b) : saM a b = decide (prN 16 a = prN 16 b) := by
 unfold saM
 rw [decide_eq_true ha.1, decide_eq_true hb.1, Bool.true_and, Bool.true_and]
 have h := al_iff 16 a b ha.1 hb.1
 by_cases e : prN 16 a = prN 16 b
 ·rw [decide_eq_true e, h]
  exact sr_of_pr 16 a b ha.1 hb.1 ha.2 hb.2 e
 ·rw [decide_eq_false e, Bool.eq_false_iff]
  intro h2
  apply e
  rw [← pr_sr 16 a ha.1, ← pr_sr 16 b hb.1, h.1 h2]
/-- What is printed, read again. -/
theorem one_math (a b : Js) (ha : Gd 16 a) (hb : Gd 16 b) (h1 : (prM a).2 = 0) (h2 : (prM b).2 = 0) : psM (prM a).1 = (srN 16 a, 0, 0) ∧ Gd 16 (srN 16 a) ∧ saM (srN 16 a) a = true ∧ saM a b = decide ((prM a).1 = (prM b).1) := by
 obtain ⟨_, e1, l1⟩ : (prM a).2 = 0 ∧ (prM a).1 = prN 16 a ∧ (prN 16 a).length ≤ 65536 := by
  rcases prM_ok a ha.1 with h | h
  ·exact h
  ·omega
 obtain ⟨_, e2, l2⟩ : (prM b).2 = 0 ∧ (prM b).1 = prN 16 b ∧ (prN 16 b).length ≤ 65536 := by
  rcases prM_ok b hb.1 with h | h
  ·exact h
  ·omega
 have hs := ck_sr 16 a ha.1 ha.2
 rw [e1, e2]
 refine ⟨ps_print a ha.1 ha.2 l1, hs, ?_, saM_iff a b ha hb⟩
 rw [saM_iff _ a hs ha, decide_eq_true_eq]
 exact pr_sr 16 a ha.1
/-- A box with a value, all of it in the world. -/
structure Bj (w : World) (V : Nat) (k n : Int) (t : List UInt8) (a1 : Option Addr) (n1 c1 : Nat) (a2 : Option Addr) (n2 c2 : Nat) (j : Js) : Prop where
 row : w.heap[V]? = some (.cells #[.int .i64 k, .int .i64 n, .string (str t), .slice a1 n1 c1, .slice a2 n2 c2] 44 (0, 0))
 jv : JV w (Al w) (.agg #[.int .i64 k, .int .i64 n, .string (str t), .slice a1 n1 c1, .slice a2 n2 c2]) j
theorem Bj.below {w u : World} {V : Nat} {k n : Int} {t : List UInt8} {a1 : Option Addr} {n1 c1 : Nat} {a2 : Option Addr} {n2 c2 : Nat} {j : Js} (h : Bj w V k n t a1 n1 c1 a2 n2 c2 j) (hb : Below w.heap.size w u) : Bj u V k n t a1 n1 c1 a2 n2 c2 j :=
 ⟨(hb.block V (aI h.row).1).trans h.row, h.jv.al (fun k hk => hk) hb⟩
theorem Bj.made {w : World} {S : Nat → Prop} {k n : Int} {t : List UInt8} {a1 : Option Addr} {n1 c1 : Nat} {a2 : Option Addr} {n2 c2 : Nat} {j : Js} (h : JV w S (.agg #[.int .i64 k, .int .i64 n, .string (str t), .slice a1 n1 c1, .slice a2 n2 c2]) j) (hS : ∀ k, S k → k < w.heap.size) :
  ∀ U, U = w.alloc (.cells #[.int .i64 k, .int .i64 n, .string (str t), .slice a1 n1 c1, .slice a2 n2 c2] 44) → Bj U w.heap.size k n t a1 n1 c1 a2 n2 c2 j ∧ Below w.heap.size w U := by
 intro U hU
 have bU : Below w.heap.size w U := by rw [hU]; exact bA _
 exact ⟨⟨by rw [hU]; exact heap_alloc_new _ _, h.al hS bU⟩, bU⟩
end Go.Proofs.YtmpjeahibfdehaaGreatDoor
end
