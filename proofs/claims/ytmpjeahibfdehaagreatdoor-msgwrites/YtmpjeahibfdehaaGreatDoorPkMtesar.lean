/-
  jsonx: read: what gave up is caught.
-/
import Derived.Test.YtmpjeahibfdehaaGreatDoorPkMtesaq
import Derived.Defers
import Derived.Recover
import Derived.Stop.Asserts
section
set_option linter.unusedVariables false
set_option maxRecDepth 1000000
namespace Go.Proofs.YtmpjeahibfdehaaGreatDoor
open Go.RowKit Go.Extern.Stop Go.Stop Go.Extern

theorem ta_nil (w : World) : (Instr.typeAssert .nilIface 20 60 true).run Tryz.prog w = .ok (.tuple #[.nilIface, .bool false]) w := by kernel_rfl
theorem ta_flt (v : Value) (w : World) : (Instr.typeAssert (.iface 64 v) 20 60 true).run Tryz.prog w = .ok (.tuple #[.iface 64 v, .bool true]) w := run_typeAssert_hasB Tryz.underlying60 (by kernel_rfl) v _ w
theorem rep10 : Array.replicate 10 undef = #[undef, undef, undef, undef, undef, undef, undef, undef, undef, undef] := rfl
set_option maxHeartbeats 2000000 in
theorem catch_idle4 (p q : Addr) (w : World) :
  CallsD Tryz.prog 72 #[.pointer (some p), .pointer (some q)] .returning w fun e u' w' => e = .returned (.tuple #[]) ∧ u' = .returning ∧ w' = w := by
 refine callsD_of_wpS Tryz.func72 rfl fun c₀ cs hu => ?_
 have h1 := ta_nil
 apply wpS_seq
 apply wpS_region
 simp [wpOpsS, go_sem, recoverD, hu, Tryz.ntmps72, Exit.thenS, rep10, h1]
 apply wpS_seq
 apply wpS_region
 simp [wpOpsS, go_sem, Exit.thenS]
 refine wpS_cond (t := false) (by simp [Act.eval]) ?_
 simp only [Bool.false_eq_true, if_false]
 refine wpS_of_wp (wp_skip ?_)
 cases c₀
 simp_all [bodyPostS, results, Tryz.results72]
set_option maxHeartbeats 2000000 in
theorem catch_flt4 (p q : Nat) (v : Value) (k : Value) (older : List PanicEntry) (w : World) (x0 x1 x2 x3 x4 : Value) (hp : w.heap[p]? = some (.cells #[x0, x1, x2, x3, x4] 44 (0, 0))) (hq : w.heap[q]? = some (.cells #[k] 60 (0, 0))) (hne : q ≠ p) :
  CallsD Tryz.prog 72 #[.pointer (some ⟨p, 0, none⟩), .pointer (some ⟨q, 0, none⟩)] (.panicking ({ v := .iface 64 v, recovered := false } :: older)) w fun e u' w' => e = .returned (.tuple #[]) ∧ u' = .panicking ({ v := .iface 64 v, recovered := true } :: older) ∧ w' = (((((w.setCell ⟨p, 0, none⟩ (.int .i64 0)).setCell ⟨p, 1, none⟩ (.int .i64 0)).setCell ⟨p, 2, none⟩ (.string ⟨#[]⟩)).setCell ⟨p, 3, none⟩ (.slice none 0 0)).setCell ⟨p, 4, none⟩ (.slice none 0 0)).setCell ⟨q, 0, none⟩ (.iface 64 v) := by
 refine callsD_of_wpS Tryz.func72 rfl fun c₀ cs hu => ?_
 have h1 := ta_flt
 have e0 : w.cell? ⟨p, 0, none⟩ = some x0 := cR6 hp
 have e1 : w.cell? ⟨p, 1, none⟩ = some x1 := cR6 hp
 have e2 : w.cell? ⟨p, 2, none⟩ = some x2 := cR6 hp
 have e3 : w.cell? ⟨p, 3, none⟩ = some x3 := cR6 hp
 have e4 : w.cell? ⟨p, 4, none⟩ = some x4 := cR6 hp
 have e5 : w.cell? ⟨q, 0, none⟩ = some k := cR6 hq
 have f : ∀ j, w.frozen? ⟨p, j, none⟩ = false := fun j => frozen_of_row _ _ _ _ _ hp
 have fq : w.frozen? ⟨q, 0, none⟩ = false := frozen_of_row _ _ _ _ _ hq
 have hne2 : ¬ p = q := fun e => hne e.symm
 apply wpS_seq
 apply wpS_region
 simp [wpOpsS, go_sem, recoverD, hu, Tryz.ntmps72, Exit.thenS, rep10, h1]
 apply wpS_seq
 apply wpS_region
 simp [wpOpsS, go_sem, Exit.thenS]
 refine wpS_cond (t := true) (by simp [Act.eval]) ?_
 simp only [if_true]
 refine wpS_of_wp ?_
 clear hp hq
 go_wp2_with fail
 simp [bodyPostS, results, Tryz.results72]
/-- A value that is read, or where and why none is. -/
def rdM (l : List UInt8) : Rs Js := match vaM 16 (skB l) with
 | .no r y => .no r y
 | .ok v r => match skB r with
  | [] => .ok v []
  | c :: r2 => .no (c :: r2) 40
/-- What read hands back: a value and nil, or nothing and a fault. -/
def RdP (w : World) (T : List UInt8) (e : Ending) (w' : World) : Prop :=
 Below w.heap.size w w' ∧ Tb4 w' ∧ ((∃ j val, rdM T = .ok j [] ∧ e = .returned (.tuple #[val, .nilIface]) ∧ JV w' (Nw w w') val j) ∨ (∃ y a', rdM T = .no (T.drop a') y ∧ a' ≤ T.length ∧ e = .returned (.tuple #[.agg #[.int .i64 0, .int .i64 0, .string ⟨#[]⟩, .slice none 0 0, .slice none 0 0], .iface 64 (.agg #[.int .i64 (a' : Int), .int .i64 (y : Int)])])))
/-- What was there stays, but for what read made itself. -/
structure Lb (w w' : World) (S : Nat) : Prop where
 os : w'.os = w.os
 tape : w'.tape = w.tape
 output : w'.output = w.output
 size : w.heap.size ≤ w'.heap.size
 block : ∀ k, k < S → k < w.heap.size → w'.heap[k]? = w.heap[k]?
theorem Lb.trans {a b c : World} {S : Nat} (x : Lb a b S) (y : Lb b c S) : Lb a c S := ⟨y.os.trans x.os, y.tape.trans x.tape, y.output.trans x.output, Nat.le_trans x.size y.size, fun k h1 h2 => (y.block k h1 (Nat.lt_of_lt_of_le h2 x.size)).trans (x.block k h1 h2)⟩
theorem Lb.ofMv {a b : World} {S : Nat} (m : Mv a b (S + 2)) : Lb a b S := ⟨m.os, m.tape, m.output, m.size, fun k h1 h2 => m.block k h2 (fun e => by have := Option.some.inj e; omega)⟩
theorem Lb.ofSet (w : World) (S g o : Nat) (v : Value) (h : S ≤ g) : Lb w (w.setCell ⟨g, o, none⟩ v) S := by
 have k := grownBy_setCell w ⟨g, o, none⟩ v
 exact ⟨k.os, k.tape, k.output, k.size, fun j h1 h2 => k.block j h2 (fun e => by have := Option.some.inj e; simp only at this; omega)⟩
theorem Lb.set5 {w w' : World} {S : Nat} (h : Lb w w' S) (v0 v1 v2 v3 v4 : Value) : Lb w (((((w'.setCell ⟨S, 0, none⟩ v0).setCell ⟨S, 1, none⟩ v1).setCell ⟨S, 2, none⟩ v2).setCell ⟨S, 3, none⟩ v3).setCell ⟨S, 4, none⟩ v4) S :=
 ((((h.trans (Lb.ofSet _ S S 0 _ (Nat.le_refl _))).trans (Lb.ofSet _ S S 1 _ (Nat.le_refl _))).trans (Lb.ofSet _ S S 2 _ (Nat.le_refl _))).trans (Lb.ofSet _ S S 3 _ (Nat.le_refl _))).trans (Lb.ofSet _ S S 4 _ (Nat.le_refl _))
theorem Lb.set1 {w w' : World} {S : Nat} {v : Value} (h : Lb w w' S) : Lb w (w'.setCell ⟨S + 1, 0, none⟩ v) S := h.trans (Lb.ofSet _ S (S + 1) 0 _ (by omega))
theorem Lb.below {w W w' : World} {S : Nat} (h : Lb W w' S) (hS : S = w.heap.size) (hb : Below w.heap.size w W) : Below w.heap.size w w' := ⟨h.os.trans hb.os, h.tape.trans hb.tape, h.output.trans hb.output, Nat.le_trans hb.size h.size, fun k hk => (h.block k (by omega) (Nat.lt_of_lt_of_le hk hb.size)).trans (hb.block k hk)⟩
theorem rd_below {w W w2 w9 : World} {S : Nat} {v0 v1 v2 v3 v4 v5 : Value} (hS : S = w.heap.size) (hb : Below w.heap.size w W) (h : Lb W w2 S) (h9 : w9 = (((((w2.setCell ⟨S, 0, none⟩ v0).setCell ⟨S, 1, none⟩ v1).setCell ⟨S, 2, none⟩ v2).setCell ⟨S, 3, none⟩ v3).setCell ⟨S, 4, none⟩ v4).setCell ⟨S + 1, 0, none⟩ v5) : Below w.heap.size w w9 := by
 rw [h9]; exact ((h.set5 _ _ _ _ _).set1).below hS hb
theorem tbW {W w2 : World} {S : Nat} (m : Mv W w2 (S + 2)) (h : Tb4 W) (hg : 2 < S ∧ 3 < S) : Tb4 w2 := h.keep (fun k hk => m.block k (by rcases hk with rfl | rfl; exact h.lt.1; exact h.lt.2) (fun e => by have := Option.some.inj e; rcases hk with rfl | rfl <;> omega))
set_option maxHeartbeats 8000000 in
theorem read_any (T : List UInt8) (w : World) (hT : Tb4 w) (hl : T.length ≤ 65536) :
  Calls Tryz.prog 32 #[.string (str T)] w fun e w' => RdP w T e w' := by
 obtain ⟨S, hS⟩ : ∃ S, S = w.heap.size := ⟨_, rfl⟩
 obtain ⟨W0, hW0⟩ : ∃ W0, W0 = (w.alloc (.cells #[.int .i64 0, .int .i64 0, .string ⟨#[]⟩, .slice none 0 0, .slice none 0 0] 44)).alloc (.cells #[.nilIface] 60) := ⟨_, rfl⟩
 obtain ⟨W, hW⟩ : ∃ W, W = W0.alloc (.cells #[.string (str T), .int .i64 0, .int .i64 0] 99) := ⟨_, rfl⟩
 have hsW0 : W0.heap.size = S + 2 := by rw [hW0, hS]; simp
 have hb0 : Below w.heap.size w W0 := by rw [hW0]; exact below2 _ _ _
 have hb1 : Below W0.heap.size W0 W := by rw [hW]; exact bA _
 have hbW : Below w.heap.size w W := hb0.trans (hb1.mono hb0.size)
 have hg := hT.lt
 have hPa : Pa W (S + 2) T 0 0 := ⟨by rw [hW, ← hsW0]; exact heap_alloc_new _ _, Nat.zero_le _, hl, by omega, hT.below hbW, by omega⟩
 have hR : W.heap[S]? = some (.cells #[.int .i64 0, .int .i64 0, .string ⟨#[]⟩, .slice none 0 0, .slice none 0 0] 44 (0, 0)) := by
  rw [hb1.block S (by omega), hW0, hS]; exact heap_alloc2_old _ _ _
 have hE : W.heap[S + 1]? = some (.cells #[.nilIface] 60 (0, 0)) := by
  rw [hb1.block (S + 1) (by omega), hW0, hS]; exact heap_alloc2_new _ _ _
 have HB := hide (blanks_any (S + 2) T 0 0 W hPa)
 have HbW := hide hbW
 have HS := hide hS
 have HR := hide hR
 have HE := hide hE
 have hsz : (str T).size = T.length := rfl
 have HsW0 := hide hsW0
 have HW3 : Hid (S + 2 < W.heap.size) := hPa.lt
 have HTB := hide hPa.tb
 obtain ⟨RES, hRES⟩ : ∃ RES, RES = rdM T := ⟨_, rfl⟩
 have HRES : Hid (RES = match vaM 16 (skB (T.drop 0)) with | .no r y => .no r y | .ok v r => match skB r with | [] => .ok v [] | c :: r2 => .no (c :: r2) 40) := hRES
 have HRR := hide hRES
 have hg4 : 2 < S ∧ 3 < S := by omega
 clear hPa hR hE hbW hb0 hb1 hT hRES hg hsW0
 have hmf : ∀ (fn : Fn) (first cap : Array Value) (w : World), (Instr.makeFunc fn first cap).run Tryz.prog w = .ok (.func fn first cap) w := fun _ _ _ _ => rfl
 go_enter_defers Tryz.func32, Tryz.ntmps32
 go_upto_region 1 with fail
 rw [← hW0, ← hS]
 clear hW0 hS
 go_upto_region 3 with fail
 rw [uh HsW0, ← hW]
 clear hW
 go_wp2_with fail
 refine (uh HB).mono ?_
 rintro e w1 ⟨a1, rfl, HP1, HM1, HS1⟩
 rw [uh HS1] at HRES
 have HV := hide (value_any (S + 2) T 16 0 rfl a1 w1 (uh HP1))
 clear HB HS1
 go_wp2_with fail
 refine (uh HV).mono ?_
 rintro e w2 (⟨j, val, a2, hM2, rfl, hP2, hMv2, hJ2⟩ | ⟨y, a2, hM2, rfl, h2, h3⟩)
 ·obtain ⟨jk, jn, jt, ja1, jn1, jc1, ja2, jn2, jc2, rfl⟩ := hJ2.form
  rw [hM2] at HRES
  simp only at HRES
  have hMW2 : Mv W w2 (S + 2) := (uh HM1).trans hMv2
  have sW : S + 2 < W.heap.size := uh HW3
  have R2 : w2.heap[S]? = some (.cells #[.int .i64 0, .int .i64 0, .string ⟨#[]⟩, .slice none 0 0, .slice none 0 0] 44 (0, 0)) := (hMW2.block S (by omega) (fun e => by have := Option.some.inj e; omega)).trans (uh HR)
  have E2 : w2.heap[S + 1]? = some (.cells #[.nilIface] 60 (0, 0)) := (hMW2.block (S + 1) (by omega) (fun e => by have := Option.some.inj e; omega)).trans (uh HE)
  have q0 : w2.cell? ⟨S, 0, none⟩ = some (.int .i64 0) := cR6 R2
  have q1 : w2.cell? ⟨S, 1, none⟩ = some (.int .i64 0) := cR6 R2
  have q2 : w2.cell? ⟨S, 2, none⟩ = some (.string ⟨#[]⟩) := cR6 R2
  have q3 : w2.cell? ⟨S, 3, none⟩ = some (.slice none 0 0) := cR6 R2
  have q4 : w2.cell? ⟨S, 4, none⟩ = some (.slice none 0 0) := cR6 R2
  have fz : ∀ j, w2.frozen? ⟨S, j, none⟩ = false := fun j => frozen_of_row _ _ _ _ _ R2
  have f0 := fz 0
  have f1 := fz 1
  have f2 := fz 2
  have f3 := fz 3
  have f4 := fz 4
  obtain ⟨w3, h3⟩ : ∃ w3, w3 = ((((w2.setCell ⟨S, 0, none⟩ (.int .i64 jk)).setCell ⟨S, 1, none⟩ (.int .i64 jn)).setCell ⟨S, 2, none⟩ (.string (str jt))).setCell ⟨S, 3, none⟩ (.slice ja1 jn1 jc1)).setCell ⟨S, 4, none⟩ (.slice ja2 jn2 jc2) := ⟨_, rfl⟩
  have k3 : ∀ k, k ≠ S → w3.heap[k]? = w2.heap[k]? := fun k hk => by rw [h3]; exact far5 w2 S k _ _ _ _ _ _ _ _ _ _ hk
  have z3 : w3.heap.size = w2.heap.size := by rw [h3]; exact siz5 w2 _ _ _ _ _ _ _ _ _ _ _
  have r3 : w3.heap[S]? = some (.cells #[.int .i64 jk, .int .i64 jn, .string (str jt), .slice ja1 jn1 jc1, .slice ja2 jn2 jc2] 44 (0, 0)) := by
   rw [h3]
   exact hS6 (hS6 (hS6 (hS6 (hS6 R2))))
  have hP3 : Pa w3 (S + 2) T a2 0 := { hP2 with row := (k3 (S + 2) (by omega)).trans hP2.row, tb := hP2.tb.keep (fun k hk => k3 k (by rcases hk with rfl | rfl <;> omega)) }
  have HB3 := hide (blanks_any (S + 2) T a2 0 w3 hP3)
  have sub3 : w1.heap.size ≤ w3.heap.size := by rw [z3]; exact hMv2.size
  have HJ3 : Hid (JV w3 (fun k => S + 2 < k ∧ k < w3.heap.size) (.agg #[.int .i64 jk, .int .i64 jn, .string (str jt), .slice ja1 jn1 jc1, .slice ja2 jn2 jc2]) j) := JV.keep (fun k hk => ⟨⟨by have := (uh HM1).size; have := hk.1; omega, by rw [z3]; exact hk.2⟩, k3 k (by have := (uh HM1).size; have := hk.1; omega)⟩) _ _ hJ2
  have LB3 : Hid (Lb W w3 S) := by rw [h3]; exact ((Lb.ofMv hMW2).set5 _ _ _ _ _)
  have R3 := hide r3
  have E3 := hide ((k3 (S + 1) (by omega)).trans E2)
  have HSW : Hid (S + 2 < W.heap.size) := sW
  clear HV hP2 hMv2 hJ2 hM2 R2 E2 fz k3 z3 r3 hP3 sub3 hMW2 sW
  go_upto_region 5 with fail
  rw [← h3]
  clear h3 q0 q1 q2 q3 q4 f0 f1 f2 f3 f4
  go_wp2_with fail
  refine (uh HB3).mono ?_
  rintro e w4 ⟨a4, rfl, HP4, HM4, HS4⟩
  rw [uh HS4] at HRES
  have hle4 := (uh HP4).le
  obtain ⟨c0, c1, c2, cf⟩ := (uh HP4).cells
  have LB4 : Hid (Lb W w4 S) := (uh LB3).trans (Lb.ofMv (uh HM4))
  have sz34 := (uh HM4).size
  have s3 : S + 2 < w3.heap.size := Nat.lt_of_lt_of_le (uh HSW) (uh LB3).size
  have R4 : w4.heap[S]? = some (.cells #[.int .i64 jk, .int .i64 jn, .string (str jt), .slice ja1 jn1 jc1, .slice ja2 jn2 jc2] 44 (0, 0)) := ((uh HM4).block S (by omega) (fun e => by have := Option.some.inj e; omega)).trans (uh R3)
  have E4 : w4.heap[S + 1]? = some (.cells #[.nilIface] 60 (0, 0)) := ((uh HM4).block (S + 1) (by omega) (fun e => by have := Option.some.inj e; omega)).trans (uh E3)
  have HJ4 : Hid (JV w4 (fun k => S + 2 < k ∧ k < w4.heap.size) (.agg #[.int .i64 jk, .int .i64 jn, .string (str jt), .slice ja1 jn1 jc1, .slice ja2 jn2 jc2]) j) := JV.keep (fun k hk => ⟨⟨hk.1, by omega⟩, (uh HM4).block k hk.2 (fun e => by have := Option.some.inj e; omega)⟩) _ _ (uh HJ3)
  clear HB3 HJ3 R3 E3 LB3 HS4 c0 c2 cf
  by_cases hlt : a4 < T.length
  ·have hlt' : (a4 : Int) < (T.length : Int) := by omega
   have EQN : RES = .no (T.drop a4) 40 := by
    rw [uh HRES]
    cases hd : T.drop a4 with
    | nil => have := drop_nil hd hle4; omega
    | cons c r => rfl
   have HG := hide (giveUp_any (S + 2) T a4 0 40 w4 (uh HP4))
   go_wp2_with fail
   refine (uh HG).mono ?_
   rintro e w5 ⟨rfl, hw5⟩
   subst hw5
   have gS : w5.heap[S]? = some (.cells #[.int .i64 jk, .int .i64 jn, .string (str jt), .slice ja1 jn1 jc1, .slice ja2 jn2 jc2] 44 (0, 0)) := R4
   have gE : w5.heap[S + 1]? = some (.cells #[.nilIface] 60 (0, 0)) := E4
   have HNO := hide EQN
   refine leaves_cons (f := 72) (args := #[.pointer (some ⟨S, 0, none⟩), .pointer (some ⟨S + 1, 0, none⟩)]) (by simp) (by simp [go_sem]) ?_
   refine (catch_flt4 S (S + 1) (.agg #[.int .i64 (a4 : Int), .int .i64 (40 : Int)]) .nilIface [] w5 _ _ _ _ _ gS gE (by omega)).mono ?_
   rintro e u' w9 ⟨rfl, rfl, hw9⟩
   have k9 : ∀ k, k ≠ S → k ≠ S + 1 → w9.heap[k]? = w5.heap[k]? := fun k n1 n2 => by rw [hw9, Below.heap_setCell _ ⟨S + 1, 0, none⟩ _ k n2]; exact far5 _ S k _ _ _ _ _ _ _ _ _ _ n1
   have r9 : w9.heap[S]? = some (.cells #[.int .i64 0, .int .i64 0, .string ⟨#[]⟩, .slice none 0 0, .slice none 0 0] 44 (0, 0)) := by
    rw [hw9, Below.heap_setCell _ ⟨S + 1, 0, none⟩ _ S (by simp)]
    exact hS6 (hS6 (hS6 (hS6 (hS6 gS))))
   have q9 : w9.heap[S + 1]? = some (.cells #[.iface 64 (.agg #[.int .i64 (a4 : Int), .int .i64 (40 : Int)])] 60 (0, 0)) := by
    rw [hw9]
    refine heap_setCell_same _ _ _ #[.nilIface] _ _ ?_
    rw [far5 _ S (S + 1) _ _ _ _ _ _ _ _ _ _ (by omega)]; exact gE
   have t0 : w9.cell? ⟨S, 0, none⟩ = some (.int .i64 0) := cR6 r9
   have t1 : w9.cell? ⟨S, 1, none⟩ = some (.int .i64 0) := cR6 r9
   have t2 : w9.cell? ⟨S, 2, none⟩ = some (.string ⟨#[]⟩) := cR6 r9
   have t3 : w9.cell? ⟨S, 3, none⟩ = some (.slice none 0 0) := cR6 r9
   have t4 : w9.cell? ⟨S, 4, none⟩ = some (.slice none 0 0) := cR6 r9
   have t5 : w9.cell? ⟨S + 1, 0, none⟩ = some (.iface 64 (.agg #[.int .i64 (a4 : Int), .int .i64 (40 : Int)])) := cR6 q9
   have b9 : Below w.heap.size w w9 := rd_below (uh HS) (uh HbW) (uh LB4) hw9
   have tb9 : Tb4 w9 := (uh HP4).tb.keep (fun k hk => k9 k (by rcases hk with rfl | rfl <;> omega) (by rcases hk with rfl | rfl <;> omega))
   have HF : Hid (RdP w T (.returned (.tuple #[.agg #[.int .i64 0, .int .i64 0, .string ⟨#[]⟩, .slice none 0 0, .slice none 0 0], .iface 64 (.agg #[.int .i64 (a4 : Int), .int .i64 (40 : Int)])])) w9) := ⟨b9, tb9, .inr ⟨40, a4, (uh HRR).symm.trans (uh HNO), hle4, rfl⟩⟩
   clear hw9 k9 r9 q9 b9 tb9 gS gE
   simp [Leaves, settle, results, Tryz.results32, go_sem, t0, t1, t2, t3, t4, t5]
   exact uh HF
  ·have hlt' : ¬ (a4 : Int) < (T.length : Int) := by omega
   have EQO : RES = .ok j [] := by
    rw [uh HRES, List.drop_eq_nil_of_le (by omega)]
   have g0 : w4.cell? ⟨S, 0, none⟩ = some (.int .i64 jk) := cR6 R4
   have g1 : w4.cell? ⟨S, 1, none⟩ = some (.int .i64 jn) := cR6 R4
   have g2 : w4.cell? ⟨S, 2, none⟩ = some (.string (str jt)) := cR6 R4
   have g3 : w4.cell? ⟨S, 3, none⟩ = some (.slice ja1 jn1 jc1) := cR6 R4
   have g4 : w4.cell? ⟨S, 4, none⟩ = some (.slice ja2 jn2 jc2) := cR6 R4
   have g5 : w4.cell? ⟨S + 1, 0, none⟩ = some .nilIface := cR6 E4
   have fz : ∀ j, w4.frozen? ⟨S, j, none⟩ = false := fun j => frozen_of_row _ _ _ _ _ R4
   have f0 := fz 0
   have f1 := fz 1
   have f2 := fz 2
   have f3 := fz 3
   have f4 := fz 4
   have f5 : w4.frozen? ⟨S + 1, 0, none⟩ = false := frozen_of_row _ _ _ _ _ E4
   obtain ⟨w5, h5⟩ : ∃ w5, w5 = (((((w4.setCell ⟨S, 0, none⟩ (.int .i64 jk)).setCell ⟨S, 1, none⟩ (.int .i64 jn)).setCell ⟨S, 2, none⟩ (.string (str jt))).setCell ⟨S, 3, none⟩ (.slice ja1 jn1 jc1)).setCell ⟨S, 4, none⟩ (.slice ja2 jn2 jc2)).setCell ⟨S + 1, 0, none⟩ .nilIface := ⟨_, rfl⟩
   have k5 : ∀ k, k ≠ S → k ≠ S + 1 → w5.heap[k]? = w4.heap[k]? := fun k n1 n2 => by rw [h5, Below.heap_setCell _ ⟨S + 1, 0, none⟩ _ k n2]; exact far5 _ S k _ _ _ _ _ _ _ _ _ _ n1
   have z5 : w5.heap.size = w4.heap.size := by rw [h5, siz1]; exact siz5 w4 _ _ _ _ _ _ _ _ _ _ _
   have r5 : w5.heap[S]? = some (.cells #[.int .i64 jk, .int .i64 jn, .string (str jt), .slice ja1 jn1 jc1, .slice ja2 jn2 jc2] 44 (0, 0)) := by
    rw [h5, Below.heap_setCell _ ⟨S + 1, 0, none⟩ _ S (by simp)]
    exact hS6 (hS6 (hS6 (hS6 (hS6 R4))))
   have q5 : w5.heap[S + 1]? = some (.cells #[.nilIface] 60 (0, 0)) := by
    rw [h5]
    refine heap_setCell_same _ _ _ #[.nilIface] _ _ ?_
    rw [far5 _ S (S + 1) _ _ _ _ _ _ _ _ _ _ (by omega)]; exact E4
   have t0 : w5.cell? ⟨S, 0, none⟩ = some (.int .i64 jk) := cR6 r5
   have t1 : w5.cell? ⟨S, 1, none⟩ = some (.int .i64 jn) := cR6 r5
   have t2 : w5.cell? ⟨S, 2, none⟩ = some (.string (str jt)) := cR6 r5
   have t3 : w5.cell? ⟨S, 3, none⟩ = some (.slice ja1 jn1 jc1) := cR6 r5
   have t4 : w5.cell? ⟨S, 4, none⟩ = some (.slice ja2 jn2 jc2) := cR6 r5
   have t5 : w5.cell? ⟨S + 1, 0, none⟩ = some .nilIface := cR6 q5
   have tb5 : Tb4 w5 := (uh HP4).tb.keep (fun k hk => k5 k (by rcases hk with rfl | rfl <;> omega) (by rcases hk with rfl | rfl <;> omega))
   have b5 : Below w.heap.size w w5 := by
    rw [h5]; exact (((uh LB4).set5 _ _ _ _ _).set1).below (uh HS) (uh HbW)
   have HF : Hid (RdP w T (.returned (.tuple #[.agg #[.int .i64 jk, .int .i64 jn, .string (str jt), .slice ja1 jn1 jc1, .slice ja2 jn2 jc2], .nilIface])) w5) := ⟨b5, tb5, .inl ⟨j, _, (uh HRR).symm.trans EQO, rfl, JV.keep (fun k hk => ⟨⟨by have := uh HS; omega, by rw [z5]; exact hk.2⟩, k5 k (by omega) (by omega)⟩) _ _ (uh HJ4)⟩⟩
   clear fz k5 z5 r5 q5 tb5 b5 EQO R4 E4
   go_wp2_with fail
   rw [← h5]
   clear h5
   refine leaves_cons (f := 72) (args := #[.pointer (some ⟨S, 0, none⟩), .pointer (some ⟨S + 1, 0, none⟩)]) (by simp) (by simp [go_sem]) ?_
   refine (catch_idle4 ⟨S, 0, none⟩ ⟨S + 1, 0, none⟩ w5).mono ?_
   rintro e u' w9 ⟨rfl, rfl, hw9⟩
   subst hw9
   simp [Leaves, settle, results, Tryz.results32, go_sem, t0, t1, t2, t3, t4, t5]
   exact uh HF
 ·have hMW2 : Mv W w2 (S + 2) := (uh HM1).trans h3
  have sW : S + 2 < W.heap.size := uh HW3
  have EQN : RES = .no (T.drop a2) y := by rw [uh HRES, hM2]
  have gS : w2.heap[S]? = some (.cells #[.int .i64 0, .int .i64 0, .string ⟨#[]⟩, .slice none 0 0, .slice none 0 0] 44 (0, 0)) := (hMW2.block S (by omega) (fun e => by have := Option.some.inj e; omega)).trans (uh HR)
  have gE : w2.heap[S + 1]? = some (.cells #[.nilIface] 60 (0, 0)) := (hMW2.block (S + 1) (by omega) (fun e => by have := Option.some.inj e; omega)).trans (uh HE)
  have HNO := hide EQN
  refine leaves_cons (f := 72) (args := #[.pointer (some ⟨S, 0, none⟩), .pointer (some ⟨S + 1, 0, none⟩)]) (by simp) (by simp [go_sem]) ?_
  refine (catch_flt4 S (S + 1) (.agg #[.int .i64 (a2 : Int), .int .i64 (y : Int)]) .nilIface [] w2 _ _ _ _ _ gS gE (by omega)).mono ?_
  rintro e u' w9 ⟨rfl, rfl, hw9⟩
  have k9 : ∀ k, k ≠ S → k ≠ S + 1 → w9.heap[k]? = w2.heap[k]? := fun k n1 n2 => by rw [hw9, Below.heap_setCell _ ⟨S + 1, 0, none⟩ _ k n2]; exact far5 _ S k _ _ _ _ _ _ _ _ _ _ n1
  have r9 : w9.heap[S]? = some (.cells #[.int .i64 0, .int .i64 0, .string ⟨#[]⟩, .slice none 0 0, .slice none 0 0] 44 (0, 0)) := by
   rw [hw9, Below.heap_setCell _ ⟨S + 1, 0, none⟩ _ S (by simp)]
   exact hS6 (hS6 (hS6 (hS6 (hS6 gS))))
  have q9 : w9.heap[S + 1]? = some (.cells #[.iface 64 (.agg #[.int .i64 (a2 : Int), .int .i64 (y : Int)])] 60 (0, 0)) := by
   rw [hw9]
   refine heap_setCell_same _ _ _ #[.nilIface] _ _ ?_
   rw [far5 _ S (S + 1) _ _ _ _ _ _ _ _ _ _ (by omega)]; exact gE
  have t0 : w9.cell? ⟨S, 0, none⟩ = some (.int .i64 0) := cR6 r9
  have t1 : w9.cell? ⟨S, 1, none⟩ = some (.int .i64 0) := cR6 r9
  have t2 : w9.cell? ⟨S, 2, none⟩ = some (.string ⟨#[]⟩) := cR6 r9
  have t3 : w9.cell? ⟨S, 3, none⟩ = some (.slice none 0 0) := cR6 r9
  have t4 : w9.cell? ⟨S, 4, none⟩ = some (.slice none 0 0) := cR6 r9
  have t5 : w9.cell? ⟨S + 1, 0, none⟩ = some (.iface 64 (.agg #[.int .i64 (a2 : Int), .int .i64 (y : Int)])) := cR6 q9
  have b9 : Below w.heap.size w w9 := rd_below (uh HS) (uh HbW) (Lb.ofMv hMW2) hw9
  have tb9 : Tb4 w9 := (tbW hMW2 (uh HTB) hg4).keep (fun k hk => k9 k (by rcases hk with rfl | rfl <;> omega) (by rcases hk with rfl | rfl <;> omega))
  have HF : Hid (RdP w T (.returned (.tuple #[.agg #[.int .i64 0, .int .i64 0, .string ⟨#[]⟩, .slice none 0 0, .slice none 0 0], .iface 64 (.agg #[.int .i64 (a2 : Int), .int .i64 (y : Int)])])) w9) := ⟨b9, tb9, .inr ⟨y, a2, (uh HRR).symm.trans (uh HNO), h2, rfl⟩⟩
  clear hw9 k9 r9 q9 b9 tb9 gS gE
  simp [Leaves, settle, results, Tryz.results32, go_sem, t0, t1, t2, t3, t4, t5]
  exact uh HF
end Go.Proofs.YtmpjeahibfdehaaGreatDoor
end
