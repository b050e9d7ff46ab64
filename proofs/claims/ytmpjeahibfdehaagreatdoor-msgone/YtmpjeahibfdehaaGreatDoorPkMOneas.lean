/-
  jsonx: object.; jsonx: value.; jsonx's parser as mathematics: what is left is an end of the text; a text with blanks behind it.; jsonx's parser as mathematics: values with blanks behind them; what a text with blanks around it tells.; jsonx: small things about rows of our own and values in memory.
-/
import Derived.Test.YtmpjeahibfdehaaGreatDoorPkMOneah
import Derived.Test.YtmpjeahibfdehaaGreatDoorPkMOnear
section
set_option linter.unusedVariables false
set_option maxRecDepth 1000000
namespace Go.Proofs.YtmpjeahibfdehaaGreatDoor
open Go.RowKit Go.Maps

theorem ob_me (V : List UInt8 → Rs Js) : ∀ (f : Nat) (ns : List (List UInt8)) (is : List Js) (l : List UInt8), obL V f ns is l = meL (mbO V) f (ns, is) l
 | 0, ns, is, l => rfl
 | f + 1, ns, is, l => by
  rw [obL, meL, mbO]
  cases hV : mbM V ns l with
  | no r y => rfl
  | ok v r =>
   simp only
   cases hs : skB r with
   | nil => rfl
   | cons c r2 =>
    simp only
    split
    ·exact ob_me V f _ _ _
    ·rfl
theorem mb_len (V : List UInt8 → Rs Js) (hL : VaL V) (ns : List (List UInt8)) (l r : List UInt8) (x : List UInt8 × Js) (h : mbM V ns l = .ok x r) : r.length ≤ l.length := by
 unfold mbM at h
 cases h1 : uqM l with
 | no r y => rw [h1] at h; cases h
 | ok nm r1 =>
  rw [h1] at h
  have e1 := (uq_len _ _ _ h1).2
  simp only at h
  split at h
  ·cases h
  ·cases h2 : tkM 34 r1 with
   | no r y => rw [h2] at h; cases h
   | ok u r2 =>
    rw [h2] at h
    have e2 := congrArg List.length (tk_len _ _ _ h2)
    simp only [List.length_cons] at e2 h
    have e3 := skB_le r2
    cases h3 : tkM 58 (skB r2) with
    | no r y => rw [h3] at h; cases h
    | ok u r3 =>
     rw [h3] at h
     have e4 := congrArg List.length (tk_len _ _ _ h3)
     simp only [List.length_cons] at e4 h
     have e5 := skB_le r3
     cases h4 : V (skB r3) with
     | no r y => rw [h4] at h; cases h
     | ok v r4 =>
      rw [h4] at h
      simp only [Rs.ok.injEq] at h
      have e6 := hL _ _ _ h4
      rw [← h.2]
      omega
/-- An object, from behind its bracket on. -/
def obF (V : List UInt8 → Rs Js) (r : List UInt8) : Rs Js := match mmM 125 ([], []) (fun l => obL V (l.length + 1) [] [] l) r with | .no r2 y => .no r2 y | .ok x r2 => .ok (.mk 5 0 [] x.1 x.2) r2
theorem obF_ok {V : List UInt8 → Rs Js} {r : List UInt8} {x : List (List UInt8) × List Js} {r2 : List UInt8} (h : mmM 125 ([], []) (fun l => obL V (l.length + 1) [] [] l) r = .ok x r2) : obF V r = .ok (.mk 5 0 [] x.1 x.2) r2 := by unfold obF; rw [h]
theorem obF_no {V : List UInt8 → Rs Js} {r : List UInt8} {r2 : List UInt8} {y : Nat} (h : mmM 125 ([], []) (fun l => obL V (l.length + 1) [] [] l) r = .no r2 y) : obF V r = .no r2 y := by unfold obF; rw [h]
/-- The object's own state. -/
def ObI (P S : Nat) (w : World) (s : List (List UInt8) × List Js) (n : Nat) : Prop := s.1.length ≤ n ∧ s.2.length ≤ n ∧ ObS w P S s.1 s.2 n
set_option maxHeartbeats 4000000 in
theorem object_any (P : Nat) (T : List UInt8) (d : Nat) (Vf : List UInt8 → Rs Js) (hV : VaC P T (d + 1) Vf) (hL : VaL Vf) (a : Nat) (r : List UInt8) (w : World) (h : Pa w P T a d) (hd : d < 16) (hl : T.drop a = 123 :: r) :
  Calls Tryz.prog 102 #[.pointer (some ⟨P, 0, none⟩)] w fun e w' => Po (fun j val w' => JV w' (Nw w w') val j) T w P d (obF Vf r) e w' := by
 obtain ⟨S, hS⟩ : ∃ S, S = w.heap.size := ⟨_, rfl⟩
 obtain ⟨W0, hW0⟩ : ∃ W0, W0 = ((w.alloc (.cells #[.pointer (some ⟨P, 0, none⟩)] 131)).alloc (.cells #[.int .i64 0, .int .i64 0, .string ⟨#[]⟩, .slice none 0 0, .slice none 0 0] 44)).alloc (.cells #[.int .i64 5, .int .i64 0, .string ⟨#[]⟩, .slice none 0 0, .slice none 0 0] 44) := ⟨_, rfl⟩
 have hbW0 : Below w.heap.size w W0 := by rw [hW0]; exact below3 _ _ _ _
 have hsW0 : W0.heap.size = S + 3 := by rw [hW0, hS]; simp
 have hQ0 : W0.heap[S]? = some (.cells #[.pointer (some ⟨P, 0, none⟩)] 131 (0, 0)) := by
  rw [hW0, hS, heap_alloc_old _ _ (by simp; omega), heap_alloc_old _ _ (by simp)]; exact heap_alloc_new _ _
 have hR0 : W0.heap[S + 1]? = some (.cells #[.int .i64 0, .int .i64 0, .string ⟨#[]⟩, .slice none 0 0, .slice none 0 0] 44 (0, 0)) := by
  rw [hW0, hS, heap_alloc_old _ _ (by simp)]; exact heap_alloc2_new _ _ _
 have hV0 : W0.heap[S + 2]? = some (.cells #[.int .i64 5, .int .i64 0, .string ⟨#[]⟩, .slice none 0 0, .slice none 0 0] 44 (0, 0)) := by
  rw [hW0, hS]
  have e : w.heap.size + 2 = ((w.alloc (.cells #[.pointer (some ⟨P, 0, none⟩)] 131)).alloc (.cells #[.int .i64 0, .int .i64 0, .string ⟨#[]⟩, .slice none 0 0, .slice none 0 0] 44)).heap.size := by simp
  rw [e]; exact heap_alloc_new _ _
 obtain ⟨W, hW⟩ : ∃ W, W = (W0.alloc (.map #[] 0)).alloc (.cells #[.map (some (S + 3))] 162) := ⟨_, rfl⟩
 have hbW1 : Below W0.heap.size W0 W := by rw [hW]; exact below2 _ _ _
 have hbW : Below w.heap.size w W := hbW0.trans (hbW1.mono hbW0.size)
 have hsW : W.heap.size = S + 5 := by rw [hW]; simp; omega
 have hQ := (hbW1.block S (by omega)).trans hQ0
 have hR := (hbW1.block (S + 1) (by omega)).trans hR0
 have hVr := (hbW1.block (S + 2) (by omega)).trans hV0
 have hNr : W.heap[S + 4]? = some (.cells #[.map (some (S + 3))] 162 (0, 0)) := by
  rw [hW, show S + 4 = W0.heap.size + 1 by omega]; exact heap_alloc2_new _ _ _
 have hSN : SN W (S + 3) [] 0 := by
  have h1 := SN.made W0
  rw [hsW0] at h1
  refine h1.same ?_
  rw [hW, heap_alloc_old _ _ (by simp; omega)]
 have hPS : P < S := by rw [hS]; exact h.lt
 have hBv : Bv W (S + 2) (S + 5) 5 [] [] none 0 none 0 [] := ⟨hVr, World.ownsRow_nil W _ _ _, World.ownsRow_nil W _ _ _, fun m j hj => by simp at hj, by simp [blk], by simp [blk], fun k hk => by simp [blk] at hk⟩
 have hOb : ObS W P S [] [] 0 := ⟨hQ, hNr, hR, hSN, ⟨none, 0, none, 0, [], hBv⟩, by omega, hPS⟩
 have HMem : Hid (∀ (w : World) (a : Nat) (s : List (List UInt8) × List Js) (n : Nat), Pa w P T a (d + 1) → ObI P S w s n → S ≤ w.heap.size → n ≤ 65536 → Calls Tryz.prog 138 #[.pointer (some ⟨S, 0, none⟩), .pointer (some ⟨S + 4, 0, none⟩), .pointer (some ⟨S + 2, 0, none⟩)] w fun e w' => (∃ s' a', mbO Vf s (T.drop a) = .ok s' (T.drop a') ∧ e = .returned (.tuple #[]) ∧ Pa w' P T a' (d + 1) ∧ Lm w w' P (S + 2) S ∧ ObI P S w' s' (n + 1)) ∨ (∃ y a', mbO Vf s (T.drop a) = .no (T.drop a') y ∧ e = flt a' y ∧ a' ≤ T.length ∧ Lm w w' P (S + 2) S)) := by
  rintro w a ⟨ns, is⟩ n hp ⟨hi1, hi2, hi3⟩ hz hn
  simp only at hi1 hi2
  refine (object1_any P T (d + 1) Vf hV S a ns is n w hp hi3 (by omega) (by omega) (by omega)).mono ?_
  rintro e w' (⟨s', a', hM, rfl, hp', hlm, hb⟩ | ⟨y, a', hM, rfl, h2, h3⟩)
  ·refine .inl ⟨s', a', hM, rfl, hp', hlm, ?_, ?_, hb⟩
   ·unfold mbO at hM
    cases hx : mbM Vf (ns, is).1 (T.drop a) with
    | no r y => rw [hx] at hM; cases hM
    | ok nv r => rw [hx] at hM; simp only [Rs.ok.injEq] at hM; rw [← hM.1]; simp; omega
   ·unfold mbO at hM
    cases hx : mbM Vf (ns, is).1 (T.drop a) with
    | no r y => rw [hx] at hM; cases hM
    | ok nv r => rw [hx] at hM; simp only [Rs.ok.injEq] at hM; rw [← hM.1]; simp; omega
  ·exact .inr ⟨y, a', hM, rfl, h2, h3⟩
 have hIk : ∀ w w' s n, ObI P S w s n → S ≤ w.heap.size → Mv w w' P → ObI P S w' s n := fun w w' s n hi _ hm => ⟨hi.1, hi.2.1, hi.2.2.mv hm⟩
 have hlen : ∀ s l s' r, mbO Vf s l = .ok s' r → r.length ≤ l.length := by
  intro s l s' r hm
  unfold mbO at hm
  cases hx : mbM Vf s.1 l with
  | no r y => rw [hx] at hm; cases hm
  | ok nv r2 => rw [hx] at hm; simp only [Rs.ok.injEq] at hm; rw [← hm.2]; exact mb_len Vf hL _ _ _ _ hx
 have HME := hide (members_o P T d (S + 2) S S (S + 4) 125 (mbO Vf) (ObI P S) hIk (uh HMem) hlen a ([], []) 123 r W (h.below hbW) hd hl ⟨Nat.zero_le _, Nat.zero_le _, hOb⟩ (by omega))
 have hfun : (fun l => meL (mbO Vf) (l.length + 1) (([] : List (List UInt8)), ([] : List Js)) l) = (fun l => obL Vf (l.length + 1) [] [] l) := funext fun l => (ob_me Vf _ _ _ _).symm
 rw [hfun] at HME
 obtain ⟨R2, hR2⟩ : ∃ R2, R2 = obF Vf r := ⟨_, rfl⟩
 have HOK : Hid (∀ x r2, mmM 125 ([], []) (fun l => obL Vf (l.length + 1) [] [] l) r = .ok x r2 → R2 = .ok (.mk 5 0 [] x.1 x.2) r2) := fun x r2 hx => by rw [hR2]; exact obF_ok hx
 have HNO : Hid (∀ r2 y, mmM 125 ([], []) (fun l => obL Vf (l.length + 1) [] [] l) r = .no r2 y → R2 = .no r2 y) := fun r2 y hx => by rw [hR2]; exact obF_no hx
 rw [← hR2]
 have HR := hide hR
 have cQ : W.cell? ⟨S, 0, none⟩ = some (.pointer (some ⟨P, 0, none⟩)) := cq_of hQ
 have HbW := hide hbW
 have HS := hide hS
 have HsW := hide hsW
 have HPS := hide hPS
 have HsW0 := hide hsW0
 rw [show ((125 : UInt8).toNat : Int) = 125 from rfl] at HME
 have hmk : ∀ w : World, (Instr.makeMap 162 none).run Tryz.prog w = .ok (.map (some w.heap.size)) (w.alloc (.map #[] 0)) := fun w => by simp [Instr.makeMap, go_sem]
 clear hBv hOb HMem hIk hlen hfun hQ hR hVr hNr hSN hbW h hR2 hV hL hsW hPS hl hbW0 hbW1 hQ0 hR0 hV0 hsW0
 have hmf : ∀ (fn : Fn) (first cap : Array Value) (w : World), (Instr.makeFunc fn first cap).run Tryz.prog w = .ok (.func fn first cap) w := fun _ _ _ _ => rfl
 go_enter Tryz.func102, Tryz.ntmps102
 go_upto_region 2 with fail
 rw [← hW0, ← hS]
 clear hW0 hS
 go_upto_region 3 with fail
 rw [uh HsW0, ← hW]
 clear hW
 go_wp2_with fail
 refine (uh HME).mono ?_
 rintro e w5 (⟨s, a5, n, hM5, rfl, hP5, hL5, hI5⟩ | ⟨y, a5, hM5, rfl, h2, h3⟩)
 rotate_left 1
 ·refine ⟨rfl, Po.nay (uh HNO _ _ hM5) h2 ?_⟩
  exact ⟨h3.os.trans (uh HbW).os, h3.tape.trans (uh HbW).tape, h3.output.trans (uh HbW).output, Nat.le_trans (uh HbW).size h3.size, fun k hk hn => (h3.block k (by have := uh HS; omega) (fun e => hn (by rw [e])) (by have := uh HS; omega)).trans ((uh HbW).block k hk)⟩
 ·obtain ⟨_, _, hObs⟩ := hI5
  obtain ⟨a1, c1, a2, c2, xs, hB⟩ := hObs.bv
  have HM := hide hM5
  obtain ⟨ns, is⟩ := s
  simp only at hB
  have r5 := hB.row
  have g0 : w5.cell? ⟨S + 2, 0, none⟩ = some (.int .i64 5) := cR6 r5
  have g1 : w5.cell? ⟨S + 2, 1, none⟩ = some (.int .i64 0) := cR6 r5
  have g2 : w5.cell? ⟨S + 2, 2, none⟩ = some (.string ⟨#[]⟩) := cR6 r5
  have g3 : w5.cell? ⟨S + 2, 3, none⟩ = some (.slice a1 ns.length c1) := cR6 r5
  have g4 : w5.cell? ⟨S + 2, 4, none⟩ = some (.slice a2 is.length c2) := cR6 r5
  have R5 := hObs.r
  have q0 : w5.cell? ⟨S + 1, 0, none⟩ = some (.int .i64 0) := cR6 R5
  have q1 : w5.cell? ⟨S + 1, 1, none⟩ = some (.int .i64 0) := cR6 R5
  have q2 : w5.cell? ⟨S + 1, 2, none⟩ = some (.string ⟨#[]⟩) := cR6 R5
  have q3 : w5.cell? ⟨S + 1, 3, none⟩ = some (.slice none 0 0) := cR6 R5
  have q4 : w5.cell? ⟨S + 1, 4, none⟩ = some (.slice none 0 0) := cR6 R5
  have fz : ∀ j, w5.frozen? ⟨S + 1, j, none⟩ = false := fun j => frozen_of_row _ _ _ _ _ R5
  have f0 := fz 0
  have f1 := fz 1
  have f2 := fz 2
  have f3 := fz 3
  have f4 := fz 4
  obtain ⟨w6, h6⟩ : ∃ w6, w6 = ((((w5.setCell ⟨S + 1, 0, none⟩ (.int .i64 5)).setCell ⟨S + 1, 1, none⟩ (.int .i64 0)).setCell ⟨S + 1, 2, none⟩ (.string ⟨#[]⟩)).setCell ⟨S + 1, 3, none⟩ (.slice a1 ns.length c1)).setCell ⟨S + 1, 4, none⟩ (.slice a2 is.length c2) := ⟨_, rfl⟩
  have k6 : ∀ k, k ≠ S + 1 → w6.heap[k]? = w5.heap[k]? := fun k hk => by rw [h6]; exact far5 w5 (S + 1) k _ _ _ _ _ _ _ _ _ _ hk
  have z6 : w6.heap.size = w5.heap.size := by rw [h6]; exact siz5 w5 _ _ _ _ _ _ _ _ _ _ _
  have R6 : w6.heap[S + 1]? = some (.cells #[.int .i64 5, .int .i64 0, .string ⟨#[]⟩, .slice a1 ns.length c1, .slice a2 is.length c2] 44 (0, 0)) := by
   rw [h6]
   exact hS6 (hS6 (hS6 (hS6 (hS6 R5))))
  have t0 : w6.cell? ⟨S + 1, 0, none⟩ = some (.int .i64 5) := cR6 R6
  have t1 : w6.cell? ⟨S + 1, 1, none⟩ = some (.int .i64 0) := cR6 R6
  have t2 : w6.cell? ⟨S + 1, 2, none⟩ = some (.string ⟨#[]⟩) := cR6 R6
  have t3 : w6.cell? ⟨S + 1, 3, none⟩ = some (.slice a1 ns.length c1) := cR6 R6
  have t4 : w6.cell? ⟨S + 1, 4, none⟩ = some (.slice a2 is.length c2) := cR6 R6
  have HJ : Hid (JV w6 (Nw w w6) (.agg #[.int .i64 5, .int .i64 0, .string ⟨#[]⟩, .slice a1 ns.length c1, .slice a2 is.length c2]) (.mk 5 0 [] ns is)) := JV.keep (fun k hk => ⟨⟨by have := uh HS; omega, by omega⟩, k6 k (by omega)⟩) _ _ hB.done
  have hgp := hP5.gp
  have HP6 : Hid (Pa w6 P T a5 d) := { hP5 with row := (k6 P (by have := uh HPS; omega)).trans hP5.row, tb := hP5.tb.keep (fun k hk => k6 k (by have := uh HPS; rcases hk with rfl | rfl <;> omega)) }
  have HM6 : Hid (Mv w w6 P) := ⟨by rw [h6]; exact hL5.os.trans (uh HbW).os, by rw [h6]; exact hL5.tape.trans (uh HbW).tape, by rw [h6]; exact hL5.output.trans (uh HbW).output, by rw [z6]; exact Nat.le_trans (uh HbW).size hL5.size, fun k hk hn => (k6 k (by have := uh HS; omega)).trans ((hL5.block k (by have := uh HS; omega) (fun e => hn (by rw [e])) (by have := uh HS; omega)).trans ((uh HbW).block k hk))⟩
  have HOK2 : Hid (R2 = .ok (.mk 5 0 [] ns is) (T.drop a5)) := uh HOK _ _ (uh HM)
  clear hB r5 R5 fz k6 z6 R6 hP5 hL5 hM5 HME cQ HR hObs HM HOK HNO
  go_wp2_with fail
  rw [← h6]
  clear h6
  refine ⟨rfl, .agg #[.int .i64 5, .int .i64 0, .string ⟨#[]⟩, .slice a1 ns.length c1, .slice a2 is.length c2], by simp [results, Tryz.results102, go_sem, t0, t1, t2, t3, t4], ?_⟩
  exact Po.yes (uh HOK2) (uh HP6) (uh HM6) (uh HJ)
end Go.Proofs.YtmpjeahibfdehaaGreatDoor
end
section
set_option linter.unusedVariables false
set_option maxRecDepth 1000000
namespace Go.Proofs.YtmpjeahibfdehaaGreatDoor
open Go.RowKit

theorem oth5 (w : World) (g o0 o1 o2 o3 o4 : Nat) (v0 v1 v2 v3 v4 : Value) : (((((w.setCell ⟨g, o0, none⟩ v0).setCell ⟨g, o1, none⟩ v1).setCell ⟨g, o2, none⟩ v2).setCell ⟨g, o3, none⟩ v3).setCell ⟨g, o4, none⟩ v4).os = w.os ∧ (((((w.setCell ⟨g, o0, none⟩ v0).setCell ⟨g, o1, none⟩ v1).setCell ⟨g, o2, none⟩ v2).setCell ⟨g, o3, none⟩ v3).setCell ⟨g, o4, none⟩ v4).tape = w.tape ∧ (((((w.setCell ⟨g, o0, none⟩ v0).setCell ⟨g, o1, none⟩ v1).setCell ⟨g, o2, none⟩ v2).setCell ⟨g, o3, none⟩ v3).setCell ⟨g, o4, none⟩ v4).output = w.output := by
 have k := grownBy_setCell
 exact ⟨(k _ _ _).os.trans ((k _ _ _).os.trans ((k _ _ _).os.trans ((k _ _ _).os.trans (k _ _ _).os))), (k _ _ _).tape.trans ((k _ _ _).tape.trans ((k _ _ _).tape.trans ((k _ _ _).tape.trans (k _ _ _).tape))), (k _ _ _).output.trans ((k _ _ _).output.trans ((k _ _ _).output.trans ((k _ _ _).output.trans (k _ _ _).output)))⟩
/-- What the end of value leaves: its result, in its block. -/
theorem vret {w W w2 : World} {P R : Nat} {T : List UInt8} {a d : Nat} {v0 v1 v2 v3 v4 : Value} {j : Js} (hR : R = w.heap.size) (hW : W = w.alloc (.cells #[.int .i64 0, .int .i64 0, .string ⟨#[]⟩, .slice none 0 0, .slice none 0 0] 44)) (hP : Pa w2 P T a d) (hPR : P < R) (hm : Mv W w2 P) (hj : JV w2 (fun k => R < k ∧ k < w2.heap.size) (.agg #[v0, v1, v2, v3, v4]) j) :
  w2.heap[R]? = some (.cells #[.int .i64 0, .int .i64 0, .string ⟨#[]⟩, .slice none 0 0, .slice none 0 0] 44 (0, 0)) ∧ ∃ w3, w3 = ((((w2.setCell ⟨R, 0, none⟩ v0).setCell ⟨R, 1, none⟩ v1).setCell ⟨R, 2, none⟩ v2).setCell ⟨R, 3, none⟩ v3).setCell ⟨R, 4, none⟩ v4 ∧ w3.heap[R]? = some (.cells #[v0, v1, v2, v3, v4] 44 (0, 0)) ∧ JV w3 (Nw w w3) (.agg #[v0, v1, v2, v3, v4]) j ∧ Pa w3 P T a d ∧ Mv w w3 P := by
 have hbW : Below w.heap.size w W := by rw [hW]; exact bA _
 have hsW : W.heap.size = R + 1 := by rw [hW, hR]; simp
 have rW : W.heap[R]? = some (.cells #[.int .i64 0, .int .i64 0, .string ⟨#[]⟩, .slice none 0 0, .slice none 0 0] 44 (0, 0)) := by rw [hW, hR]; exact heap_alloc_new _ _
 have r2 := (hm.block R (by omega) (fun e => by have := Option.some.inj e; omega)).trans rW
 refine ⟨r2, _, rfl, hS6 (hS6 (hS6 (hS6 (hS6 r2)))), ?_, ?_, ?_⟩
 ·exact JV.keep (fun k hk => ⟨⟨by omega, by rw [siz5]; exact hk.2⟩, far5 w2 R k _ _ _ _ _ _ _ _ _ _ (by omega)⟩) _ _ hj
 ·have hg := hP.gp
  exact { hP with row := (far5 w2 R P _ _ _ _ _ _ _ _ _ _ (by omega)).trans hP.row, tb := hP.tb.keep (fun k hk => far5 w2 R k _ _ _ _ _ _ _ _ _ _ (by rcases hk with rfl | rfl <;> omega)) }
 ·obtain ⟨o1, o2, o3⟩ := oth5 w2 R 0 1 2 3 4 v0 v1 v2 v3 v4
  exact ⟨o1.trans (hm.os.trans hbW.os), o2.trans (hm.tape.trans hbW.tape), o3.trans (hm.output.trans hbW.output), by rw [siz5]; exact Nat.le_trans hbW.size hm.size, fun k hk hn => (far5 w2 R k _ _ _ _ _ _ _ _ _ _ (by omega)).trans ((hm.block k (by have := hbW.size; omega) hn).trans (hbW.block k hk))⟩
set_option maxHeartbeats 4000000 in
theorem list_deep (P : Nat) (T : List UInt8) (a : Nat) (w : World) (h : Pa w P T a 16) :
  Calls Tryz.prog 103 #[.pointer (some ⟨P, 0, none⟩)] w fun e w' => e = flt a 41 ∧ Hid (Below w.heap.size w w') := by
 obtain ⟨S, hS⟩ : ∃ S, S = w.heap.size := ⟨_, rfl⟩
 obtain ⟨W0, hW0⟩ : ∃ W0, W0 = ((w.alloc (.cells #[.pointer (some ⟨P, 0, none⟩)] 131)).alloc (.cells #[.int .i64 0, .int .i64 0, .string ⟨#[]⟩, .slice none 0 0, .slice none 0 0] 44)).alloc (.cells #[.int .i64 4, .int .i64 0, .string ⟨#[]⟩, .slice none 0 0, .slice none 0 0] 44) := ⟨_, rfl⟩
 have hbW0 : Below w.heap.size w W0 := by rw [hW0]; exact below3 _ _ _ _
 have hsW0 : W0.heap.size = S + 3 := by rw [hW0, hS]; simp
 have hQ0 : W0.heap[S]? = some (.cells #[.pointer (some ⟨P, 0, none⟩)] 131 (0, 0)) := by
  rw [hW0, hS, heap_alloc_old _ _ (by simp; omega), heap_alloc_old _ _ (by simp)]; exact heap_alloc_new _ _
 have cQ := cq_of hQ0
 have HD := fun x FV => hide (members_deep P T a x FV W0 (h.below hbW0))
 have HB := hide hbW0
 clear h hbW0 hQ0 hsW0
 have hmf : ∀ (fn : Fn) (first cap : Array Value) (w : World), (Instr.makeFunc fn first cap).run Tryz.prog w = .ok (.func fn first cap) w := fun _ _ _ _ => rfl
 go_enter Tryz.func103, Tryz.ntmps103
 go_upto_region 2 with fail
 rw [← hW0, ← hS]
 clear hW0 hS
 go_wp2_with fail
 refine (uh (HD _ _)).mono ?_
 rintro e w5 ⟨rfl, hw5⟩
 subst hw5
 exact ⟨rfl, rfl, HB⟩
set_option maxHeartbeats 4000000 in
theorem object_deep (P : Nat) (T : List UInt8) (a : Nat) (w : World) (h : Pa w P T a 16) :
  Calls Tryz.prog 102 #[.pointer (some ⟨P, 0, none⟩)] w fun e w' => e = flt a 41 ∧ Hid (Below w.heap.size w w') := by
 obtain ⟨S, hS⟩ : ∃ S, S = w.heap.size := ⟨_, rfl⟩
 obtain ⟨W0, hW0⟩ : ∃ W0, W0 = ((w.alloc (.cells #[.pointer (some ⟨P, 0, none⟩)] 131)).alloc (.cells #[.int .i64 0, .int .i64 0, .string ⟨#[]⟩, .slice none 0 0, .slice none 0 0] 44)).alloc (.cells #[.int .i64 5, .int .i64 0, .string ⟨#[]⟩, .slice none 0 0, .slice none 0 0] 44) := ⟨_, rfl⟩
 have hbW0 : Below w.heap.size w W0 := by rw [hW0]; exact below3 _ _ _ _
 have hsW0 : W0.heap.size = S + 3 := by rw [hW0, hS]; simp
 have hQ0 : W0.heap[S]? = some (.cells #[.pointer (some ⟨P, 0, none⟩)] 131 (0, 0)) := by
  rw [hW0, hS, heap_alloc_old _ _ (by simp; omega), heap_alloc_old _ _ (by simp)]; exact heap_alloc_new _ _
 obtain ⟨W, hW⟩ : ∃ W, W = (W0.alloc (.map #[] 0)).alloc (.cells #[.map (some (S + 3))] 162) := ⟨_, rfl⟩
 have hbW1 : Below W0.heap.size W0 W := by rw [hW]; exact below2 _ _ _
 have hbW : Below w.heap.size w W := hbW0.trans (hbW1.mono hbW0.size)
 have cQ := cq_of ((hbW1.block S (by omega)).trans hQ0)
 have HD := fun x FV => hide (members_deep P T a x FV W (h.below hbW))
 have HB := hide hbW
 have HsW0 := hide hsW0
 have hmk : ∀ w : World, (Instr.makeMap 162 none).run Tryz.prog w = .ok (.map (some w.heap.size)) (w.alloc (.map #[] 0)) := fun w => by simp [Instr.makeMap, go_sem]
 clear h hbW0 hQ0 hsW0 hbW1 hbW
 have hmf : ∀ (fn : Fn) (first cap : Array Value) (w : World), (Instr.makeFunc fn first cap).run Tryz.prog w = .ok (.func fn first cap) w := fun _ _ _ _ => rfl
 go_enter Tryz.func102, Tryz.ntmps102
 go_upto_region 2 with fail
 rw [← hW0, ← hS]
 clear hW0 hS
 go_upto_region 3 with fail
 rw [uh HsW0, ← hW]
 clear hW
 go_wp2_with fail
 refine (uh (HD _ _)).mono ?_
 rintro e w5 ⟨rfl, hw5⟩
 subst hw5
 exact ⟨rfl, rfl, HB⟩
set_option maxHeartbeats 16000000 in
theorem value_step (P : Nat) (T : List UInt8) (d : Nat) (V : Option (List UInt8 → Rs Js)) (hVn : V = none → d = 16) (hVs : ∀ Vf, V = some Vf → d < 16 ∧ VaC P T (d + 1) Vf ∧ VaL Vf) : VaC P T d (vaF V) := by
 intro a w h
 obtain ⟨R, hR⟩ : ∃ R, R = w.heap.size := ⟨_, rfl⟩
 obtain ⟨W, hW⟩ : ∃ W, W = w.alloc (.cells #[.int .i64 0, .int .i64 0, .string ⟨#[]⟩, .slice none 0 0, .slice none 0 0] 44) := ⟨_, rfl⟩
 have hbW : Below w.heap.size w W := by rw [hW]; exact bA _
 have HSW : Hid (W.heap.size = R + 1) := by show _ = _; rw [hW, hR]; simp
 have hPR : P < R := by rw [hR]; exact h.lt
 have hN := next_any P T a d W (h.below hbW)
 have HMW : Hid (Mv w W P) := Mv.ofB hbW
 have hle := h.le
 have hbig := h.big
 obtain ⟨RES, hRES⟩ : ∃ RES, RES = vaF V (T.drop a) := ⟨_, rfl⟩
 rw [← hRES]
 have HRES := hide hRES
 have HR := hide hR
 have HWW := hide hW
 clear h hbW hRES hR hW
 cases hl : T.drop a with
 | nil =>
  rw [hl, show nxI [] = -1 from rfl] at hN
  have HN := hide hN
  have HE : Hid (RES = .no (T.drop a) 40) := by show _ = _; rw [uh HRES, hl]; rfl
  clear hN
  go_enter Tryz.func74, Tryz.ntmps74
  go_upto_region 1 with fail
  rw [← uh HWW, ← uh HR]
  go_wp2_with fail
  refine (uh HN).mono ?_
  rintro e w1 ⟨rfl, HP1, HB1⟩
  have HM1 : Hid (Mv W w1 P) := Mv.ofB (uh HB1)
  have hsz1 : R + 1 ≤ w1.heap.size := by have := (uh HB1).size; have := uh HSW; omega
  clear HN HB1
  have HI := hide (isDigit4 (-1) w1)
  rw [show dgI (-1) = false from rfl] at HI
  go_wp2_with fail
  refine (uh HI).mono ?_
  rintro e w1' ⟨rfl, hw1⟩
  subst hw1
  have HG := hide (giveUp_any P T a d 40 w1' (uh HP1))
  clear HI
  go_wp2_with fail
  refine (uh HG).mono ?_
  rintro e w5 ⟨rfl, hw5⟩
  subst hw5
  exact ⟨rfl, Po.nay (uh HE) hle ((uh HMW).trans (uh HM1))⟩
 | cons c r =>
  rw [hl, show nxI (c :: r) = (c.toNat : Int) from rfl] at hN
  have HN := hide hN
  have hc256 := c.toNat_lt
  clear hN
  by_cases h123 : c = 123
  ·subst h123
   rw [show (((123 : UInt8).toNat : Nat) : Int) = 123 from rfl] at HN
   go_enter Tryz.func74, Tryz.ntmps74
   go_upto_region 1 with fail
   rw [← uh HWW, ← uh HR]
   go_wp2_with fail
   refine (uh HN).mono ?_
   rintro e w1 ⟨rfl, HP1, HB1⟩
   have HM1 : Hid (Mv W w1 P) := Mv.ofB (uh HB1)
   have hsz1 : R + 1 ≤ w1.heap.size := by have := (uh HB1).size; have := uh HSW; omega
   clear HN HB1
   cases V with
   | none =>
    have hd16 := hVn rfl
    subst hd16
    have HE : Hid (RES = .no (T.drop a) 41) := by show _ = _; rw [uh HRES, hl]; rfl
    have HC := hide (object_deep P T a w1 (uh HP1))
    go_wp2_with fail
    refine (uh HC).mono ?_
    rintro e w2 ⟨rfl, HB2⟩
    exact ⟨rfl, Po.nay (uh HE) hle ((uh HMW).trans ((uh HM1).trans (Mv.ofB (uh HB2))))⟩
   | some Vf =>
    obtain ⟨hd, hV, hL⟩ := hVs Vf rfl
    have HE : Hid (RES = obF Vf r) := by show _ = _; rw [uh HRES, hl]; rfl
    have HC := hide (object_any P T d Vf hV hL a r w1 (uh HP1) hd hl)
    clear hV hL
    go_wp2_with fail
    refine (uh HC).mono ?_
    rintro e w2 (⟨j, val, a2, hM2, rfl, hP2, hMv2, hJ2⟩ | ⟨y, a2, hM2, rfl, h2, h3⟩)
    rotate_left 1
    ·exact ⟨rfl, Po.nay (by rw [uh HE, hM2]) h2 ((uh HMW).trans ((uh HM1).trans h3))⟩
    obtain ⟨jk, jn, jt, ja1, jn1, jc1, ja2, jn2, jc2, rfl⟩ := hJ2.form
    have HEF := hide ((uh HE).trans hM2)
    obtain ⟨r2, w9, h9, r9, HJ9, HP9, HM9⟩ := vret (uh HR) (uh HWW) hP2 hPR ((uh HM1).trans hMv2) (JV.keep (fun k hk => ⟨⟨by have := hk.1; omega, hk.2⟩, rfl⟩) _ _ hJ2)
    have q0 := cell_of_row w2 R 0 _ _ _ r2
    have q1 := cell_of_row w2 R 1 _ _ _ r2
    have q2 := cell_of_row w2 R 2 _ _ _ r2
    have q3 := cell_of_row w2 R 3 _ _ _ r2
    have q4 := cell_of_row w2 R 4 _ _ _ r2
    simp only [xq1, xq3, List.getElem?_cons_succ] at q0 q1 q2 q3 q4
    have fz : ∀ j, w2.frozen? ⟨R, j, none⟩ = false := fun j => frozen_of_row _ _ _ _ _ r2
    have f0 := fz 0
    have f1 := fz 1
    have f2 := fz 2
    have f3 := fz 3
    have f4 := fz 4
    have t0 := cell_of_row w9 R 0 _ _ _ r9
    have t1 := cell_of_row w9 R 1 _ _ _ r9
    have t2 := cell_of_row w9 R 2 _ _ _ r9
    have t3 := cell_of_row w9 R 3 _ _ _ r9
    have t4 := cell_of_row w9 R 4 _ _ _ r9
    simp only [xq1, xq3, List.getElem?_cons_succ] at t0 t1 t2 t3 t4
    have HJ := hide HJ9
    have HP := hide HP9
    have HM := hide HM9
    clear r2 r9 fz HJ9 HP9 HM9
    go_wp2_with fail
    rw [← h9]
    clear h9
    refine ⟨rfl, _, by simp [results, Tryz.results74, go_sem, t0, t1, t2, t3, t4]; rfl, ?_⟩
    exact Po.yes (uh HEF) (uh HP) (uh HM) (uh HJ)

  by_cases h91 : c = 91
  ·subst h91
   rw [show (((91 : UInt8).toNat : Nat) : Int) = 91 from rfl] at HN
   go_enter Tryz.func74, Tryz.ntmps74
   go_upto_region 1 with fail
   rw [← uh HWW, ← uh HR]
   go_wp2_with fail
   refine (uh HN).mono ?_
   rintro e w1 ⟨rfl, HP1, HB1⟩
   have HM1 : Hid (Mv W w1 P) := Mv.ofB (uh HB1)
   have hsz1 : R + 1 ≤ w1.heap.size := by have := (uh HB1).size; have := uh HSW; omega
   clear HN HB1
   cases V with
   | none =>
    have hd16 := hVn rfl
    subst hd16
    have HE : Hid (RES = .no (T.drop a) 41) := by show _ = _; rw [uh HRES, hl]; rfl
    have HC := hide (list_deep P T a w1 (uh HP1))
    go_wp2_with fail
    refine (uh HC).mono ?_
    rintro e w2 ⟨rfl, HB2⟩
    exact ⟨rfl, Po.nay (uh HE) hle ((uh HMW).trans ((uh HM1).trans (Mv.ofB (uh HB2))))⟩
   | some Vf =>
    obtain ⟨hd, hV, hL⟩ := hVs Vf rfl
    have HE : Hid (RES = liF Vf r) := by show _ = _; rw [uh HRES, hl]; rfl
    have HC := hide (list_any P T d Vf hV hL a r w1 (uh HP1) hd hl)
    clear hV hL
    go_wp2_with fail
    refine (uh HC).mono ?_
    rintro e w2 (⟨j, val, a2, hM2, rfl, hP2, hMv2, hJ2⟩ | ⟨y, a2, hM2, rfl, h2, h3⟩)
    rotate_left 1
    ·exact ⟨rfl, Po.nay (by rw [uh HE, hM2]) h2 ((uh HMW).trans ((uh HM1).trans h3))⟩
    obtain ⟨jk, jn, jt, ja1, jn1, jc1, ja2, jn2, jc2, rfl⟩ := hJ2.form
    have HEF := hide ((uh HE).trans hM2)
    obtain ⟨r2, w9, h9, r9, HJ9, HP9, HM9⟩ := vret (uh HR) (uh HWW) hP2 hPR ((uh HM1).trans hMv2) (JV.keep (fun k hk => ⟨⟨by have := hk.1; omega, hk.2⟩, rfl⟩) _ _ hJ2)
    have q0 := cell_of_row w2 R 0 _ _ _ r2
    have q1 := cell_of_row w2 R 1 _ _ _ r2
    have q2 := cell_of_row w2 R 2 _ _ _ r2
    have q3 := cell_of_row w2 R 3 _ _ _ r2
    have q4 := cell_of_row w2 R 4 _ _ _ r2
    simp only [xq1, xq3, List.getElem?_cons_succ] at q0 q1 q2 q3 q4
    have fz : ∀ j, w2.frozen? ⟨R, j, none⟩ = false := fun j => frozen_of_row _ _ _ _ _ r2
    have f0 := fz 0
    have f1 := fz 1
    have f2 := fz 2
    have f3 := fz 3
    have f4 := fz 4
    have t0 := cell_of_row w9 R 0 _ _ _ r9
    have t1 := cell_of_row w9 R 1 _ _ _ r9
    have t2 := cell_of_row w9 R 2 _ _ _ r9
    have t3 := cell_of_row w9 R 3 _ _ _ r9
    have t4 := cell_of_row w9 R 4 _ _ _ r9
    simp only [xq1, xq3, List.getElem?_cons_succ] at t0 t1 t2 t3 t4
    have HJ := hide HJ9
    have HP := hide HP9
    have HM := hide HM9
    clear r2 r9 fz HJ9 HP9 HM9
    go_wp2_with fail
    rw [← h9]
    clear h9
    refine ⟨rfl, _, by simp [results, Tryz.results74, go_sem, t0, t1, t2, t3, t4]; rfl, ?_⟩
    exact Po.yes (uh HEF) (uh HP) (uh HM) (uh HJ)

  by_cases h34 : c = 34
  ·subst h34
   rw [show (((34 : UInt8).toNat : Nat) : Int) = 34 from rfl] at HN
   have HE : Hid (RES = match uqM (T.drop a) with | .no r2 y => .no r2 y | .ok t r2 => match tkM 34 r2 with | .no r3 y => .no r3 y | .ok _ r3 => .ok (.mk 3 0 t [] []) r3) := by show _ = _; rw [uh HRES, hl]; rfl
   go_enter Tryz.func74, Tryz.ntmps74
   go_upto_region 1 with fail
   rw [← uh HWW, ← uh HR]
   go_wp2_with fail
   refine (uh HN).mono ?_
   rintro e w1 ⟨rfl, HP1, HB1⟩
   have HM1 : Hid (Mv W w1 P) := Mv.ofB (uh HB1)
   have hsz1 : R + 1 ≤ w1.heap.size := by have := (uh HB1).size; have := uh HSW; omega
   clear HN HB1
   have HC := hide (untilQuote_any P T a d w1 (uh HP1))
   go_wp2_with fail
   refine (uh HC).mono ?_
   rintro e w2 (⟨t, val, a2, hM2, rfl, hP2, hMv2, rfl⟩ | ⟨y, a2, hM2, rfl, h2, h3⟩)
   rotate_left 1
   ·rw [hM2] at HE
    exact ⟨rfl, Po.nay (uh HE) h2 ((uh HMW).trans ((uh HM1).trans h3))⟩
   rw [hM2] at HE
   simp only at HE
   have HC2 := hide (take_any P T a2 d 34 w2 hP2)
   rw [show (((34 : UInt8).toNat : Nat) : Int) = 34 from rfl] at HC2
   have HM2 : Hid (Mv W w2 P) := (uh HM1).trans hMv2
   clear HC hP2 hMv2 hM2
   go_wp2_with fail
   refine (uh HC2).mono ?_
   rintro e w3 (⟨u, val, a3, hM3, rfl, hP3, hMv3, hval⟩ | ⟨y, a3, hM3, rfl, h2, h3⟩)
   rotate_left 1
   ·rw [hM3] at HE
    exact ⟨rfl, Po.nay (uh HE) h2 ((uh HMW).trans ((uh HM2).trans h3))⟩
   obtain rfl : val = .tuple #[] := hval
   rw [hM3] at HE
   simp only at HE
   clear hM3 HC2
   obtain ⟨r2, w9, h9, r9, HJ9, HP9, HM9⟩ := vret (uh HR) (uh HWW) hP3 hPR ((uh HM2).trans hMv3) (JV.flat w3 _ 3 0 t)
   have q0 := cell_of_row w3 R 0 _ _ _ r2
   have q1 := cell_of_row w3 R 1 _ _ _ r2
   have q2 := cell_of_row w3 R 2 _ _ _ r2
   have q3 := cell_of_row w3 R 3 _ _ _ r2
   have q4 := cell_of_row w3 R 4 _ _ _ r2
   simp only [xq1, xq3, List.getElem?_cons_succ] at q0 q1 q2 q3 q4
   have fz : ∀ j, w3.frozen? ⟨R, j, none⟩ = false := fun j => frozen_of_row _ _ _ _ _ r2
   have f0 := fz 0
   have f1 := fz 1
   have f2 := fz 2
   have f3 := fz 3
   have f4 := fz 4
   have t0 := cell_of_row w9 R 0 _ _ _ r9
   have t1 := cell_of_row w9 R 1 _ _ _ r9
   have t2 := cell_of_row w9 R 2 _ _ _ r9
   have t3 := cell_of_row w9 R 3 _ _ _ r9
   have t4 := cell_of_row w9 R 4 _ _ _ r9
   simp only [xq1, xq3, List.getElem?_cons_succ] at t0 t1 t2 t3 t4
   have HJ := hide HJ9
   have HP := hide HP9
   have HM := hide HM9
   clear r2 r9 fz HJ9 HP9 HM9
   go_wp2_with fail
   rw [← h9]
   clear h9
   refine ⟨rfl, _, by simp [results, Tryz.results74, go_sem, t0, t1, t2, t3, t4]; rfl, ?_⟩
   exact Po.yes (uh HE) (uh HP) (uh HM) (uh HJ)

  by_cases h45 : c = 45
  ·subst h45
   rw [show (((45 : UInt8).toNat : Nat) : Int) = 45 from rfl] at HN
   have HE : Hid (RES = match nuM (T.drop a) with | .no r2 y => .no r2 y | .ok n r2 => .ok (.mk 2 n [] [] []) r2) := by show _ = _; rw [uh HRES, hl]; unfold vaF; simp only; rfl
   go_enter Tryz.func74, Tryz.ntmps74
   go_upto_region 1 with fail
   rw [← uh HWW, ← uh HR]
   go_wp2_with fail
   refine (uh HN).mono ?_
   rintro e w1 ⟨rfl, HP1, HB1⟩
   have HM1 : Hid (Mv W w1 P) := Mv.ofB (uh HB1)
   have hsz1 : R + 1 ≤ w1.heap.size := by have := (uh HB1).size; have := uh HSW; omega
   clear HN HB1
   have HC := hide (number_any P T a d w1 (uh HP1))
   go_wp2_with fail
   refine (uh HC).mono ?_
   rintro e w2 (⟨n, val, a2, hM2, rfl, hP2, hMv2, hval⟩ | ⟨y, a2, hM2, rfl, h2, h3⟩)
   rotate_left 1
   ·rw [hM2] at HE
    exact ⟨rfl, Po.nay (uh HE) h2 ((uh HMW).trans ((uh HM1).trans h3))⟩
   obtain rfl : val = .int .i64 n := hval
   rw [hM2] at HE
   simp only at HE
   clear hM2 HC
   obtain ⟨r2, w9, h9, r9, HJ9, HP9, HM9⟩ := vret (uh HR) (uh HWW) hP2 hPR ((uh HM1).trans hMv2) (v2 := .string ⟨#[]⟩) (JV.flat w2 _ 2 n [])
   have q0 := cell_of_row w2 R 0 _ _ _ r2
   have q1 := cell_of_row w2 R 1 _ _ _ r2
   have q2 := cell_of_row w2 R 2 _ _ _ r2
   have q3 := cell_of_row w2 R 3 _ _ _ r2
   have q4 := cell_of_row w2 R 4 _ _ _ r2
   simp only [xq1, xq3, List.getElem?_cons_succ] at q0 q1 q2 q3 q4
   have fz : ∀ j, w2.frozen? ⟨R, j, none⟩ = false := fun j => frozen_of_row _ _ _ _ _ r2
   have f0 := fz 0
   have f1 := fz 1
   have f2 := fz 2
   have f3 := fz 3
   have f4 := fz 4
   have t0 := cell_of_row w9 R 0 _ _ _ r9
   have t1 := cell_of_row w9 R 1 _ _ _ r9
   have t2 := cell_of_row w9 R 2 _ _ _ r9
   have t3 := cell_of_row w9 R 3 _ _ _ r9
   have t4 := cell_of_row w9 R 4 _ _ _ r9
   simp only [xq1, xq3, List.getElem?_cons_succ] at t0 t1 t2 t3 t4
   have HJ := hide HJ9
   have HP := hide HP9
   have HM := hide HM9
   clear r2 r9 fz HJ9 HP9 HM9
   go_wp2_with fail
   rw [← h9]
   clear h9
   refine ⟨rfl, _, by simp [results, Tryz.results74, go_sem, t0, t1, t2, t3, t4]; rfl, ?_⟩
   exact Po.yes (uh HE) (uh HP) (uh HM) (uh HJ)

  by_cases h116 : c = 116
  ·subst h116
   rw [show (((116 : UInt8).toNat : Nat) : Int) = 116 from rfl] at HN
   have HE : Hid (RES = match wdM [116, 114, 117, 101] (T.drop a) with | .no r2 y => .no r2 y | .ok _ r2 => .ok (.mk 1 1 [] [] []) r2) := by show _ = _; rw [uh HRES, hl]; rfl
   go_enter Tryz.func74, Tryz.ntmps74
   go_upto_region 1 with fail
   rw [← uh HWW, ← uh HR]
   go_wp2_with fail
   refine (uh HN).mono ?_
   rintro e w1 ⟨rfl, HP1, HB1⟩
   have HM1 : Hid (Mv W w1 P) := Mv.ofB (uh HB1)
   have hsz1 : R + 1 ≤ w1.heap.size := by have := (uh HB1).size; have := uh HSW; omega
   clear HN HB1
   have HI := hide (isDigit4 116 w1)
   rw [show dgI 116 = false from rfl] at HI
   go_wp2_with fail
   refine (uh HI).mono ?_
   rintro e w1' ⟨rfl, hw1⟩
   subst hw1
   have HC := hide (word_any P T a d [116, 114, 117, 101] (by decide) w1' (uh HP1))
   rw [show str [116, 114, 117, 101] = ⟨#[116, 114, 117, 101]⟩ from rfl] at HC
   clear HI
   go_wp2_with fail
   refine (uh HC).mono ?_
   rintro e w2 (⟨u, val, a2, hM2, rfl, hP2, hMv2, hval⟩ | ⟨y, a2, hM2, rfl, h2, h3⟩)
   rotate_left 1
   ·rw [hM2] at HE
    exact ⟨rfl, Po.nay (uh HE) h2 ((uh HMW).trans ((uh HM1).trans h3))⟩
   obtain rfl : val = .tuple #[] := hval
   rw [hM2] at HE
   simp only at HE
   clear hM2
   obtain ⟨r2, w9, h9, r9, HJ9, HP9, HM9⟩ := vret (uh HR) (uh HWW) hP2 hPR ((uh HM1).trans hMv2) (v2 := .string ⟨#[]⟩) (JV.flat w2 _ 1 1 [])
   have q0 := cell_of_row w2 R 0 _ _ _ r2
   have q1 := cell_of_row w2 R 1 _ _ _ r2
   have q2 := cell_of_row w2 R 2 _ _ _ r2
   have q3 := cell_of_row w2 R 3 _ _ _ r2
   have q4 := cell_of_row w2 R 4 _ _ _ r2
   simp only [xq1, xq3, List.getElem?_cons_succ] at q0 q1 q2 q3 q4
   have fz : ∀ j, w2.frozen? ⟨R, j, none⟩ = false := fun j => frozen_of_row _ _ _ _ _ r2
   have f0 := fz 0
   have f1 := fz 1
   have f2 := fz 2
   have f3 := fz 3
   have f4 := fz 4
   have t0 := cell_of_row w9 R 0 _ _ _ r9
   have t1 := cell_of_row w9 R 1 _ _ _ r9
   have t2 := cell_of_row w9 R 2 _ _ _ r9
   have t3 := cell_of_row w9 R 3 _ _ _ r9
   have t4 := cell_of_row w9 R 4 _ _ _ r9
   simp only [xq1, xq3, List.getElem?_cons_succ] at t0 t1 t2 t3 t4
   have HJ := hide HJ9
   have HP := hide HP9
   have HM := hide HM9
   clear r2 r9 fz HJ9 HP9 HM9
   go_wp2_with fail
   rw [← h9]
   clear h9
   refine ⟨rfl, _, by simp [results, Tryz.results74, go_sem, t0, t1, t2, t3, t4]; rfl, ?_⟩
   exact Po.yes (uh HE) (uh HP) (uh HM) (uh HJ)

  by_cases h102 : c = 102
  ·subst h102
   rw [show (((102 : UInt8).toNat : Nat) : Int) = 102 from rfl] at HN
   have HE : Hid (RES = match wdM [102, 97, 108, 115, 101] (T.drop a) with | .no r2 y => .no r2 y | .ok _ r2 => .ok (.mk 1 0 [] [] []) r2) := by show _ = _; rw [uh HRES, hl]; rfl
   go_enter Tryz.func74, Tryz.ntmps74
   go_upto_region 1 with fail
   rw [← uh HWW, ← uh HR]
   go_wp2_with fail
   refine (uh HN).mono ?_
   rintro e w1 ⟨rfl, HP1, HB1⟩
   have HM1 : Hid (Mv W w1 P) := Mv.ofB (uh HB1)
   have hsz1 : R + 1 ≤ w1.heap.size := by have := (uh HB1).size; have := uh HSW; omega
   clear HN HB1
   have HI := hide (isDigit4 102 w1)
   rw [show dgI 102 = false from rfl] at HI
   go_wp2_with fail
   refine (uh HI).mono ?_
   rintro e w1' ⟨rfl, hw1⟩
   subst hw1
   have HC := hide (word_any P T a d [102, 97, 108, 115, 101] (by decide) w1' (uh HP1))
   rw [show str [102, 97, 108, 115, 101] = ⟨#[102, 97, 108, 115, 101]⟩ from rfl] at HC
   clear HI
   go_wp2_with fail
   refine (uh HC).mono ?_
   rintro e w2 (⟨u, val, a2, hM2, rfl, hP2, hMv2, hval⟩ | ⟨y, a2, hM2, rfl, h2, h3⟩)
   rotate_left 1
   ·rw [hM2] at HE
    exact ⟨rfl, Po.nay (uh HE) h2 ((uh HMW).trans ((uh HM1).trans h3))⟩
   obtain rfl : val = .tuple #[] := hval
   rw [hM2] at HE
   simp only at HE
   clear hM2
   obtain ⟨r2, w9, h9, r9, HJ9, HP9, HM9⟩ := vret (uh HR) (uh HWW) hP2 hPR ((uh HM1).trans hMv2) (v2 := .string ⟨#[]⟩) (JV.flat w2 _ 1 0 [])
   have q0 := cell_of_row w2 R 0 _ _ _ r2
   have q1 := cell_of_row w2 R 1 _ _ _ r2
   have q2 := cell_of_row w2 R 2 _ _ _ r2
   have q3 := cell_of_row w2 R 3 _ _ _ r2
   have q4 := cell_of_row w2 R 4 _ _ _ r2
   simp only [xq1, xq3, List.getElem?_cons_succ] at q0 q1 q2 q3 q4
   have fz : ∀ j, w2.frozen? ⟨R, j, none⟩ = false := fun j => frozen_of_row _ _ _ _ _ r2
   have f0 := fz 0
   have f1 := fz 1
   have f2 := fz 2
   have f3 := fz 3
   have f4 := fz 4
   have t0 := cell_of_row w9 R 0 _ _ _ r9
   have t1 := cell_of_row w9 R 1 _ _ _ r9
   have t2 := cell_of_row w9 R 2 _ _ _ r9
   have t3 := cell_of_row w9 R 3 _ _ _ r9
   have t4 := cell_of_row w9 R 4 _ _ _ r9
   simp only [xq1, xq3, List.getElem?_cons_succ] at t0 t1 t2 t3 t4
   have HJ := hide HJ9
   have HP := hide HP9
   have HM := hide HM9
   clear r2 r9 fz HJ9 HP9 HM9
   go_wp2_with fail
   rw [← h9]
   clear h9
   refine ⟨rfl, _, by simp [results, Tryz.results74, go_sem, t0, t1, t2, t3, t4]; rfl, ?_⟩
   exact Po.yes (uh HE) (uh HP) (uh HM) (uh HJ)

  by_cases h110 : c = 110
  ·subst h110
   rw [show (((110 : UInt8).toNat : Nat) : Int) = 110 from rfl] at HN
   have HE : Hid (RES = match wdM [110, 117, 108, 108] (T.drop a) with | .no r2 y => .no r2 y | .ok _ r2 => .ok (Js.nul) r2) := by show _ = _; rw [uh HRES, hl]; rfl
   go_enter Tryz.func74, Tryz.ntmps74
   go_upto_region 1 with fail
   rw [← uh HWW, ← uh HR]
   go_wp2_with fail
   refine (uh HN).mono ?_
   rintro e w1 ⟨rfl, HP1, HB1⟩
   have HM1 : Hid (Mv W w1 P) := Mv.ofB (uh HB1)
   have hsz1 : R + 1 ≤ w1.heap.size := by have := (uh HB1).size; have := uh HSW; omega
   clear HN HB1
   have HI := hide (isDigit4 110 w1)
   rw [show dgI 110 = false from rfl] at HI
   go_wp2_with fail
   refine (uh HI).mono ?_
   rintro e w1' ⟨rfl, hw1⟩
   subst hw1
   have HC := hide (word_any P T a d [110, 117, 108, 108] (by decide) w1' (uh HP1))
   rw [show str [110, 117, 108, 108] = ⟨#[110, 117, 108, 108]⟩ from rfl] at HC
   clear HI
   go_wp2_with fail
   refine (uh HC).mono ?_
   rintro e w2 (⟨u, val, a2, hM2, rfl, hP2, hMv2, hval⟩ | ⟨y, a2, hM2, rfl, h2, h3⟩)
   rotate_left 1
   ·rw [hM2] at HE
    exact ⟨rfl, Po.nay (uh HE) h2 ((uh HMW).trans ((uh HM1).trans h3))⟩
   obtain rfl : val = .tuple #[] := hval
   rw [hM2] at HE
   simp only at HE
   clear hM2
   obtain ⟨r2, w9, h9, r9, HJ9, HP9, HM9⟩ := vret (uh HR) (uh HWW) hP2 hPR ((uh HM1).trans hMv2) (v2 := .string ⟨#[]⟩) (JV.flat w2 _ 0 0 [])
   have q0 := cell_of_row w2 R 0 _ _ _ r2
   have q1 := cell_of_row w2 R 1 _ _ _ r2
   have q2 := cell_of_row w2 R 2 _ _ _ r2
   have q3 := cell_of_row w2 R 3 _ _ _ r2
   have q4 := cell_of_row w2 R 4 _ _ _ r2
   simp only [xq1, xq3, List.getElem?_cons_succ] at q0 q1 q2 q3 q4
   have fz : ∀ j, w2.frozen? ⟨R, j, none⟩ = false := fun j => frozen_of_row _ _ _ _ _ r2
   have f0 := fz 0
   have f1 := fz 1
   have f2 := fz 2
   have f3 := fz 3
   have f4 := fz 4
   have t0 := cell_of_row w9 R 0 _ _ _ r9
   have t1 := cell_of_row w9 R 1 _ _ _ r9
   have t2 := cell_of_row w9 R 2 _ _ _ r9
   have t3 := cell_of_row w9 R 3 _ _ _ r9
   have t4 := cell_of_row w9 R 4 _ _ _ r9
   simp only [xq1, xq3, List.getElem?_cons_succ] at t0 t1 t2 t3 t4
   have HJ := hide HJ9
   have HP := hide HP9
   have HM := hide HM9
   clear r2 r9 fz HJ9 HP9 HM9
   go_wp2_with fail
   rw [← h9]
   clear h9
   refine ⟨rfl, _, by simp [results, Tryz.results74, go_sem, t0, t1, t2, t3, t4]; rfl, ?_⟩
   exact Po.yes (uh HE) (uh HP) (uh HM) (uh HJ)

  have n123 : ¬ (c.toNat : Int) = 123 := fun e => h123 (UInt8.toNat_inj.1 (by show c.toNat = 123; omega))
  have n91 : ¬ (c.toNat : Int) = 91 := fun e => h91 (UInt8.toNat_inj.1 (by show c.toNat = 91; omega))
  have n34 : ¬ (c.toNat : Int) = 34 := fun e => h34 (UInt8.toNat_inj.1 (by show c.toNat = 34; omega))
  have n45 : ¬ (c.toNat : Int) = 45 := fun e => h45 (UInt8.toNat_inj.1 (by show c.toNat = 45; omega))
  have n116 : ¬ (c.toNat : Int) = 116 := fun e => h116 (UInt8.toNat_inj.1 (by show c.toNat = 116; omega))
  have n102 : ¬ (c.toNat : Int) = 102 := fun e => h102 (UInt8.toNat_inj.1 (by show c.toNat = 102; omega))
  have n110 : ¬ (c.toNat : Int) = 110 := fun e => h110 (UInt8.toNat_inj.1 (by show c.toNat = 110; omega))
  cases hdg : dgB4 c with
  | true =>
   have HE : Hid (RES = match nuM (T.drop a) with | .no r2 y => .no r2 y | .ok n r2 => .ok (.mk 2 n [] [] []) r2) := by show _ = _; rw [uh HRES, hl]; unfold vaF; simp only; rw [if_neg h123, if_neg h91, if_neg h34, if_pos (Or.inr hdg)]; rfl
   go_enter Tryz.func74, Tryz.ntmps74
   go_upto_region 1 with fail
   rw [← uh HWW, ← uh HR]
   go_wp2_with fail
   refine (uh HN).mono ?_
   rintro e w1 ⟨rfl, HP1, HB1⟩
   have HM1 : Hid (Mv W w1 P) := Mv.ofB (uh HB1)
   have hsz1 : R + 1 ≤ w1.heap.size := by have := (uh HB1).size; have := uh HSW; omega
   clear HN HB1
   have HI := hide (isDigit4 (c.toNat : Int) w1)
   rw [show dgI (c.toNat : Int) = dgB4 c from nx_dig c r, hdg] at HI
   go_wp2_with fail
   refine (uh HI).mono ?_
   rintro e w1' ⟨rfl, hw1⟩
   subst hw1
   have HC := hide (number_any P T a d w1' (uh HP1))
   clear HI
   go_wp2_with fail
   refine (uh HC).mono ?_
   rintro e w2 (⟨n, val, a2, hM2, rfl, hP2, hMv2, hval⟩ | ⟨y, a2, hM2, rfl, h2, h3⟩)
   rotate_left 1
   ·rw [hM2] at HE
    exact ⟨rfl, Po.nay (uh HE) h2 ((uh HMW).trans ((uh HM1).trans h3))⟩
   obtain rfl : val = .int .i64 n := hval
   rw [hM2] at HE
   simp only at HE
   clear hM2 HC
   obtain ⟨r2, w9, h9, r9, HJ9, HP9, HM9⟩ := vret (uh HR) (uh HWW) hP2 hPR ((uh HM1).trans hMv2) (v2 := .string ⟨#[]⟩) (JV.flat w2 _ 2 n [])
   have q0 := cell_of_row w2 R 0 _ _ _ r2
   have q1 := cell_of_row w2 R 1 _ _ _ r2
   have q2 := cell_of_row w2 R 2 _ _ _ r2
   have q3 := cell_of_row w2 R 3 _ _ _ r2
   have q4 := cell_of_row w2 R 4 _ _ _ r2
   simp only [xq1, xq3, List.getElem?_cons_succ] at q0 q1 q2 q3 q4
   have fz : ∀ j, w2.frozen? ⟨R, j, none⟩ = false := fun j => frozen_of_row _ _ _ _ _ r2
   have f0 := fz 0
   have f1 := fz 1
   have f2 := fz 2
   have f3 := fz 3
   have f4 := fz 4
   have t0 := cell_of_row w9 R 0 _ _ _ r9
   have t1 := cell_of_row w9 R 1 _ _ _ r9
   have t2 := cell_of_row w9 R 2 _ _ _ r9
   have t3 := cell_of_row w9 R 3 _ _ _ r9
   have t4 := cell_of_row w9 R 4 _ _ _ r9
   simp only [xq1, xq3, List.getElem?_cons_succ] at t0 t1 t2 t3 t4
   have HJ := hide HJ9
   have HP := hide HP9
   have HM := hide HM9
   clear r2 r9 fz HJ9 HP9 HM9
   go_wp2_with fail
   rw [← h9]
   clear h9
   refine ⟨rfl, _, by simp [results, Tryz.results74, go_sem, t0, t1, t2, t3, t4]; rfl, ?_⟩
   exact Po.yes (uh HE) (uh HP) (uh HM) (uh HJ)
  | false =>
   have HE : Hid (RES = .no (T.drop a) 40) := by
    show _ = _
    rw [uh HRES, hl]
    unfold vaF
    simp only
    rw [if_neg h123, if_neg h91, if_neg h34, if_neg (by simp [h45, hdg]), if_neg h116, if_neg h102, if_neg h110]
   go_enter Tryz.func74, Tryz.ntmps74
   go_upto_region 1 with fail
   rw [← uh HWW, ← uh HR]
   go_wp2_with fail
   refine (uh HN).mono ?_
   rintro e w1 ⟨rfl, HP1, HB1⟩
   have HM1 : Hid (Mv W w1 P) := Mv.ofB (uh HB1)
   have hsz1 : R + 1 ≤ w1.heap.size := by have := (uh HB1).size; have := uh HSW; omega
   clear HN HB1
   have HI := hide (isDigit4 (c.toNat : Int) w1)
   rw [show dgI (c.toNat : Int) = dgB4 c from nx_dig c r, hdg] at HI
   go_wp2_with fail
   refine (uh HI).mono ?_
   rintro e w1' ⟨rfl, hw1⟩
   subst hw1
   have HG := hide (giveUp_any P T a d 40 w1' (uh HP1))
   clear HI
   go_wp2_with fail
   refine (uh HG).mono ?_
   rintro e w5 ⟨rfl, hw5⟩
   subst hw5
   exact ⟨rfl, Po.nay (uh HE) hle ((uh HMW).trans (uh HM1))⟩
theorem tk_le (c : UInt8) (l r : List UInt8) (h : tkM c l = .ok () r) : r.length ≤ l.length := by rw [tk_len c l r h]; simp
theorem dg_len (m : Nat) : ∀ (l : List UInt8) (n k : Nat) (r : List UInt8), dgL m n l = .ok k r → r.length ≤ l.length
 | [], n, k, r, h => by simp only [dgL, Rs.ok.injEq] at h; rw [← h.2]; exact Nat.le_refl _
 | c :: l, n, k, r, h => by
  simp only [dgL] at h
  split at h
  ·split at h
   ·cases h
   ·have := dg_len m l _ _ _ h; simp; omega
  ·simp only [Rs.ok.injEq] at h; rw [← h.2]; exact Nat.le_refl _
theorem dgm_len (m : Nat) (l : List UInt8) (k : Nat) (r : List UInt8) (h : dgM m l = .ok k r) : r.length ≤ l.length := by
 unfold dgM at h
 split at h
 ·cases h
 ·rename_i c l
  split at h
  ·split at h
   ·simp only [Rs.ok.injEq] at h; rw [← h.2]; simp
   ·split at h
    ·cases h
    ·simp only [Rs.ok.injEq] at h; rw [← h.2]; simp
  ·split at h
   ·exact dg_len m _ _ _ _ h
   ·cases h
theorem nu_len (l : List UInt8) (k : Int) (r : List UInt8) (h : nuM l = .ok k r) : r.length ≤ l.length := by
 by_cases hn : nxI l = 45
 ·obtain ⟨r0, hr0⟩ : ∃ r0, l = 45 :: r0 := by
   cases l with
   | nil => simp [nxI] at hn
   | cons c r0 =>
    simp only [nxI] at hn
    exact ⟨r0, by rw [show c = 45 from UInt8.toNat_inj.1 (by show c.toNat = 45; omega)]⟩
  rw [nu_neg l r0 hr0] at h
  cases h1 : dgM 9223372036854775808 r0 with
  | no r y => rw [h1] at h; cases h
  | ok n r1 =>
   rw [h1] at h
   have := dgm_len _ _ _ _ h1
   simp only at h
   split at h
   ·cases h
   ·simp only [Rs.ok.injEq] at h; rw [← h.2, hr0]; simp; omega
 ·rw [nu_pos l hn] at h
  cases h1 : dgM 9223372036854775807 l with
  | no r y => rw [h1] at h; cases h
  | ok n r1 =>
   rw [h1] at h
   have := dgm_len _ _ _ _ h1
   simp only at h
   split at h
   ·cases h
   ·simp only [Rs.ok.injEq] at h; rw [← h.2]; exact this
theorem meT_len {σ : Type} (mb : σ → List UInt8 → Rs σ) (hlen : ∀ s l s' r, mb s l = .ok s' r → r.length ≤ l.length) : ∀ (f : Nat) (s : σ) (l : List UInt8) (s' : σ) (r : List UInt8), meL mb f s l = .ok s' r → r.length ≤ l.length
 | 0, s, l, s', r, h => by simp [meL] at h
 | f + 1, s, l, s', r, h => by
  rw [meL] at h
  cases h1 : mb s l with
  | no r y => rw [h1] at h; cases h
  | ok s1 r1 =>
   rw [h1] at h
   have e1 := hlen _ _ _ _ h1
   simp only at h
   have e2 := skB_le r1
   cases h2 : skB r1 with
   | nil => rw [h2] at h; simp only [Rs.ok.injEq] at h; rw [← h.2]; simp
   | cons c r2 =>
    rw [h2] at h e2
    simp only at h
    split at h
    ·have e3 := meT_len mb hlen f _ _ _ _ h
     have e4 := skB_le r2
     simp at e2
     omega
    ·simp only [Rs.ok.injEq] at h; rw [← h.2]; omega
theorem mm_len {α : Type} (cl : UInt8) (z : α) (L : List UInt8 → Rs α) (hL : ∀ l s r, L l = .ok s r → r.length ≤ l.length) (l : List UInt8) (s : α) (r : List UInt8) (h : mmM cl z L l = .ok s r) : r.length ≤ l.length := by
 rw [mm_cl] at h
 have key : ∀ m : Rs α, (∀ x r, m = .ok x r → r.length ≤ l.length) → clM cl m = .ok s r → r.length ≤ l.length := by
  intro m hm hc
  cases m with
  | no r y => cases hc
  | ok x r1 =>
   have e1 := hm x r1 rfl
   simp only [clM] at hc
   cases h2 : tkM cl r1 with
   | no r y => rw [h2] at hc; cases hc
   | ok u r2 =>
    rw [h2] at hc
    simp only [Rs.ok.injEq] at hc
    have := tk_le cl r1 r2 h2
    rw [← hc.2]; omega
 refine key _ ?_ h
 intro x r1 hx
 have e2 := skB_le l
 cases h2 : skB l with
 | nil => rw [h2] at hx; have := hL _ _ _ hx; simp at this; simp [this]
 | cons c r2 =>
  rw [h2] at hx e2
  simp only at hx
  split at hx
  ·simp only [Rs.ok.injEq] at hx; rw [← hx.2]; exact e2
  ·have := hL _ _ _ hx; omega
theorem va_step (V : Option (List UInt8 → Rs Js)) (hV : ∀ Vf, V = some Vf → VaL Vf) : VaL (vaF V) := by
 intro l v r h
 cases l with
 | nil => simp [vaF] at h
 | cons c l =>
  unfold vaF at h
  simp only at h
  split at h
  ·cases V with
   | none => cases h
   | some Vf =>
    simp only at h
    split at h
    ·cases h
    ·rename_i x r2 hx
     simp only [Rs.ok.injEq] at h
     rw [← h.2]
     have := mm_len _ _ _ (fun l s r hh => by rw [ob_me] at hh; exact meT_len _ (fun s l s' r hm => by
      unfold mbO at hm
      cases hy : mbM Vf s.1 l with
      | no r y => rw [hy] at hm; cases hm
      | ok nv r2 => rw [hy] at hm; simp only [Rs.ok.injEq] at hm; rw [← hm.2]; exact mb_len Vf (hV Vf rfl) _ _ _ _ hy) _ _ _ _ _ hh) _ _ _ hx
     simp; omega
  ·split at h
   ·cases V with
    | none => cases h
    | some Vf =>
     simp only at h
     split at h
     ·cases h
     ·rename_i x r2 hx
      simp only [Rs.ok.injEq] at h
      rw [← h.2]
      have := mm_len _ _ _ (fun l s r hh => by rw [li_me] at hh; exact meT_len _ (fun s l s' r hm => by
       unfold mbL at hm
       cases hy : Vf l with
       | no r y => rw [hy] at hm; cases hm
       | ok nv r2 => rw [hy] at hm; simp only [Rs.ok.injEq] at hm; rw [← hm.2]; exact hV Vf rfl _ _ _ hy) _ _ _ _ _ hh) _ _ _ hx
      simp; omega
   ·split at h
    ·split at h
     ·cases h
     ·rename_i t r2 hx
      have e1 := (uq_len _ _ _ hx).2
      split at h
      ·cases h
      ·rename_i u r3 hy
       simp only [Rs.ok.injEq] at h
       rw [← h.2]
       have := tk_le _ _ _ hy
       omega
    ·split at h
     ·split at h
      ·cases h
      ·rename_i n r2 hx
       simp only [Rs.ok.injEq] at h
       rw [← h.2]
       exact nu_len _ _ _ hx
     ·have wl : ∀ (u : List UInt8) (r2 : List UInt8), wdM u (c :: l) = .ok () r2 → r2.length ≤ (c :: l).length := fun u r2 hw => by rw [wd_len _ _ _ hw]; simp
      split at h
      ·split at h
       ·cases h
       ·rename_i u r2 hx; simp only [Rs.ok.injEq] at h; rw [← h.2]; exact wl _ _ hx
      ·split at h
       ·split at h
        ·cases h
        ·rename_i u r2 hx; simp only [Rs.ok.injEq] at h; rw [← h.2]; exact wl _ _ hx
       ·split at h
        ·split at h
         ·cases h
         ·rename_i u r2 hx; simp only [Rs.ok.injEq] at h; rw [← h.2]; exact wl _ _ hx
        ·cases h
theorem va_len : ∀ n, VaL (vaM n)
 | 0 => fun l v r h => va_step none (fun _ e => by cases e) l v r h
 | n + 1 => fun l v r h => va_step (some (vaM n)) (fun Vf e => by cases e; exact va_len n) l v r h
/-- A value is read. -/
theorem value_any (P : Nat) (T : List UInt8) : ∀ (n d : Nat), d + n = 16 → VaC P T d (vaM n)
 | 0, d, h => fun a w hp => value_step P T d none (fun _ => by omega) (fun _ e => by cases e) a w hp
 | n + 1, d, h => fun a w hp => value_step P T d (some (vaM n)) (fun e => by cases e) (fun Vf e => by cases e; exact ⟨by omega, value_any P T n (d + 1) (by omega), va_len n⟩) a w hp
end Go.Proofs.YtmpjeahibfdehaaGreatDoor
end
section
set_option linter.unusedVariables false
namespace Go.Proofs.YtmpjeahibfdehaaGreatDoor
open Go.RowKit

/-- What is left of a text, and of the same with b behind it. -/
def Tl (b l l' : List UInt8) : Prop := (l ≠ [] ∧ l' = l ++ b) ∨ (l = [] ∧ l' <:+ b)
def Bk (b : List UInt8) : Prop := ∀ c ∈ b, blB4 c = true
/-- What comes of both. -/
inductive Ou {α : Type} (b l : List UInt8) : Rs α → Rs α → Prop
 | ok (v : α) (r r' : List UInt8) : Tl b r r' → r <:+ l → Ou b l (.ok v r) (.ok v r')
 | no (r r' : List UInt8) (y : Nat) : Tl b r r' → r <:+ l → y ≠ 0 → Ou b l (.no r y) (.no r' y)
theorem Tl.self (b l : List UInt8) : Tl b l (l ++ b) := by
 cases l with
 | nil => exact .inr ⟨rfl, List.suffix_refl _⟩
 | cons c l => exact .inl ⟨List.cons_ne_nil _ _, rfl⟩
theorem Tl.nn (b : List UInt8) : Tl b [] [] := .inr ⟨rfl, List.nil_suffix⟩
theorem Tl.cases {b l l' : List UInt8} (hb : Bk b) (h : Tl b l l') : (∃ c t, l = c :: t ∧ l' = c :: (t ++ b)) ∨ (l = [] ∧ l' = []) ∨ (∃ c r, l = [] ∧ l' = c :: r ∧ blB4 c = true ∧ Tl b [] (c :: r) ∧ Tl b [] r) := by
 rcases h with ⟨h1, h2⟩ | ⟨h1, h2⟩
 ·cases l with
  | nil => exact absurd rfl h1
  | cons c t => exact .inl ⟨c, t, rfl, h2⟩
 ·subst h1
  cases l' with
  | nil => exact .inr (.inl ⟨rfl, rfl⟩)
  | cons c r =>
   refine .inr (.inr ⟨c, r, rfl, rfl, hb c (h2.subset List.mem_cons_self), .inr ⟨rfl, h2⟩, .inr ⟨rfl, (List.suffix_cons c r).trans h2⟩⟩)
theorem Tl.bk {b l' : List UInt8} (hb : Bk b) (h : Tl b [] l') : Bk l' := by
 rcases h with ⟨h1, h2⟩ | ⟨_, h2⟩
 ·exact absurd rfl h1
 ·exact fun c hc => hb c (h2.subset hc)
theorem Ou.mono {α : Type} {b l m : List UInt8} {x x' : Rs α} (h : Ou b l x x') (s : l <:+ m) : Ou b m x x' := by
 cases h with
 | ok v r r' h1 h2 => exact .ok v r r' h1 (h2.trans s)
 | no r r' y h1 h2 h3 => exact .no r r' y h1 (h2.trans s) h3
def Qb {α : Type} (f : List UInt8 → Rs α) : Prop := ∀ b l l', Bk b → Tl b l l' → Ou b l (f l) (f l')
theorem bl_ne {c x : UInt8} (hx : blB4 x = true) (hc : blB4 c = false) : x ≠ c := fun e => by rw [e, hc] at hx; cases hx
theorem tk_q (c : UInt8) (hc : blB4 c = false) : Qb (tkM c) := by
 intro b l l' hb h
 rcases h.cases hb with ⟨x, t, rfl, rfl⟩ | ⟨rfl, rfl⟩ | ⟨x, r, rfl, rfl, hx, h1, h2⟩
 ·simp only [tkM]
  split
  ·exact .ok _ _ _ (Tl.self _ _) (List.suffix_cons _ _)
  ·exact .no _ _ _ (Tl.self b (x :: t)) (List.suffix_refl _) (by decide)
 ·exact .no _ _ _ (Tl.nn b) (List.suffix_refl _) (by decide)
 ·simp only [tkM]
  rw [if_neg (bl_ne hx hc)]
  exact .no _ _ _ h1 (List.suffix_refl _) (by decide)
theorem wd_q : ∀ (u : List UInt8), (∀ c ∈ u, blB4 c = false) → Qb (wdM u)
 | [], _ => by
  intro b l l' hb h
  simp only [wdM]
  exact .ok _ _ _ h (List.suffix_refl _)
 | c :: u, hu => by
  intro b l l' hb h
  rcases h.cases hb with ⟨x, t, rfl, rfl⟩ | ⟨rfl, rfl⟩ | ⟨x, r, rfl, rfl, hx, h1, h2⟩
  ·simp only [wdM]
   split
   ·exact (wd_q u (fun c hc => hu c (List.mem_cons_of_mem _ hc)) b t (t ++ b) hb (Tl.self _ _)).mono (List.suffix_cons _ _)
   ·exact .no _ _ _ (Tl.self b (x :: t)) (List.suffix_refl _) (by decide)
  ·exact .no _ _ _ (Tl.nn b) (List.suffix_refl _) (by decide)
  ·simp only [wdM]
   rw [if_neg (bl_ne hx (hu c List.mem_cons_self))]
   exact .no _ _ _ h1 (List.suffix_refl _) (by decide)
theorem sk_bk : ∀ l : List UInt8, Bk l → skB l = []
 | [], _ => rfl
 | c :: l, h => by rw [skB_cons, if_pos (h c List.mem_cons_self)]; exact sk_bk l (fun x hx => h x (List.mem_cons_of_mem _ hx))
theorem sk_suf : ∀ l : List UInt8, skB l <:+ l
 | [] => List.suffix_refl _
 | c :: l => by
  rw [skB_cons]
  split
  ·exact (sk_suf l).trans (List.suffix_cons _ _)
  ·exact List.suffix_refl _
theorem sk_app (b : List UInt8) (hb : Bk b) : ∀ l : List UInt8, (skB l ≠ [] ∧ skB (l ++ b) = skB l ++ b) ∨ (skB l = [] ∧ skB (l ++ b) = [])
 | [] => .inr ⟨rfl, sk_bk b hb⟩
 | c :: l => by
  rw [List.cons_append, skB_cons, skB_cons]
  split
  ·exact sk_app b hb l
  ·exact .inl ⟨List.cons_ne_nil _ _, rfl⟩
theorem sk_q {b l l' : List UInt8} (hb : Bk b) (h : Tl b l l') : (∃ c t, skB l = c :: t ∧ skB l' = c :: (t ++ b) ∧ blB4 c = false) ∨ (skB l = [] ∧ skB l' = []) := by
 have hn : ∀ (l : List UInt8) (c : UInt8) (t : List UInt8), skB l = c :: t → blB4 c = false := by
  intro l
  induction l with
  | nil => intro c t e; cases e
  | cons x l ih =>
   intro c t e
   rw [skB_cons] at e
   split at e
   ·exact ih c t e
   ·rename_i hx
    cases e
    simpa using hx
 rcases h with ⟨h1, rfl⟩ | ⟨rfl, h2⟩
 ·rcases sk_app b hb l with ⟨k1, k2⟩ | ⟨k1, k2⟩
  ·cases e : skB l with
   | nil => exact absurd e k1
   | cons c t => exact .inl ⟨c, t, rfl, by rw [k2, e]; rfl, hn l c t e⟩
  ·exact .inr ⟨k1, k2⟩
 ·exact .inr ⟨rfl, sk_bk _ (fun c hc => hb c (h2.subset hc))⟩
theorem sk_tl {b l l' : List UInt8} (hb : Bk b) (h : Tl b l l') : Tl b (skB l) (skB l') := by
 rcases sk_q hb h with ⟨c, t, e1, e2, _⟩ | ⟨e1, e2⟩
 ·rw [e1, e2]; exact Tl.self b (c :: t)
 ·rw [e1, e2]; exact Tl.nn b
theorem bl_dg {c : UInt8} (h : blB4 c = true) : dgB4 c = false := by
 unfold blB4 at h
 simp only [Bool.or_eq_true, beq_iff_eq] at h
 rcases h with ((rfl | rfl) | rfl) | rfl <;> decide
theorem bl_hx {c : UInt8} (h : blB4 c = true) : hxB c = none := by
 unfold blB4 at h
 simp only [Bool.or_eq_true, beq_iff_eq] at h
 rcases h with ((rfl | rfl) | rfl) | rfl <;> decide
theorem bl_es {c : UInt8} (h : blB4 c = true) : escV c = none := by
 unfold blB4 at h
 simp only [Bool.or_eq_true, beq_iff_eq] at h
 rcases h with ((rfl | rfl) | rfl) | rfl <;> decide
theorem dgl_q (m : Nat) {b : List UInt8} (hb : Bk b) : ∀ (l : List UInt8) (n : Nat) (l' : List UInt8), Tl b l l' → Ou b l (dgL m n l) (dgL m n l')
 | l, n, l', h => by
  rcases h.cases hb with ⟨x, t, rfl, rfl⟩ | ⟨rfl, rfl⟩ | ⟨x, r, rfl, rfl, hx, h1, h2⟩
  ·simp only [dgL]
   split
   ·split
    ·exact .no _ _ _ (Tl.self b (x :: t)) (List.suffix_refl _) (by decide)
    ·exact (dgl_q m hb t _ (t ++ b) (Tl.self _ _)).mono (List.suffix_cons _ _)
   ·exact .ok _ _ _ (Tl.self b (x :: t)) (List.suffix_refl _)
  ·simp only [dgL]
   exact .ok _ _ _ (Tl.nn b) (List.suffix_refl _)
  ·simp only [dgL]
   rw [if_neg (by rw [bl_dg hx]; simp)]
   exact .ok _ _ _ h1 (List.suffix_refl _)
 termination_by l => l.length
theorem dgm_q (m : Nat) : Qb (dgM m) := by
 intro b l l' hb h
 rcases h.cases hb with ⟨x, t, rfl, rfl⟩ | ⟨rfl, rfl⟩ | ⟨x, r, rfl, rfl, hx, h1, h2⟩
 ·simp only [dgM]
  split
  ·rcases (Tl.self b t).cases hb with ⟨y, u, rfl, e⟩ | ⟨rfl, e⟩ | ⟨y, u, rfl, e, hy, k1, k2⟩
   ·rw [e]
    simp only
    split
    ·exact .no _ _ _ (Tl.self b (y :: u)) (List.suffix_cons _ _) (by decide)
    ·exact .ok _ _ _ (Tl.self b (y :: u)) (List.suffix_cons _ _)
   ·rw [e]
    exact .ok _ _ _ (Tl.nn b) (List.suffix_cons _ _)
   ·rw [e]
    simp only
    rw [if_neg (by rw [bl_dg hy]; simp)]
    exact .ok _ _ _ k1 (List.suffix_cons _ _)
  ·split
   ·exact dgl_q m hb (x :: t) 0 (x :: (t ++ b)) (Tl.self b (x :: t))
   ·exact .no _ _ _ (Tl.self b (x :: t)) (List.suffix_refl _) (by decide)
 ·exact .no _ _ _ (Tl.nn b) (List.suffix_refl _) (by decide)
 ·simp only [dgM]
  rw [if_neg (bl_ne hx (by decide)), if_neg (by rw [bl_dg hx]; simp)]
  exact .no _ _ _ h1 (List.suffix_refl _) (by decide)
theorem frac_q {b l l' : List UInt8} (hb : Bk b) (h : Tl b l l') : fracB l' = fracB l := by
 rcases h.cases hb with ⟨x, t, rfl, rfl⟩ | ⟨rfl, rfl⟩ | ⟨x, r, rfl, rfl, hx, h1, h2⟩
 ·rfl
 ·rfl
 ·unfold blB4 at hx
  simp only [Bool.or_eq_true, beq_iff_eq] at hx
  rcases hx with ((rfl | rfl) | rfl) | rfl <;> rfl
theorem nu_q : Qb nuM := by
 intro b l l' hb h
 have key : ∀ (neg : Bool) (k k' : List UInt8), k <:+ l → Tl b k k' → Ou b l (match dgM (if neg then 9223372036854775808 else 9223372036854775807) k with | .no r y => .no r y | .ok n r => if fracB r then .no r 42 else .ok (if neg then -(n : Int) else (n : Int)) r) (match dgM (if neg then 9223372036854775808 else 9223372036854775807) k' with | .no r y => .no r y | .ok n r => if fracB r then .no r 42 else .ok (if neg then -(n : Int) else (n : Int)) r) := by
  intro neg k k' hs hk
  have hd := dgm_q (if neg then 9223372036854775808 else 9223372036854775807) b k k' hb hk
  generalize dgM (if neg then 9223372036854775808 else 9223372036854775807) k = x at hd ⊢
  generalize dgM (if neg then 9223372036854775808 else 9223372036854775807) k' = x' at hd ⊢
  cases hd with
  | no r r' y h1 h2 h3 => exact .no _ _ _ h1 (h2.trans hs) h3
  | ok n r r' h1 h2 =>
   simp only
   rw [frac_q hb h1]
   split
   ·exact .no _ _ _ h1 (h2.trans hs) (by decide)
   ·exact .ok _ _ _ h1 (h2.trans hs)
 rcases h.cases hb with ⟨x, t, rfl, rfl⟩ | ⟨rfl, rfl⟩ | ⟨x, r, rfl, rfl, hx, h1, h2⟩
 ·by_cases hx : x = 45
  ·subst hx
   exact key true t (t ++ b) (List.suffix_cons _ _) (Tl.self _ _)
  ·have e : (x == 45) = false := by simpa using hx
   have := key false (x :: t) (x :: (t ++ b)) (List.suffix_refl _) (Tl.self b (x :: t))
   unfold nuM
   simp only [e]
   exact this
 ·exact key false [] [] (List.suffix_refl _) (Tl.nn b)
 ·have e : (x == 45) = false := by simpa using bl_ne hx (show blB4 45 = false by decide)
  have := key false [] (x :: r) (List.suffix_refl _) h1
  unfold nuM
  simp only [e]
  exact this
theorem un_q (fit : Nat → Nat → Bool) {b : List UInt8} (hb : Bk b) : ∀ (k n : Nat) (l l' : List UInt8), Tl b l l' → Ou b l (unM fit k n l) (unM fit k n l')
 | 0, n, l, l', h => by simp only [unM]; exact .ok _ _ _ h (List.suffix_refl _)
 | k + 1, n, l, l', h => by
  rcases h.cases hb with ⟨x, t, rfl, rfl⟩ | ⟨rfl, rfl⟩ | ⟨x, r, rfl, rfl, hx, h1, h2⟩
  ·simp only [unM]
   cases hxB x with
   | none => exact .no _ _ _ (Tl.self b (x :: t)) (List.suffix_refl _) (by decide)
   | some d =>
    simp only
    split
    ·exact (un_q fit hb k _ t (t ++ b) (Tl.self _ _)).mono (List.suffix_cons _ _)
    ·exact .no _ _ _ (Tl.self b (x :: t)) (List.suffix_refl _) (by decide)
  ·exact .no _ _ _ (Tl.nn b) (List.suffix_refl _) (by decide)
  ·simp only [unM, bl_hx hx]
   exact .no _ _ _ h1 (List.suffix_refl _) (by decide)
theorem hc_q : Qb hcM := by
 intro b l l' hb h
 have h0 := un_q fitH hb 4 0 l l' h
 unfold hcM
 generalize unM fitH 4 0 l = x at h0 ⊢
 generalize unM fitH 4 0 l' = x' at h0 ⊢
 cases h0 with
 | no r r' y h1 h2 h3 => exact .no _ _ _ h1 h2 h3
 | ok hh r r' h1 h2 =>
  simp only
  split
  ·have h3 := wd_q [92, 117] (by decide) b r r' hb h1
   generalize wdM [92, 117] r = x at h3 ⊢
   generalize wdM [92, 117] r' = x' at h3 ⊢
   cases h3 with
   | no r2 r2' y k1 k2 k3 => exact .no _ _ _ k1 (k2.trans h2) k3
   | ok u r2 r2' k1 k2 =>
    simp only
    have h4 := un_q fitL hb 4 0 r2 r2' k1
    generalize unM fitL 4 0 r2 = x at h4 ⊢
    generalize unM fitL 4 0 r2' = x' at h4 ⊢
    cases h4 with
    | no r3 r3' y j1 j2 j3 => exact .no _ _ _ j1 (j2.trans (k2.trans h2)) j3
    | ok lo r3 r3' j1 j2 => exact .ok _ _ _ j1 (j2.trans (k2.trans h2))
  ·exact .ok _ _ _ h1 h2
theorem es_q : Qb esM := by
 intro b l l' hb h
 have h0 := tk_q 92 (by decide) b l l' hb h
 unfold esM
 generalize tkM 92 l = x at h0 ⊢
 generalize tkM 92 l' = x' at h0 ⊢
 cases h0 with
 | no r r' y h1 h2 h3 => exact .no _ _ _ h1 h2 h3
 | ok u r r' h1 h2 =>
  rcases h1.cases hb with ⟨x, t, rfl, rfl⟩ | ⟨rfl, rfl⟩ | ⟨x, t, rfl, rfl, hx, k1, k2⟩
  ·simp only
   have ht : t <:+ l := (List.suffix_cons _ _).trans h2
   split
   ·exact (hc_q b t (t ++ b) hb (Tl.self _ _)).mono ht
   ·cases escV x with
    | none => exact .no _ _ _ (Tl.self b (x :: t)) h2 (by decide)
    | some n => exact .ok _ _ _ (Tl.self b t) ht
  ·exact .no _ _ _ (Tl.nn b) h2 (by decide)
  ·simp only
   rw [if_neg (bl_ne hx (by decide)), bl_es hx]
   exact .no _ _ _ k1 h2 (by decide)
theorem bl_lt {c : UInt8} (h : blB4 c = true) : c.toNat < 128 := by
 unfold blB4 at h
 simp only [Bool.or_eq_true, beq_iff_eq] at h
 rcases h with ((rfl | rfl) | rfl) | rfl <;> decide
theorem lo_ge (a : Nat) : 128 ≤ (if a = 224 then 160 else if a = 240 then 144 else 128) := by
 split
 ·omega
 ·split <;> omega
/-- No character that is begun goes on with a byte below 128. -/
theorem ch_low (p : List UInt8) (hp : p ≠ []) (hf : fuB p = false) (c : UInt8) (hc : c.toNat < 128) : fuB (p ++ [c]) = true ∧ chr (p ++ [c]) ≠ none := by
 have hd : c.toNat / 64 ≠ 2 := by omega
 have fin : d4 (p ++ [c]) = (65533, 1) → chr (p ++ [c]) ≠ none := fun e => by rw [chr_bad _ (by simp) e]; simp
 match p, hp with
 | [a], _ =>
  have ha : 194 ≤ a.toNat ∧ a.toNat ≤ 244 := by
   unfold fuB at hf
   simp only at hf
   split at hf
   ·cases hf
   ·omega
  refine ⟨?_, fin ?_⟩
  ·have hlo := lo_ge a.toNat
   unfold fuB
   simp only [List.cons_append, List.nil_append]
   generalize (if a.toNat = 224 then 160 else if a.toNat = 240 then 144 else 128) = lo at hlo ⊢
   rw [if_neg (by omega)]
   by_cases h2 : a.toNat < 224
   ·rw [if_pos h2]; simp
   ·rw [if_neg h2, if_neg (by simp only [List.length_cons, List.length_nil]; split <;> omega), if_pos (by left; omega)]
  ·unfold d4 Lib.decodeN
   simp only [List.cons_append, List.nil_append, List.getD_cons_zero, List.getD_cons_succ, List.length_cons, List.length_nil]
   rw [if_neg (by omega), if_neg (by omega), if_neg (by omega), if_neg (by omega)]
 | [a, e], _ =>
  have ha : 224 ≤ a.toNat ∧ a.toNat ≤ 244 := by
   unfold fuB at hf
   simp only at hf
   split at hf
   ·cases hf
   ·split at hf
    ·simp at hf
    ·omega
  refine ⟨?_, fin ?_⟩
  ·unfold fuB
   simp only [List.cons_append, List.nil_append]
   rw [if_neg (by omega), if_neg (by omega)]
   by_cases h4 : a.toNat < 240
   ·rw [if_pos h4, if_pos (by simp)]
   ·rw [if_neg h4, if_neg (by simp)]
    rw [show decide (c.toNat < 128 ∨ 191 < c.toNat) = true from decide_eq_true (Or.inl hc)]
    simp
  ·unfold d4 Lib.decodeN
   simp only [List.cons_append, List.nil_append, List.getD_cons_zero, List.getD_cons_succ, List.length_cons, List.length_nil]
   rw [if_neg (by omega), if_neg (by omega), if_neg (by omega), if_neg (by omega)]
 | [a, e, f], _ =>
  have ha : 240 ≤ a.toNat ∧ a.toNat ≤ 244 := by
   unfold fuB at hf
   simp only at hf
   split at hf
   ·cases hf
   ·split at hf
    ·simp at hf
    ·by_cases h4 : a.toNat < 240
     ·rw [if_pos h4, if_pos (by simp)] at hf; cases hf
     ·omega
  refine ⟨?_, fin ?_⟩
  ·unfold fuB
   simp only [List.cons_append, List.nil_append]
   rw [if_neg (by omega), if_neg (by omega), if_neg (show ¬ a.toNat < 240 by omega), if_pos (by simp)]
  ·unfold d4 Lib.decodeN
   simp only [List.cons_append, List.nil_append, List.getD_cons_zero, List.getD_cons_succ, List.length_cons, List.length_nil]
   rw [if_neg (by omega), if_neg (by omega), if_neg (by omega), if_neg (by omega)]
 | a :: e :: f :: g :: t, _ =>
  exfalso
  unfold fuB at hf
  simp only at hf
  split at hf
  ·cases hf
  ·split at hf
   ·simp at hf
   ·rw [if_pos (by simp only [List.length_cons]; split <;> omega)] at hf
    cases hf
theorem chl_q {b : List UInt8} (hb : Bk b) : ∀ (l p l' : List UInt8), (p = [] → l ≠ []) → (p ≠ [] → fuB p = false) → Tl b l l' → Ou b l (chL p l) (chL p l')
 | l, p, l', hp, hf, h => by
  rcases h.cases hb with ⟨x, t, rfl, rfl⟩ | ⟨rfl, rfl⟩ | ⟨x, r, rfl, rfl, hx, h1, h2⟩
  ·simp only [chL]
   split
   ·split
    ·exact .ok _ _ _ (Tl.self _ _) (List.suffix_cons _ _)
    ·exact .no _ _ _ (Tl.self b (x :: t)) (List.suffix_refl _) (by decide)
   ·rename_i hfu
    exact (chl_q hb t (p ++ [x]) (t ++ b) (fun e => by simp at e) (fun _ => by simpa using hfu) (Tl.self _ _)).mono (List.suffix_cons _ _)
  ·exact .no _ _ _ (Tl.nn b) (List.suffix_refl _) (by decide)
  ·have hpn : p ≠ [] := fun e => hp e rfl
   obtain ⟨k1, k2⟩ := ch_low p hpn (hf hpn) x (bl_lt hx)
   simp only [chL]
   rw [if_pos k1, if_neg k2]
   exact .no _ _ _ h1 (List.suffix_refl _) (by decide)
 termination_by l => l.length
theorem ch_q {b : List UInt8} (hb : Bk b) (c : UInt8) (t : List UInt8) : Ou b (c :: t) (chM (c :: t)) (chM (c :: (t ++ b))) := chl_q hb (c :: t) [] _ (fun _ => by simp) (fun h => absurd rfl h) (Tl.self b (c :: t))
theorem uq_bl {b : List UInt8} (hb : Bk b) : ∀ (f : Nat) (l' acc : List UInt8), Tl b [] l' → l'.length < f → ∃ r', uqL f acc l' = .no r' 40 ∧ Tl b [] r'
 | 0, l', acc, h, hf => by omega
 | f + 1, l', acc, h, hf => by
  rcases h.cases hb with ⟨x, t, e, _⟩ | ⟨_, rfl⟩ | ⟨x, r, _, rfl, hx, h1, h2⟩
  ·cases e
  ·exact ⟨[], rfl, Tl.nn b⟩
  ·simp only [uqL]
   rw [if_neg (bl_ne hx (by decide)), if_neg (bl_ne hx (by decide))]
   split
   ·exact ⟨_, rfl, h1⟩
   ·rename_i h32
    have e : x = 32 := by
     unfold blB4 at hx
     simp only [Bool.or_eq_true, beq_iff_eq] at hx
     rcases hx with ((rfl | rfl) | rfl) | rfl
     ·rfl
     all_goals exact absurd (by decide) h32
    subst e
    have e2 : chM (32 :: r) = .ok [32] r := by
     unfold chM
     simp only [chL, List.nil_append]
     rw [if_pos (by decide), if_pos]
     rw [chr_go _ (by simp) (by decide)]
     have : d4 [32] = (32, 1) := by decide
     rw [this]
     simp [chr_nil]
    rw [e2]
    exact uq_bl hb f r _ h2 (by simp at hf; omega)
theorem uql_q {b : List UInt8} (hb : Bk b) : ∀ (f f' : Nat) (acc l l' : List UInt8), Tl b l l' → l.length < f → l'.length < f' → Ou b l (uqL f acc l) (uqL f' acc l')
 | 0, f', acc, l, l', h, hf, hf' => by omega
 | f + 1, 0, acc, l, l', h, hf, hf' => by omega
 | f + 1, f' + 1, acc, l, l', h, hf, hf' => by
  by_cases hl : l = []
  ·subst hl
   obtain ⟨r', e, k⟩ := uq_bl hb (f' + 1) l' acc h hf'
   rw [e]
   exact .no _ _ _ k (List.suffix_refl _) (by decide)
  ·rcases h with ⟨_, rfl⟩ | ⟨e, _⟩
   ·cases l with
    | nil => exact absurd rfl hl
    | cons c t =>
     simp only [List.cons_append, uqL]
     simp only [List.length_cons, List.cons_append, List.length_append] at hf hf'
     split
     ·exact .ok _ _ _ (Tl.self b (c :: t)) (List.suffix_refl _)
     ·split
      ·have h0 := es_q b (c :: t) (c :: (t ++ b)) hb (Tl.self b (c :: t))
       have e1 := es_len (c :: t)
       have e2 := es_len (c :: (t ++ b))
       generalize esM (c :: t) = x at h0 e1 ⊢
       generalize esM (c :: (t ++ b)) = x' at h0 e2 ⊢
       cases h0 with
       | no r r' y h1 h2 h3 => exact .no _ _ _ h1 h2 h3
       | ok n r r' h1 h2 =>
        have k1 := e1 n r rfl
        have k2 := e2 n r' rfl
        simp only [List.length_cons, List.length_append] at k1 k2
        exact (uql_q hb f f' _ r r' h1 (by omega) (by omega)).mono h2
      ·split
       ·exact .no _ _ _ (Tl.self b (c :: t)) (List.suffix_refl _) (by decide)
       ·have h0 := ch_q hb c t
        have e1 : ∀ q r, chM (c :: t) = .ok q r → r.length < t.length + 1 := fun q r e => by
         obtain ⟨u, k1, _, k3⟩ := ch_len _ _ _ _ e
         have := congrArg List.length k1
         have := List.length_pos_iff.2 k3
         simp at *; omega
        have e2 : ∀ q r, chM (c :: (t ++ b)) = .ok q r → r.length < t.length + b.length + 1 := fun q r e => by
         obtain ⟨u, k1, _, k3⟩ := ch_len _ _ _ _ e
         have := congrArg List.length k1
         have := List.length_pos_iff.2 k3
         simp at *; omega
        generalize chM (c :: t) = x at h0 e1 ⊢
        generalize chM (c :: (t ++ b)) = x' at h0 e2 ⊢
        cases h0 with
        | no r r' y h1 h2 h3 => exact .no _ _ _ h1 h2 h3
        | ok n r r' h1 h2 =>
         have k1 := e1 n r rfl
         have k2 := e2 n r' rfl
         exact (uql_q hb f f' _ r r' h1 (by omega) (by omega)).mono h2
   ·exact absurd e hl
theorem uq_q : Qb uqM := by
 intro b l l' hb h
 have h0 := tk_q 34 (by decide) b l l' hb h
 unfold uqM
 generalize tkM 34 l = x at h0 ⊢
 generalize tkM 34 l' = x' at h0 ⊢
 cases h0 with
 | no r r' y h1 h2 h3 => exact .no _ _ _ h1 h2 h3
 | ok u r r' h1 h2 => exact (uql_q hb _ _ [] r r' h1 (Nat.lt_succ_self _) (Nat.lt_succ_self _)).mono h2
end Go.Proofs.YtmpjeahibfdehaaGreatDoor
end
section
set_option linter.unusedVariables false
namespace Go.Proofs.YtmpjeahibfdehaaGreatDoor
open Go.RowKit

theorem mb_q (V : List UInt8 → Rs Js) (hV : Qb V) (ns : List (List UInt8)) : Qb (mbM V ns) := by
 intro b l l' hb h
 have h0 := uq_q b l l' hb h
 unfold mbM
 generalize uqM l = x at h0 ⊢
 generalize uqM l' = x' at h0 ⊢
 cases h0 with
 | no r r' y h1 h2 h3 => exact .no _ _ _ h1 h2 h3
 | ok nm r r' h1 h2 =>
  simp only
  split
  ·exact .no _ _ _ h1 h2 (by decide)
  ·have h3 := tk_q 34 (by decide) b r r' hb h1
   generalize tkM 34 r = x at h3 ⊢
   generalize tkM 34 r' = x' at h3 ⊢
   cases h3 with
   | no r2 r2' y k1 k2 k3 => exact .no _ _ _ k1 (k2.trans h2) k3
   | ok u r2 r2' k1 k2 =>
    simp only
    have h4 := tk_q 58 (by decide) b (skB r2) (skB r2') hb (sk_tl hb k1)
    generalize tkM 58 (skB r2) = x at h4 ⊢
    generalize tkM 58 (skB r2') = x' at h4 ⊢
    have hs := (sk_suf r2).trans (k2.trans h2)
    cases h4 with
    | no r3 r3' y j1 j2 j3 => exact .no _ _ _ j1 (j2.trans hs) j3
    | ok u r3 r3' j1 j2 =>
     simp only
     have h5 := hV b (skB r3) (skB r3') hb (sk_tl hb j1)
     generalize V (skB r3) = x at h5 ⊢
     generalize V (skB r3') = x' at h5 ⊢
     have hs2 := (sk_suf r3).trans (j2.trans hs)
     cases h5 with
     | no r4 r4' y i1 i2 i3 => exact .no _ _ _ i1 (i2.trans hs2) i3
     | ok v r4 r4' i1 i2 => exact .ok _ _ _ i1 (i2.trans hs2)
theorem li_q (V : List UInt8 → Rs Js) (hV : Qb V) (hL : VaL V) {b : List UInt8} (hb : Bk b) : ∀ (f f' : Nat) (acc : List Js) (l l' : List UInt8), Tl b l l' → l.length < f → l'.length < f' → Ou b l (liL V f acc l) (liL V f' acc l')
 | 0, f', acc, l, l', h, hf, hf' => by omega
 | f + 1, 0, acc, l, l', h, hf, hf' => by omega
 | f + 1, f' + 1, acc, l, l', h, hf, hf' => by
  have h0 := hV b l l' hb h
  have e1 := hL l
  have e2 := hL l'
  simp only [liL]
  generalize V l = x at h0 e1 ⊢
  generalize V l' = x' at h0 e2 ⊢
  cases h0 with
  | no r r' y h1 h2 h3 => exact .no _ _ _ h1 h2 h3
  | ok v r r' h1 h2 =>
   simp only
   have k1 := e1 v r rfl
   have k2 := e2 v r' rfl
   have s1 := skB_le r
   have s2 := skB_le r'
   have hs := (sk_suf r).trans h2
   rcases sk_q hb h1 with ⟨c, t, i1, i2, _⟩ | ⟨i1, i2⟩
   ·rw [i1] at s1 hs
    rw [i2] at s2
    rw [i1, i2]
    simp only
    simp only [List.length_cons, List.length_append] at s1 s2
    have ht : t <:+ l := (List.suffix_cons _ _).trans hs
    split
    ·have s3 := skB_le t
     have s4 := skB_le (t ++ b)
     simp only [List.length_append] at s4
     exact (li_q V hV hL hb f f' _ (skB t) (skB (t ++ b)) (sk_tl hb (Tl.self _ _)) (by omega) (by omega)).mono ((sk_suf t).trans ht)
    ·exact .ok _ _ _ (Tl.self b (c :: t)) hs
   ·rw [i1, i2]
    exact .ok _ _ _ (Tl.nn b) List.nil_suffix
theorem ob_q (V : List UInt8 → Rs Js) (hV : Qb V) (hL : VaL V) {b : List UInt8} (hb : Bk b) : ∀ (f f' : Nat) (ns : List (List UInt8)) (is : List Js) (l l' : List UInt8), Tl b l l' → l.length < f → l'.length < f' → Ou b l (obL V f ns is l) (obL V f' ns is l')
 | 0, f', ns, is, l, l', h, hf, hf' => by omega
 | f + 1, 0, ns, is, l, l', h, hf, hf' => by omega
 | f + 1, f' + 1, ns, is, l, l', h, hf, hf' => by
  have h0 := mb_q V hV ns b l l' hb h
  have e1 := fun x r => mb_len V hL ns l r x
  have e2 := fun x r => mb_len V hL ns l' r x
  simp only [obL]
  generalize mbM V ns l = x at h0 e1 ⊢
  generalize mbM V ns l' = x' at h0 e2 ⊢
  cases h0 with
  | no r r' y h1 h2 h3 => exact .no _ _ _ h1 h2 h3
  | ok v r r' h1 h2 =>
   simp only
   have k1 := e1 v r rfl
   have k2 := e2 v r' rfl
   have s1 := skB_le r
   have s2 := skB_le r'
   have hs := (sk_suf r).trans h2
   rcases sk_q hb h1 with ⟨c, t, i1, i2, _⟩ | ⟨i1, i2⟩
   ·rw [i1] at s1 hs
    rw [i2] at s2
    rw [i1, i2]
    simp only
    simp only [List.length_cons, List.length_append] at s1 s2
    have ht : t <:+ l := (List.suffix_cons _ _).trans hs
    split
    ·have s3 := skB_le t
     have s4 := skB_le (t ++ b)
     simp only [List.length_append] at s4
     exact (ob_q V hV hL hb f f' _ _ (skB t) (skB (t ++ b)) (sk_tl hb (Tl.self _ _)) (by omega) (by omega)).mono ((sk_suf t).trans ht)
    ·exact .ok _ _ _ (Tl.self b (c :: t)) hs
   ·rw [i1, i2]
    exact .ok _ _ _ (Tl.nn b) List.nil_suffix
theorem mm_q {α : Type} (cl : UInt8) (hcl : blB4 cl = false) (z : α) (L : List UInt8 → Rs α) {b : List UInt8} (hb : Bk b) (hL : ∀ l l', Tl b l l' → Ou b l (L l) (L l')) {l l' : List UInt8} (h : Tl b l l') : Ou b l (mmM cl z L l) (mmM cl z L l') := by
 have key : ∀ x x' : Rs α, Ou b l x x' → Ou b l (match x with | .no r y => .no r y | .ok a r => match tkM cl r with | .no r2 y => .no r2 y | .ok _ r2 => .ok a r2) (match x' with | .no r y => .no r y | .ok a r => match tkM cl r with | .no r2 y => .no r2 y | .ok _ r2 => .ok a r2) := by
  intro x x' hx
  cases hx with
  | no r r' y h1 h2 h3 => exact .no _ _ _ h1 h2 h3
  | ok v r r' h1 h2 =>
   simp only
   have h3 := tk_q cl hcl b r r' hb h1
   generalize tkM cl r = x at h3 ⊢
   generalize tkM cl r' = x' at h3 ⊢
   cases h3 with
   | no r2 r2' y k1 k2 k3 => exact .no _ _ _ k1 (k2.trans h2) k3
   | ok u r2 r2' k1 k2 => exact .ok _ _ _ k1 (k2.trans h2)
 have hs := sk_suf l
 rcases sk_q hb h with ⟨c, t, i1, i2, _⟩ | ⟨i1, i2⟩
 ·rw [i1] at hs
  unfold mmM
  rw [i1, i2]
  simp only
  by_cases hc : c = cl
  ·rw [if_pos hc, if_pos hc]
   exact key _ _ (.ok z _ _ (Tl.self b (c :: t)) hs)
  ·rw [if_neg hc, if_neg hc]
   exact key _ _ ((hL _ _ (Tl.self b (c :: t))).mono hs)
 ·unfold mmM
  rw [i1, i2]
  exact key _ _ ((hL _ _ (Tl.nn b)).mono List.nil_suffix)
theorem va_q (V : Option (List UInt8 → Rs Js)) (hV : ∀ Vf, V = some Vf → Qb Vf ∧ VaL Vf) : Qb (vaF V) := by
 intro b l l' hb h
 rcases h.cases hb with ⟨c, t, rfl, rfl⟩ | ⟨rfl, rfl⟩ | ⟨c, r, rfl, rfl, hx, h1, h2⟩
 ·have hT : Tl b (c :: t) (c :: (t ++ b)) := Tl.self b (c :: t)
  have hs : t <:+ c :: t := List.suffix_cons _ _
  unfold vaF
  simp only
  split
  ·cases V with
   | none => exact .no _ _ _ hT (List.suffix_refl _) (by decide)
   | some Vf =>
    obtain ⟨hq, hl⟩ := hV Vf rfl
    simp only
    have h0 := mm_q 125 (by decide) (([], []) : List (List UInt8) × List Js) (fun l => obL Vf (l.length + 1) [] [] l) hb (fun l l' h => ob_q Vf hq hl hb _ _ [] [] l l' h (Nat.lt_succ_self _) (Nat.lt_succ_self _)) (Tl.self b t)
    generalize mmM 125 ([], []) (fun l => obL Vf (l.length + 1) [] [] l) t = x at h0 ⊢
    generalize mmM 125 ([], []) (fun l => obL Vf (l.length + 1) [] [] l) (t ++ b) = x' at h0 ⊢
    cases h0 with
    | no r r' y h1 h2 h3 => exact .no _ _ _ h1 (h2.trans hs) h3
    | ok v r r' h1 h2 => exact .ok _ _ _ h1 (h2.trans hs)
  ·split
   ·cases V with
    | none => exact .no _ _ _ hT (List.suffix_refl _) (by decide)
    | some Vf =>
     obtain ⟨hq, hl⟩ := hV Vf rfl
     simp only
     have h0 := mm_q 93 (by decide) ([] : List Js) (fun l => liL Vf (l.length + 1) [] l) hb (fun l l' h => li_q Vf hq hl hb _ _ [] l l' h (Nat.lt_succ_self _) (Nat.lt_succ_self _)) (Tl.self b t)
     generalize mmM 93 [] (fun l => liL Vf (l.length + 1) [] l) t = x at h0 ⊢
     generalize mmM 93 [] (fun l => liL Vf (l.length + 1) [] l) (t ++ b) = x' at h0 ⊢
     cases h0 with
     | no r r' y h1 h2 h3 => exact .no _ _ _ h1 (h2.trans hs) h3
     | ok v r r' h1 h2 => exact .ok _ _ _ h1 (h2.trans hs)
   ·split
    ·have h0 := uq_q b (c :: t) (c :: (t ++ b)) hb hT
     generalize uqM (c :: t) = x at h0 ⊢
     generalize uqM (c :: (t ++ b)) = x' at h0 ⊢
     cases h0 with
     | no r r' y h1 h2 h3 => exact .no _ _ _ h1 h2 h3
     | ok v r r' h1 h2 =>
      simp only
      have h3 := tk_q 34 (by decide) b r r' hb h1
      generalize tkM 34 r = x at h3 ⊢
      generalize tkM 34 r' = x' at h3 ⊢
      cases h3 with
      | no r2 r2' y k1 k2 k3 => exact .no _ _ _ k1 (k2.trans h2) k3
      | ok u r2 r2' k1 k2 => exact .ok _ _ _ k1 (k2.trans h2)
    ·split
     ·have h0 := nu_q b (c :: t) (c :: (t ++ b)) hb hT
      generalize nuM (c :: t) = x at h0 ⊢
      generalize nuM (c :: (t ++ b)) = x' at h0 ⊢
      cases h0 with
      | no r r' y h1 h2 h3 => exact .no _ _ _ h1 h2 h3
      | ok v r r' h1 h2 => exact .ok _ _ _ h1 h2
     ·have wk : ∀ (u : List UInt8) (j : Js), (∀ c ∈ u, blB4 c = false) → Ou b (c :: t) (match wdM u (c :: t) with | .no r2 y => .no r2 y | .ok _ r2 => .ok j r2) (match wdM u (c :: (t ++ b)) with | .no r2 y => .no r2 y | .ok _ r2 => .ok j r2) := by
       intro u j hu
       have h0 := wd_q u hu b (c :: t) (c :: (t ++ b)) hb hT
       generalize wdM u (c :: t) = x at h0 ⊢
       generalize wdM u (c :: (t ++ b)) = x' at h0 ⊢
       cases h0 with
       | no r r' y h1 h2 h3 => exact .no _ _ _ h1 h2 h3
       | ok v r r' h1 h2 => exact .ok _ _ _ h1 h2
      split
      ·exact wk _ _ (by decide)
      ·split
       ·exact wk _ _ (by decide)
       ·split
        ·exact wk _ _ (by decide)
        ·exact .no _ _ _ hT (List.suffix_refl _) (by decide)
 ·exact .no _ _ _ (Tl.nn b) (List.suffix_refl _) (by decide)
 ·unfold vaF
  simp only
  rw [if_neg (bl_ne hx (by decide)), if_neg (bl_ne hx (by decide)), if_neg (bl_ne hx (by decide)), if_neg (fun e => e.elim (fun e => bl_ne hx (by decide) e) (fun e => by rw [bl_dg hx] at e; cases e)), if_neg (bl_ne hx (by decide)), if_neg (bl_ne hx (by decide)), if_neg (bl_ne hx (by decide))]
  exact .no _ _ _ h1 (List.suffix_refl _) (by decide)
theorem vaM_q : ∀ n, Qb (vaM n)
 | 0 => va_q none (fun _ e => by cases e)
 | n + 1 => va_q (some (vaM n)) (fun Vf e => by cases e; exact ⟨vaM_q n, va_len n⟩)
theorem sk_pre (a s : List UInt8) (ha : Bk a) : skB (a ++ s) = skB s := by
 induction a with
 | nil => rfl
 | cons c a ih => rw [List.cons_append, skB_cons, if_pos (ha c List.mem_cons_self)]; exact ih (fun x hx => ha x (List.mem_cons_of_mem _ hx))
/-- Blanks around a text. -/
theorem blanks_math (a s b : List UInt8) (ha : Bk a) (hb : Bk b) (hl : (a ++ s ++ b).length ≤ 65536) :
  ((psM s).2.2 = 0 → psM (a ++ s ++ b) = ((psM s).1, 0, 0)) ∧
  ((psM s).2.2 ≠ 0 → (psM (a ++ s ++ b)).1 = Js.nul ∧ (psM (a ++ s ++ b)).2.2 = (psM s).2.2 ∧ ((psM (a ++ s ++ b)).2.1 = (psM s).2.1 + a.length ∨ (psM s).2.1 = s.length ∧ (psM s).2.1 + a.length < (psM (a ++ s ++ b)).2.1)) := by
 have hs : s.length ≤ 65536 := by simp only [List.length_append] at hl; omega
 have e0 : skB (a ++ s ++ b) = skB (s ++ b) := by rw [List.append_assoc, sk_pre a _ ha]
 unfold psM
 rw [if_neg (by omega), if_neg (by omega), e0]
 have h0 := vaM_q 16 b (skB s) (skB (s ++ b)) hb (sk_tl hb (Tl.self b s))
 have hss := sk_suf s
 generalize vaM 16 (skB s) = x at h0 ⊢
 generalize vaM 16 (skB (s ++ b)) = x' at h0 ⊢
 simp only [List.length_append] at hl ⊢
 cases h0 with
 | no r r' y h1 h2 h3 =>
  have hle := (h2.trans hss).length_le
  refine ⟨fun e => absurd e h3, fun _ => ⟨rfl, rfl, ?_⟩⟩
  simp only
  rcases h1 with ⟨_, rfl⟩ | ⟨rfl, k⟩
  ·left; simp only [List.length_append]; omega
  ·have := k.length_le
   simp only [List.length_nil]
   omega
 | ok v r r' h1 h2 =>
  have hle := (h2.trans hss).length_le
  have hsl := (sk_suf r).length_le
  simp only
  rcases sk_q hb h1 with ⟨c, t, i1, i2, _⟩ | ⟨i1, i2⟩
  ·rw [i1] at hsl
   rw [i1, i2]
   refine ⟨fun e => by simp at e, fun _ => ⟨rfl, rfl, .inl ?_⟩⟩
   simp only [List.length_cons, List.length_append] at hsl ⊢
   omega
  ·rw [i1, i2]
   exact ⟨fun _ => rfl, fun e => absurd rfl e⟩
theorem psM_err (s : List UInt8) (h : (psM s).2.2 = 0) : (psM s).2.1 = 0 := by
 have key := (blanks_math [] s [] (fun _ h => by cases h) (fun _ h => by cases h))
 by_cases hl : s.length ≤ 65536
 ·have := (key (by simpa using hl)).1 h
  simp only [List.nil_append, List.append_nil] at this
  rw [this]
 ·unfold psM
  rw [if_pos (by omega)]
end Go.Proofs.YtmpjeahibfdehaaGreatDoor
end
section
set_option linter.unusedVariables false
set_option maxRecDepth 1000000
namespace Go.Proofs.YtmpjeahibfdehaaGreatDoor
open Go.RowKit

theorem owns_low {w : World} {base base' : Nat} {ty : TypeId} {z : Nat} {a : Option Addr} {cap n : Nat} {xs : List Value} (h : w.ownsRow base ty z (.slice a n cap) n xs) (hb : base' ≤ base) : w.ownsRow base' ty z (.slice a n cap) n xs := by
 refine ⟨h.1, ?_⟩
 rcases h.2 with hn | ⟨g, cap, cur, hv, hbb, rest⟩
 ·exact .inl hn
 ·exact .inr ⟨g, cap, cur, hv, Nat.le_trans hb hbb, rest⟩
theorem OwnT.nsf {w : World} {base : Nat} {a : Option Addr} {cap : Nat} {l : List (List UInt8)} (h : OwnT w base a cap l) {S : Nat → Prop} (hS : ∀ k, blk a = some k → S k) : NsF w S a l := by
 intro hne
 rcases owns_cases h with ⟨_, _, h3, _⟩ | ⟨g, cur, rfl, hb, hg, hle, hm, hs, ht, hl⟩
 ·exact absurd (List.eq_nil_of_length_eq_zero h3) hne
 ·refine ⟨g, 0, rfl, hS g rfl, fun i s hs => ?_⟩
  rw [Nat.zero_add]
  exact (owns_cell h i _ (nsv_get l i s hs)).1
theorem owns_cap {w : World} {base : Nat} {ty : TypeId} {z : Nat} {a : Option Addr} {cap n : Nat} {xs : List Value} (h : w.ownsRow base ty z (.slice a n cap) n xs) : n ≤ cap ∧ cap ≤ maxLen ∧ (a = none → cap = 0) := by
 rcases owns_cases h with ⟨h1, h2, h3, _⟩ | ⟨g, cur, h1, _, _, h4, h5, _⟩
 ·exact ⟨by omega, by unfold maxLen; omega, fun _ => h2⟩
 ·exact ⟨h4, h5, fun e => by rw [h1] at e; cases e⟩
/-- All that the world has. -/
def Al (w : World) : Nat → Prop := fun k => k < w.heap.size
theorem JV.al {w w' : World} {S : Nat → Prop} {v : Value} {j : Js} (h : JV w S v j) (hS : ∀ k, S k → k < w.heap.size) (hb : Below w.heap.size w w') : JV w' (Al w') v j :=
 JV.keep (fun k hk => ⟨Nat.lt_of_lt_of_le (hS k hk) hb.size, hb.block k (hS k hk)⟩) _ _ h
end Go.Proofs.YtmpjeahibfdehaaGreatDoor
end
