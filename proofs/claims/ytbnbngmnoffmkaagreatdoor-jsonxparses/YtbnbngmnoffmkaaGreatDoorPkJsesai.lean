/-
  jsonx: list.
-/
import Derived.Test.YtbnbngmnoffmkaaGreatDoorPkJsesag
import Derived.Test.YtbnbngmnoffmkaaGreatDoorPkJsesah
section
set_option linter.unusedVariables false
set_option maxRecDepth 1000000
namespace Go.Proofs.YtbnbngmnoffmkaaGreatDoor
open Go.RowKit

/-- No more is left than there was. -/
def VaL (V : List UInt8 → Rs Js) : Prop := ∀ l v r, V l = .ok v r → r.length ≤ l.length
def mbL (V : List UInt8 → Rs Js) (acc : List Js) (l : List UInt8) : Rs (List Js) := match V l with | .no r y => .no r y | .ok v r => .ok (acc ++ [v]) r
theorem li_me (V : List UInt8 → Rs Js) : ∀ (f : Nat) (acc : List Js) (l : List UInt8), liL V f acc l = meL (mbL V) f acc l
 | 0, acc, l => rfl
 | f + 1, acc, l => by
  rw [liL, meL, mbL]
  cases hV : V l with
  | no r y => rfl
  | ok v r =>
   simp only
   cases hs : skB r with
   | nil => rfl
   | cons c r2 =>
    simp only
    split
    ·exact li_me V f _ _
    ·rfl
theorem Bv.done {w : World} {V lo : Nat} {k : Int} {ns : List (List UInt8)} {is : List Js} {a1 : Option Addr} {c1 : Nat} {a2 : Option Addr} {c2 : Nat} {xs : List Value} (h : Bv w V lo k ns is a1 c1 a2 c2 xs) : JV w (fun b => lo ≤ b ∧ b < w.heap.size) (.agg #[.int .i64 k, .int .i64 0, .string ⟨#[]⟩, .slice a1 ns.length c1, .slice a2 is.length c2]) (.mk k 0 [] ns is) := by
 simp only [JV]
 have n1 : ns.length ≤ c1 ∧ c1 ≤ maxLen ∧ (a1 = none → c1 = 0) := by
  rcases owns_cases h.nm with ⟨rfl, rfl, h0, _⟩ | ⟨g, cur, rfl, _, _, h1, h2, _⟩
  ·exact ⟨by omega, by unfold maxLen; omega, fun _ => rfl⟩
  ·exact ⟨h1, h2, fun e => by cases e⟩
 have n2 : is.length ≤ c2 ∧ c2 ≤ maxLen ∧ (a2 = none → c2 = 0) := by
  rcases owns_cases h.it with ⟨rfl, rfl, h0, _⟩ | ⟨g, cur, rfl, _, _, h1, h2, _⟩
  ·exact ⟨by omega, by unfold maxLen; omega, fun _ => rfl⟩
  ·exact ⟨h1, h2, fun e => by cases e⟩
 refine ⟨a1, c1, a2, c2, rfl, ?_, n1.1, n1.2.1, n1.2.2, n2.1, n2.2.1, n2.2.2, ?_⟩
 ·intro hne
  rcases owns_cases h.nm with ⟨_, _, h0, _⟩ | ⟨g, cur, rfl, hb, hg, _⟩
  ·exact absurd (List.eq_nil_of_length_eq_zero h0) hne
  ·refine ⟨g, 0, rfl, ⟨hb, (Array.getElem?_eq_some_iff.1 hg).1⟩, fun i s hs => ?_⟩
   rw [Nat.zero_add]
   exact (owns_cell h.nm i _ (nsv_get ns i s hs)).1
 ·rw [jvs_iff]
  intro m j hj
  rw [Nat.zero_add]
  obtain ⟨v, ⟨v0, v1, v2, v3, v4, rfl, q0, q1, q2, q3, q4⟩, hv⟩ := h.el m j hj
  rcases owns_cases h.it with ⟨_, _, h0, _⟩ | ⟨g, cur, rfl, hb, hg, _⟩
  ·rw [List.eq_nil_of_length_eq_zero h0] at hj; simp at hj
  ·refine ⟨g, 0, v0, v1, v2, v3, v4, rfl, ⟨hb, (Array.getElem?_eq_some_iff.1 hg).1⟩, ?_, ?_, ?_, ?_, ?_, JV.keep (fun b hb => ⟨⟨hb.1, hb.2.1⟩, rfl⟩) j _ hv⟩
   ·rw [Nat.zero_add]; exact (owns_cell h.it _ _ q0).1
   ·rw [Nat.zero_add]; exact (owns_cell h.it _ _ q1).1
   ·rw [Nat.zero_add]; exact (owns_cell h.it _ _ q2).1
   ·rw [Nat.zero_add]; exact (owns_cell h.it _ _ q3).1
   ·rw [Nat.zero_add]; exact (owns_cell h.it _ _ q4).1
/-- A list, from behind its bracket on. -/
def liF (V : List UInt8 → Rs Js) (r : List UInt8) : Rs Js := match mmM 93 [] (fun l => liL V (l.length + 1) [] l) r with | .no r2 y => .no r2 y | .ok x r2 => .ok (.mk 4 0 [] [] x) r2
theorem liF_ok {V : List UInt8 → Rs Js} {r : List UInt8} {x : List Js} {r2 : List UInt8} (h : mmM 93 [] (fun l => liL V (l.length + 1) [] l) r = .ok x r2) : liF V r = .ok (.mk 4 0 [] [] x) r2 := by unfold liF; rw [h]
theorem liF_no {V : List UInt8 → Rs Js} {r : List UInt8} {r2 : List UInt8} {y : Nat} (h : mmM 93 [] (fun l => liL V (l.length + 1) [] l) r = .no r2 y) : liF V r = .no r2 y := by unfold liF; rw [h]
/-- The list's own state. -/
def LiI (P V Q lo : Nat) (w : World) (s : List Js) (n : Nat) : Prop := s.length ≤ n ∧ w.heap[Q]? = some (.cells #[.pointer (some ⟨P, 0, none⟩)] 91 (0, 0)) ∧ ∃ a1 c1 a2 c2 xs, Bv w V lo 4 [] s a1 c1 a2 c2 xs
theorem below3 (w : World) (A B C : Obj) : Below w.heap.size w (((w.alloc A).alloc B).alloc C) := (below2 w A B).alloc (by simp; omega) _
set_option maxHeartbeats 4000000 in
theorem list_any (P : Nat) (T : List UInt8) (d : Nat) (Vf : List UInt8 → Rs Js) (hV : VaC P T (d + 1) Vf) (hL : VaL Vf) (a : Nat) (r : List UInt8) (w : World) (h : Pa w P T a d) (hd : d < 16) (hl : T.drop a = 91 :: r) :
  Calls Tryz.prog 68 #[.pointer (some ⟨P, 0, none⟩)] w fun e w' => Po (fun j val w' => JV w' (Nw w w') val j) T w P d (liF Vf r) e w' := by
 obtain ⟨S, hS⟩ : ∃ S, S = w.heap.size := ⟨_, rfl⟩
 obtain ⟨W, hW⟩ : ∃ W, W = ((w.alloc (.cells #[.pointer (some ⟨P, 0, none⟩)] 91)).alloc (.cells #[.int .i64 0, .int .i64 0, .string ⟨#[]⟩, .slice none 0 0, .slice none 0 0] 25)).alloc (.cells #[.int .i64 4, .int .i64 0, .string ⟨#[]⟩, .slice none 0 0, .slice none 0 0] 25) := ⟨_, rfl⟩
 have hbW : Below w.heap.size w W := by rw [hW]; exact below3 _ _ _ _
 have hsW : W.heap.size = S + 3 := by rw [hW, hS]; simp
 have hQ : W.heap[S]? = some (.cells #[.pointer (some ⟨P, 0, none⟩)] 91 (0, 0)) := by
  rw [hW, hS, heap_alloc_old _ _ (by simp; omega), heap_alloc_old _ _ (by simp)]; exact heap_alloc_new _ _
 have hR : W.heap[S + 1]? = some (.cells #[.int .i64 0, .int .i64 0, .string ⟨#[]⟩, .slice none 0 0, .slice none 0 0] 25 (0, 0)) := by
  rw [hW, hS, heap_alloc_old _ _ (by simp)]; exact heap_alloc2_new _ _ _
 have hVr : W.heap[S + 2]? = some (.cells #[.int .i64 4, .int .i64 0, .string ⟨#[]⟩, .slice none 0 0, .slice none 0 0] 25 (0, 0)) := by
  rw [hW, hS]
  have e : w.heap.size + 2 = ((w.alloc (.cells #[.pointer (some ⟨P, 0, none⟩)] 91)).alloc (.cells #[.int .i64 0, .int .i64 0, .string ⟨#[]⟩, .slice none 0 0, .slice none 0 0] 25)).heap.size := by simp
  rw [e]; exact heap_alloc_new _ _
 have hPS : P < S := by rw [hS]; exact h.lt
 have hg := h.gp
 have hBv : Bv W (S + 2) (S + 3) 4 [] [] none 0 none 0 [] := ⟨hVr, World.ownsRow_nil W _ _ _, World.ownsRow_nil W _ _ _, fun m j hj => by simp at hj, by simp [blk], by simp [blk], fun k hk => by simp [blk] at hk⟩
 have HMem : Hid (∀ (w : World) (a : Nat) (s : List Js) (n : Nat), Pa w P T a (d + 1) → LiI P (S + 2) S (S + 3) w s n → S + 3 ≤ w.heap.size → n ≤ 65536 → Calls Tryz.prog 92 #[.pointer (some ⟨S + 2, 0, none⟩), .pointer (some ⟨S, 0, none⟩)] w fun e w' => (∃ s' a', mbL Vf s (T.drop a) = .ok s' (T.drop a') ∧ e = .returned (.tuple #[]) ∧ Pa w' P T a' (d + 1) ∧ Lm w w' P (S + 2) (S + 3) ∧ LiI P (S + 2) S (S + 3) w' s' (n + 1)) ∨ (∃ y a', mbL Vf s (T.drop a) = .no (T.drop a') y ∧ e = flt a' y ∧ a' ≤ T.length ∧ Lm w w' P (S + 2) (S + 3))) := by
  intro w a s n hp hi hz hn
  obtain ⟨hi1, hi2, a1, c1, a2, c2, xs, hi3⟩ := hi
  refine (list1_any P T (d + 1) Vf hV (S + 2) S (S + 3) a 4 [] s a1 c1 a2 c2 xs w hp hi3 hi2 (by omega) (by omega) (by omega) (by omega) (by omega) hz (by omega) (by omega) (by omega)).mono ?_
  rintro e w' (⟨j, a', b1, d1, b2, d2, ys, hM, rfl, hp', hlm, hq, hb⟩ | ⟨y, a', hM, rfl, h2, h3⟩)
  ·exact .inl ⟨s ++ [j], a', by simp only [mbL, hM], rfl, hp', hlm, by simp; omega, hq, b1, d1, b2, d2, ys, hb⟩
  ·exact .inr ⟨y, a', by simp only [mbL, hM], rfl, h2, h3⟩
 have hIk : ∀ w w' s n, LiI P (S + 2) S (S + 3) w s n → S + 3 ≤ w.heap.size → Mv w w' P → LiI P (S + 2) S (S + 3) w' s n := by
  rintro w w' s n ⟨h1, h2, a1, c1, a2, c2, xs, h3⟩ hz hm
  exact ⟨h1, (hm.block S (by omega) (fun e => by have := Option.some.inj e; omega)).trans h2, a1, c1, a2, c2, xs, h3.mv hm (by omega) (by omega)⟩
 have hlen : ∀ s l s' r, mbL Vf s l = .ok s' r → r.length ≤ l.length := by
  intro s l s' r hm
  unfold mbL at hm
  cases hv : Vf l with
  | no r y => rw [hv] at hm; cases hm
  | ok v r2 => rw [hv] at hm; simp only [Rs.ok.injEq] at hm; rw [← hm.2]; exact hL l v r2 hv
 have HME := hide (members_l P T d (S + 2) (S + 3) S 93 (mbL Vf) (LiI P (S + 2) S (S + 3)) hIk (unhide HMem) hlen a [] 91 r W (h.below hbW) hd hl ⟨Nat.zero_le _, hQ, none, 0, none, 0, [], hBv⟩ (by omega))
 have hfun : (fun l => meL (mbL Vf) (l.length + 1) [] l) = (fun l => liL Vf (l.length + 1) [] l) := funext fun l => (li_me Vf _ _ _).symm
 rw [hfun] at HME
 obtain ⟨R2, hR2⟩ : ∃ R2, R2 = liF Vf r := ⟨_, rfl⟩
 have HOK : Hid (∀ x r2, mmM 93 [] (fun l => liL Vf (l.length + 1) [] l) r = .ok x r2 → R2 = .ok (.mk 4 0 [] [] x) r2) := fun x r2 hx => by rw [hR2]; exact liF_ok hx
 have HNO : Hid (∀ r2 y, mmM 93 [] (fun l => liL Vf (l.length + 1) [] l) r = .no r2 y → R2 = .no r2 y) := fun r2 y hx => by rw [hR2]; exact liF_no hx
 rw [← hR2]
 have HQ := hide hQ
 have HR := hide hR
 have cQ : W.cell? ⟨S, 0, none⟩ = some (.pointer (some ⟨P, 0, none⟩)) := cq_of hQ
 have HbW := hide hbW
 have HS := hide hS
 have HsW := hide hsW
 have HPS := hide hPS
 rw [show ((93 : UInt8).toNat : Int) = 93 from rfl] at HME
 clear hBv HMem hIk hlen hfun hQ hR hVr hbW h hg hR2 hV hL hsW hPS hl
 have hmf : ∀ (fn : Fn) (first cap : Array Value) (w : World), (Instr.makeFunc fn first cap).run Tryz.prog w = .ok (.func fn first cap) w := fun _ _ _ _ => rfl
 go_enter Tryz.func68, Tryz.ntmps68
 go_upto_region 2 with fail
 rw [← hW, ← hS]
 clear hW hS
 go_wp2_with fail
 refine (unhide HME).mono ?_
 rintro e w5 (⟨s, a5, n, hM5, rfl, hP5, hL5, hI5⟩ | ⟨y, a5, hM5, rfl, h2, h3⟩)
 rotate_left 1
 ·refine ⟨rfl, Po.nay (unhide HNO _ _ hM5) h2 ?_⟩
  exact ⟨h3.os.trans (unhide HbW).os, h3.tape.trans (unhide HbW).tape, h3.output.trans (unhide HbW).output, Nat.le_trans (unhide HbW).size h3.size, fun k hk hn => (h3.block k (by have := unhide HS; omega) (fun e => hn (by rw [e])) (by have := unhide HS; omega)).trans ((unhide HbW).block k hk)⟩
 ·obtain ⟨_, _, a1, c1, a2, c2, xs, hB⟩ := hI5
  have r5 := hB.row
  have g0 : w5.cell? ⟨S + 2, 0, none⟩ = some (.int .i64 4) := cell_of_row _ _ _ _ _ _ r5
  have g1 : w5.cell? ⟨S + 2, 1, none⟩ = some (.int .i64 0) := cell_of_row _ _ _ _ _ _ r5
  have g2 : w5.cell? ⟨S + 2, 2, none⟩ = some (.string ⟨#[]⟩) := cell_of_row _ _ _ _ _ _ r5
  have g3 : w5.cell? ⟨S + 2, 3, none⟩ = some (.slice a1 0 c1) := cell_of_row _ _ _ _ _ _ r5
  have g4 : w5.cell? ⟨S + 2, 4, none⟩ = some (.slice a2 s.length c2) := cell_of_row _ _ _ _ _ _ r5
  have R5 : w5.heap[S + 1]? = some (.cells #[.int .i64 0, .int .i64 0, .string ⟨#[]⟩, .slice none 0 0, .slice none 0 0] 25 (0, 0)) := (hL5.block (S + 1) (by omega) (by have := unhide HPS; omega) (by omega)).trans (unhide HR)
  have q0 : w5.cell? ⟨S + 1, 0, none⟩ = some (.int .i64 0) := cell_of_row _ _ _ _ _ _ R5
  have q1 : w5.cell? ⟨S + 1, 1, none⟩ = some (.int .i64 0) := cell_of_row _ _ _ _ _ _ R5
  have q2 : w5.cell? ⟨S + 1, 2, none⟩ = some (.string ⟨#[]⟩) := cell_of_row _ _ _ _ _ _ R5
  have q3 : w5.cell? ⟨S + 1, 3, none⟩ = some (.slice none 0 0) := cell_of_row _ _ _ _ _ _ R5
  have q4 : w5.cell? ⟨S + 1, 4, none⟩ = some (.slice none 0 0) := cell_of_row _ _ _ _ _ _ R5
  have fz : ∀ j, w5.frozen? ⟨S + 1, j, none⟩ = false := fun j => frozen_of_row _ _ _ _ _ R5
  have f0 := fz 0
  have f1 := fz 1
  have f2 := fz 2
  have f3 := fz 3
  have f4 := fz 4
  obtain ⟨w6, h6⟩ : ∃ w6, w6 = ((((w5.setCell ⟨S + 1, 0, none⟩ (.int .i64 4)).setCell ⟨S + 1, 1, none⟩ (.int .i64 0)).setCell ⟨S + 1, 2, none⟩ (.string ⟨#[]⟩)).setCell ⟨S + 1, 3, none⟩ (.slice a1 0 c1)).setCell ⟨S + 1, 4, none⟩ (.slice a2 s.length c2) := ⟨_, rfl⟩
  have k6 : ∀ k, k ≠ S + 1 → w6.heap[k]? = w5.heap[k]? := fun k hk => by rw [h6]; exact far5 w5 (S + 1) k _ _ _ _ _ _ _ _ _ _ hk
  have z6 : w6.heap.size = w5.heap.size := by rw [h6]; exact siz5 w5 _ _ _ _ _ _ _ _ _ _ _
  have R6 : w6.heap[S + 1]? = some (.cells #[.int .i64 4, .int .i64 0, .string ⟨#[]⟩, .slice a1 0 c1, .slice a2 s.length c2] 25 (0, 0)) := by
   rw [h6]
   exact heap_setCell_same _ _ _ _ _ _ (heap_setCell_same _ _ _ _ _ _ (heap_setCell_same _ _ _ _ _ _ (heap_setCell_same _ _ _ _ _ _ (heap_setCell_same _ _ _ _ _ _ R5))))
  have t0 : w6.cell? ⟨S + 1, 0, none⟩ = some (.int .i64 4) := cell_of_row _ _ _ _ _ _ R6
  have t1 : w6.cell? ⟨S + 1, 1, none⟩ = some (.int .i64 0) := cell_of_row _ _ _ _ _ _ R6
  have t2 : w6.cell? ⟨S + 1, 2, none⟩ = some (.string ⟨#[]⟩) := cell_of_row _ _ _ _ _ _ R6
  have t3 : w6.cell? ⟨S + 1, 3, none⟩ = some (.slice a1 0 c1) := cell_of_row _ _ _ _ _ _ R6
  have t4 : w6.cell? ⟨S + 1, 4, none⟩ = some (.slice a2 s.length c2) := cell_of_row _ _ _ _ _ _ R6
  have HJ : Hid (JV w6 (Nw w w6) (.agg #[.int .i64 4, .int .i64 0, .string ⟨#[]⟩, .slice a1 0 c1, .slice a2 s.length c2]) (.mk 4 0 [] [] s)) := JV.keep (fun k hk => ⟨⟨by have := unhide HS; omega, by omega⟩, k6 k (by omega)⟩) _ _ hB.done
  have hgp := hP5.gp
  have HP6 : Hid (Pa w6 P T a5 d) := { hP5 with row := (k6 P (by have := unhide HPS; omega)).trans hP5.row, tb := hP5.tb.keep (fun k hk => k6 k (by have := unhide HPS; rcases hk with rfl | rfl <;> omega)) }
  have HM6 : Hid (Mv w w6 P) := ⟨by rw [h6]; exact hL5.os.trans (unhide HbW).os, by rw [h6]; exact hL5.tape.trans (unhide HbW).tape, by rw [h6]; exact hL5.output.trans (unhide HbW).output, by rw [z6]; exact Nat.le_trans (unhide HbW).size hL5.size, fun k hk hn => (k6 k (by have := unhide HS; omega)).trans ((hL5.block k (by have := unhide HS; omega) (fun e => hn (by rw [e])) (by have := unhide HS; omega)).trans ((unhide HbW).block k hk))⟩
  have HM := hide hM5
  clear hB r5 R5 fz k6 z6 R6 hP5 hL5 hM5 HME cQ HR HQ
  go_wp2_with fail
  rw [← h6]
  clear h6
  refine ⟨rfl, .agg #[.int .i64 4, .int .i64 0, .string ⟨#[]⟩, .slice a1 0 c1, .slice a2 s.length c2], by simp [results, Tryz.results68, go_sem, t0, t1, t2, t3, t4], ?_⟩
  exact Po.yes (unhide HOK _ _ (unhide HM)) (unhide HP6) (unhide HM6) (unhide HJ)
#print axioms list_any
end Go.Proofs.YtbnbngmnoffmkaaGreatDoor
end
