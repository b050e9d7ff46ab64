/-
  httpd's Parser, whatever state it is in: its calls (HttpdFeeds).; httpd's Parser: Next, whatever state it is in.; httpd's reference: the parser in memory, and its calls (HttpdFeeds).; httpd's reference: the parser's Next (HttpdFeeds).
-/
import Derived.Test.YtonaekkenggmbaaGreatDoorPkHedsbg
import Derived.Test.YtonaekkenggmbaaGreatDoorPkHedsbk
import Derived.Test.YtonaekkenggmbaaGreatDoorPkHedsbl
section
set_option linter.unusedVariables false
set_option maxRecDepth 1000000
namespace Go.Proofs.YtonaekkenggmbaaGreatDoor
open Go.RowKit

theorem Pf.fr9 {w w' : World} {base : Nat} {h h' : Nat → Nat} {P st : Nat} (p : Pf w base h P st) (hz : w.heap.size ≤ w'.heap.size) (hP : w'.heap[P]? = w.heap[P]?) (ht : ∀ k, k < w.heap.size → h' k = h k) (hl : ∀ k, w.heap.size ≤ k → h' k ≠ 0 → base ≤ k ∧ k < w'.heap.size) : Pf w' base h' P st := by
  obtain ⟨r, hr⟩ := p.row
  have hlt := (Array.getElem?_eq_some_iff.1 hr).1
  refine ⟨⟨r, hP.trans hr⟩, p.nz, (ht P hlt).trans p.tP, fun k hk => ?_⟩
  by_cases hl2 : k < w.heap.size
  · rw [ht k hl2] at hk
    exact ⟨(p.lo k hk).1, Nat.lt_of_lt_of_le hl2 hz⟩
  · exact hl k (by omega) hk
/-- A parser that New made: the status that refused (0: none), what waits. -/
def PS (w : World) (base : Nat) (h : Nat → Nat) (P : Nat) (st : Nat) (W : List UInt8) : Prop :=
  (st = 0 ∧ ∃ g r S Q x cx rd, Pz w base h g P r S Q x cx W rd) ∨ (st ≠ 0 ∧ W = [] ∧ Pf w base h P st)
theorem PS.lo {w : World} {base : Nat} {h : Nat → Nat} {P st : Nat} {W : List UInt8} (p : PS w base h P st W) : ∀ k, h k ≠ 0 → base ≤ k ∧ k < w.heap.size := by
  rcases p with ⟨_, g, r, S, Q, x, cx, rd, p⟩ | ⟨_, _, p⟩
  · exact p.lo
  · exact p.lo
theorem PS.tP {w : World} {base : Nat} {h : Nat → Nat} {P st : Nat} {W : List UInt8} (p : PS w base h P st W) : h P = 1 := by
  rcases p with ⟨_, g, r, S, Q, x, cx, rd, p⟩ | ⟨_, _, p⟩
  · exact p.tP
  · exact p.tP
/-- Blocks of the tags from 3 on change, new ones come. -/
theorem PS.ours {w w' : World} {base : Nat} {h h' : Nat → Nat} {P st : Nat} {W : List UInt8} (p : PS w base h P st W) (hz : w.heap.size ≤ w'.heap.size) (hs : ∀ k, k < w.heap.size → h k < 3 → w'.heap[k]? = w.heap[k]?) (ht : ∀ k, k < w.heap.size → h' k = h k) (hl : ∀ k, w.heap.size ≤ k → h' k ≠ 0 → base ≤ k ∧ k < w'.heap.size) : PS w' base h' P st W := by
  rcases p with ⟨e, g, r, S, Q, x, cx, rd, p⟩ | ⟨e, e2, p⟩
  · refine .inl ⟨e, g, r, S, Q, x, cx, rd, p.fr h' hz (fun k hk hc => hs k hk ?_) ht hl⟩
    rcases hc with c | c | c
    · omega
    · omega
    · rw [p.apart k c]; decide
  · obtain ⟨r, hr⟩ := p.row
    exact .inr ⟨e, e2, p.fr9 hz (hs P (Array.getElem?_eq_some_iff.1 hr).1 (by rw [p.tP]; decide)) ht hl⟩
/-- What Feed answers, and what waits then. -/
def feE (st : Nat) (W b : List UInt8) : Nat := if st ≠ 0 then 31 else if 65536 < W.length + b.length then 7 else 0
def feW (st : Nat) (W b : List UInt8) : List UInt8 := if feE st W b = 0 then W ++ b else W
theorem feed_full (w : World) (base : Nat) (h g : Nat → Nat) (P r : Nat) (S : St) (Q : Rq) (x : Option Addr) (cx : Nat) (wt : List UInt8) (rd : Nat) (p : Pz w base h g P r S Q x cx wt rd) (a : Option Addr) (n ca : Nat) (hl : 65536 < wt.length + n) (hw : wt.length ≤ 65536) (hn : n ≤ 1000000) :
    Calls Tryz.prog 13 #[pt P, .slice a n ca] w fun e w' => e = .returned (.int .i64 7) ∧ w' = w := by
  have c0 : w.cell? ⟨P, 0, none⟩ = some (pt r) := cell_of_row _ _ _ _ _ _ p.row
  have c1 : w.cell? ⟨P, 1, none⟩ = some (.slice x wt.length cx) := cell_of_row _ _ _ _ _ _ p.row
  have c3 : w.cell? ⟨P, 3, none⟩ = some (.int .i64 0) := cell_of_row _ _ _ _ _ _ p.row
  have hg : (65536 : Int) < (wt.length : Int) + (n : Int) := by omega
  have HU := hide (unmade_no P r w c0)
  clear p
  go_enter Tryz.func13, Tryz.ntmps13
  go_wp2_with fail
  refine (unhide HU).mono ?_
  rintro e w ⟨rfl, rfl⟩
  clear HU
  go_wp2
  go_ret
  exact ⟨rfl, rfl⟩
theorem pfeed_any (w : World) (base : Nat) (h : Nat → Nat) (P st : Nat) (W : List UInt8) (p : PS w base h P st W) (hW : W.length ≤ 65536) (a : Option Addr) (ca : Nat) (b : List UInt8) (hb : Bs w a ca b) (hbl : b.length ≤ 1000000) (hbs : base ≤ w.heap.size) :
    Calls Tryz.prog 13 #[pt P, .slice a b.length ca] w fun e w' => ∃ E : Nat, e = .returned (.int .i64 (E : Int)) ∧ Hid (E = feE st W b) ∧ Hid (∃ h', PS w' base h' P st (feW st W b) ∧ Fr base w w' h h') := by
  rcases p with ⟨rfl, g, r, S, Q, x, cx, rd, p⟩ | ⟨hs, rfl, p⟩
  · by_cases hl : 65536 < W.length + b.length
    · have e : feE 0 W b = 7 := by simp [feE, hl]
      refine (feed_full w base h g P r S Q x cx W rd p a b.length ca hl hW hbl).mono ?_
      rintro e' w' ⟨rfl, rfl⟩
      refine ⟨7, rfl, e.symm, h, ?_, Fr.refl _ _ _⟩
      unfold feW; rw [e]
      exact .inl ⟨rfl, g, r, S, Q, x, cx, rd, p⟩
    · have e : feE 0 W b = 0 := by simp [feE, hl]
      refine (feed_any w base h g P r S Q x cx W rd p a ca b hb (by omega) hbs).mono ?_
      rintro e' w' ⟨rfl, h', x', cx', hp, hf⟩
      refine ⟨0, rfl, e.symm, h', ?_, unhide hf⟩
      unfold feW; rw [e]
      exact .inl ⟨rfl, g, r, S, Q, x', cx', rd, unhide hp⟩
  · have e : feE st [] b = 31 := by simp [feE, hs]
    refine (feed_shut w base h P st p _).mono ?_
    rintro e' w' ⟨rfl, rfl⟩
    refine ⟨31, rfl, e.symm, h, ?_, Fr.refl _ _ _⟩
    unfold feW; rw [e]
    exact .inr ⟨hs, rfl, p⟩
theorem PS.cells {w : World} {base : Nat} {h : Nat → Nat} {P st : Nat} {W : List UInt8} (p : PS w base h P st W) : ∃ r x cx, ∃ rd : Nat, w.heap[P]? = some (.cells #[pt r, .slice x W.length cx, .int .i64 (rd : Int), .int .i64 (st : Int)] 77 (0, 0)) ∧ Bs w x cx W ∧ rd ≤ W.length := by
  rcases p with ⟨rfl, g, r, S, Q, x, cx, rd, p⟩ | ⟨hs, rfl, p⟩
  · exact ⟨r, x, cx, rd, p.row, p.wait.toBs, p.le⟩
  · obtain ⟨r, hr⟩ := p.row
    exact ⟨r, none, 0, 0, hr, bs_none _, Nat.le_refl _⟩
theorem pwait_any (w : World) (base : Nat) (h : Nat → Nat) (P st : Nat) (W : List UInt8) (p : PS w base h P st W) :
    Calls Tryz.prog 20 #[pt P] w fun e w' => e = .returned (.int .i64 (W.length : Int)) ∧ w' = w := by
  obtain ⟨r, x, cx, rd, hr, hb, _⟩ := p.cells
  have c0 : w.cell? ⟨P, 0, none⟩ = some (pt r) := cell_of_row _ _ _ _ _ _ hr
  have c1 : w.cell? ⟨P, 1, none⟩ = some (.slice x W.length cx) := cell_of_row _ _ _ _ _ _ hr
  have HU := hide (unmade_no P r w c0)
  clear p hr hb
  go_enter Tryz.func20, Tryz.ntmps20
  go_wp2_with fail
  refine (unhide HU).mono ?_
  rintro e w ⟨rfl, rfl⟩
  clear HU
  go_wp2
  go_ret
  exact ⟨rfl, rfl⟩
theorem prest_any (w : World) (base : Nat) (h : Nat → Nat) (P st : Nat) (W : List UInt8) (p : PS w base h P st W) (hbs : base ≤ w.heap.size) :
    Calls Tryz.prog 19 #[pt P] w fun e w' => ∃ x cx, e = .returned (.slice x W.length cx) ∧ Hid (Bs w' x cx W) ∧ Hid (∃ h', PS w' base h' P st [] ∧ Fr base w w' h h') := by
  obtain ⟨r, x, cx, rd, hr, hb, _⟩ := p.cells
  have c0 : w.cell? ⟨P, 0, none⟩ = some (pt r) := cell_of_row _ _ _ _ _ _ hr
  have c1 : w.cell? ⟨P, 1, none⟩ = some (.slice x W.length cx) := cell_of_row _ _ _ _ _ _ hr
  have HU := hide (unmade_no P r w c0)
  have HG := hide (pgoOn_any P _ _ _ _ none 0 0 w hr)
  have HP := hide p
  have HX : Hid (Bs w x cx W ∧ ∀ k, blk x = some k → k ≠ P) := by
    refine ⟨hb, fun k hk e => ?_⟩
    rcases p with ⟨rfl, g, r', S, Q, x', cx', rd', p⟩ | ⟨hs, rfl, p⟩
    · have e2 := p.row
      rw [hr] at e2
      simp at e2
      obtain ⟨_, ⟨e3, _⟩, _⟩ := e2
      rw [e3] at hk
      have := p.tx k hk
      rw [e, p.tP] at this
      omega
    · obtain ⟨r', hr'⟩ := p.row
      rw [hr] at hr'
      simp at hr'
      rw [hr'.2.1.1] at hk
      simp [blk] at hk
  clear p hr hb
  go_enter Tryz.func19, Tryz.ntmps19
  go_wp2_with fail
  refine (unhide HU).mono ?_
  rintro e w ⟨rfl, rfl⟩
  clear HU
  go_wp2_with fail
  refine (unhide HG).mono ?_
  rintro e w' ⟨rfl, r', g', HR, HG', HRow, HK⟩
  clear HG
  have HB : Hid (Bs w' x cx W) := (unhide HK).bs (unhide HX).1 (unhide HX).2
  have hlo := (unhide HP).lo
  have htP := (unhide HP).tP
  have hPb := hlo P (by rw [htP]; decide)
  have HF : Hid (Fr base w w' h h) := ⟨(unhide HK).os, (unhide HK).tape, (unhide HK).output, (unhide HK).size, fun k hk => (unhide HK).block k (by omega) (fun e => by have e : k = P := e; omega), fun k hk => (unhide HK).block k (hlo k (by omega)).2 (fun e => by have e : k = P := e; rw [e] at hk; omega), fun _ _ => rfl⟩
  have HS : Hid (PS w' base h P st []) := by
    by_cases hs : st = 0
    · subst hs
      have hg0 : ∀ k, g' k ≠ 0 → h k = 0 := fun k hk => by
        by_cases e : h k = 0
        · exact e
        · have := (hlo k e).2
          have := unhide HG' k hk
          omega
      refine .inl ⟨rfl, g', r', .head [], Rq.nil, none, 0, 0, ⟨unhide HRow, unhide HR, ?_, run0_nil, Nat.le_refl _, ?_, htP, fun k hk => by simp [blk] at hk, hg0, fun k hk => Nat.le_trans hbs (unhide HG' k hk), fun k hk => ⟨(hlo k hk).1, Nat.lt_of_lt_of_le (hlo k hk).2 (unhide HK).size⟩⟩⟩
      · simp [okQ, Rq.nil]
      · exact Cmg.nil _ _
    · exact .inr ⟨hs, rfl, ⟨r', unhide HRow⟩, hs, htP, fun k hk => ⟨(hlo k hk).1, Nat.lt_of_lt_of_le (hlo k hk).2 (unhide HK).size⟩⟩
  clear HK HR HG' HRow hlo htP hPb HP HX
  go_wp2
  go_ret
  exact ⟨x, cx, rfl, HB, h, unhide HS, unhide HF⟩
#print axioms pfeed_any
#print axioms prest_any
end Go.Proofs.YtonaekkenggmbaaGreatDoor
end
section
set_option linter.unusedVariables false
set_option maxRecDepth 1000000
namespace Go.Proofs.YtonaekkenggmbaaGreatDoor
open Go.RowKit

/-- What Next tells and leaves. -/
def nxQ (st : Nat) (W : List UInt8) : Rq := if st ≠ 0 then Rq.nil else (pM W).1
def nxS (st : Nat) (W : List UInt8) : Nat := if st ≠ 0 then st else (pM W).2.2
def nxT (st : Nat) (W : List UInt8) : Nat := if st ≠ 0 then st else if 1 < (pM W).2.2 then (pM W).2.2 else 0
def nxW (st : Nat) (W : List UInt8) : List UInt8 := if st ≠ 0 then W else if 1 < (pM W).2.2 then [] else W.drop (pM W).2.1
theorem pM_run0 (W : List UInt8) : pM W = if (run0 W).2.1 = 0 then ((run0 W).2.2.2, (run0 W).1, 0) else (Rq.nil, 0, (run0 W).2.1) := rfl
set_option maxHeartbeats 1000000 in
theorem next_f (w : World) (base : Nat) (h : Nat → Nat) (P st : Nat) (p : Pf w base h P st) :
    Calls Tryz.prog 15 #[pt P] w fun e w' => e = .returned (.tuple #[.agg #[.string ⟨#[]⟩, .string ⟨#[]⟩, .slice none 0 0, .slice none 0 0], .int .i64 (st : Int)]) ∧ Hid (Below w.heap.size w w') := by
  obtain ⟨r, hr⟩ := p.row
  have hPl : P < w.heap.size := (Array.getElem?_eq_some_iff.1 hr).1
  obtain ⟨o, ho⟩ : ∃ o, o = Obj.cells #[.string ⟨#[]⟩, .string ⟨#[]⟩, .slice none 0 0, .slice none 0 0] 39 := ⟨_, rfl⟩
  have hbA : Below w.heap.size w (w.alloc o) := (Below.refl _ _).alloc (Nat.le_refl _) _
  have hrA := (hbA.block P hPl).trans hr
  have hrZ : (w.alloc o).heap[w.heap.size]? = some (.cells #[.string ⟨#[]⟩, .string ⟨#[]⟩, .slice none 0 0, .slice none 0 0] 39 (0, 0)) := by rw [ho]; exact heap_alloc_new w _
  obtain ⟨V, hV⟩ : ∃ V, V = w.alloc o := ⟨_, rfl⟩
  rw [← hV] at hbA hrA hrZ
  rw [ho] at hV
  have c0 : V.cell? ⟨P, 0, none⟩ = some (pt r) := cell_of_row _ _ _ _ _ _ hrA
  have c3 : V.cell? ⟨P, 3, none⟩ = some (.int .i64 (st : Int)) := cell_of_row _ _ _ _ _ _ hrA
  have z0 : V.cell? ⟨w.heap.size, 0, none⟩ = some (.string ⟨#[]⟩) := cell_of_row _ _ _ _ _ _ hrZ
  have z1 : V.cell? ⟨w.heap.size, 1, none⟩ = some (.string ⟨#[]⟩) := cell_of_row _ _ _ _ _ _ hrZ
  have z2 : V.cell? ⟨w.heap.size, 2, none⟩ = some (.slice none 0 0) := cell_of_row _ _ _ _ _ _ hrZ
  have z3 : V.cell? ⟨w.heap.size, 3, none⟩ = some (.slice none 0 0) := cell_of_row _ _ _ _ _ _ hrZ
  have f0 := frozen_of_row V w.heap.size 0 _ _ hrZ
  have f1 := frozen_of_row V w.heap.size 1 _ _ hrZ
  have f2 := frozen_of_row V w.heap.size 2 _ _ hrZ
  have f3 := frozen_of_row V w.heap.size 3 _ _ hrZ
  have hs : ((st : Int) != 0) = true := by have := p.nz; simp; omega
  have HU := hide (unmade_no P r V c0)
  have HBA := hide hbA
  have HRZ : Hid (V.heap[w.heap.size]? = some (.cells #[.string ⟨#[]⟩, .string ⟨#[]⟩, .slice none 0 0, .slice none 0 0] 39 (0, 0))) := hrZ
  clear p hr hrA hrZ hbA ho o
  go_enter Tryz.func15, Tryz.ntmps15
  go_upto_region 1 with fail
  rw [← hV]
  clear hV
  go_wp2_with fail
  refine (unhide HU).mono ?_
  rintro e V ⟨rfl, rfl⟩
  clear HU
  obtain ⟨W, hW⟩ : ∃ W, W = (((V.setCell ⟨w.heap.size, 0, none⟩ (.string ⟨#[]⟩)).setCell ⟨w.heap.size, 1, none⟩ (.string ⟨#[]⟩)).setCell ⟨w.heap.size, 2, none⟩ (.slice none 0 0)).setCell ⟨w.heap.size, 3, none⟩ (.slice none 0 0) := ⟨_, rfl⟩
  obtain ⟨s1, s2⟩ := set4 V w.heap.size _ _ _ _ (.string ⟨#[]⟩) (.string ⟨#[]⟩) (.slice none 0 0) (.slice none 0 0) _ (unhide HRZ)
  rw [← hW] at s1 s2
  have q0 : W.cell? ⟨w.heap.size, 0, none⟩ = some (.string ⟨#[]⟩) := cell_of_row _ _ _ _ _ _ s1
  have q1 : W.cell? ⟨w.heap.size, 1, none⟩ = some (.string ⟨#[]⟩) := cell_of_row _ _ _ _ _ _ s1
  have q2 : W.cell? ⟨w.heap.size, 2, none⟩ = some (.slice none 0 0) := cell_of_row _ _ _ _ _ _ s1
  have q3 : W.cell? ⟨w.heap.size, 3, none⟩ = some (.slice none 0 0) := cell_of_row _ _ _ _ _ _ s1
  have HF : Hid (Below w.heap.size w W.drew) := by
    have hb := (unhide HBA)
    refine Below.drew ⟨by rw [hW]; exact hb.os, by rw [hW]; exact hb.tape, by rw [hW]; exact hb.output, by rw [hW]; simp [World.setCell]; exact hb.size, fun k hk => (s2 k (by omega)).trans (hb.block k hk)⟩
  clear s1 s2
  go_upto_region 4 with fail
  go_region
  rw [← hW]
  clear hW z0 z1 z2 z3 f0 f1 f2 f3 c0 c3 HRZ HBA
  go_wp2
  refine bodyPost_ret (v := .tuple #[.agg #[.string ⟨#[]⟩, .string ⟨#[]⟩, .slice none 0 0, .slice none 0 0], .int .i64 (st : Int)]) (by simp [results, Tryz.results15, go_sem, q0, q1, q2, q3]) rfl ⟨rfl, HF⟩
#print axioms next_f
theorem fr_new {base : Nat} {w w' : World} {h : Nat → Nat} (hb : Below w.heap.size w w') (hbs : base ≤ w.heap.size) (hi : ∀ k, h k ≠ 0 → base ≤ k ∧ k < w.heap.size) : Fr base w w' h h :=
  Fr.ofBelow hb hbs (fun k hk => (hi k hk).2) (fun _ _ => rfl)
theorem pnext_any (w : World) (base : Nat) (h : Nat → Nat) (P st : Nat) (W : List UInt8) (p : PS w base h P st W) (hW : W.length ≤ 65536) (hE : EnvH w) (hBH : BH ≤ base) (hbs : base ≤ w.heap.size) :
    Calls Tryz.prog 15 #[pt P] w fun e w' => ∃ (Q : Rq) (hp : Option Addr) (hc : Nat) (bp : Option Addr) (bc S : Nat), e = .returned (.tuple #[.agg #[.string (str Q.m), .string (str Q.p), .slice hp Q.h.length hc, .slice bp Q.b.length bc], .int .i64 (S : Int)]) ∧ Hid (Q = nxQ st W ∧ S = nxS st W) ∧ Hid (HdR w' hp Q.h ∧ Bs w' bp bc Q.b) ∧ Hid (∃ h', PS w' base h' P (nxT st W) (nxW st W) ∧ Fr base w w' h h' ∧ (∀ k, blk hp = some k → h' k = 5) ∧ (∀ k, blk bp = some k → h' k = 5)) := by
  rcases p with ⟨rfl, g, r, S, Q, x, cx, rd, p⟩ | ⟨hs, rfl, p⟩
  · refine (next_any w base h g P r S Q x cx W rd p hE hBH hbs hW).mono ?_
    rintro e w' ⟨t, s, rfl, HN⟩
    obtain ⟨h', f, hst, hz, n1, n0, nb⟩ := unhide HN
    have hpm := pM_run0 W
    rw [← hst] at hpm
    by_cases s0 : s = 0
    · obtain ⟨e1, e2, e3, e4, e5, g', r', x', cx', p'⟩ := n0 s0
      rw [if_pos s0] at hpm
      have q1 : nxQ 0 W = t.1 := by simp only [nxQ]; rw [if_neg (by simp), hpm, e1]
      have q2 : nxS 0 W = s := by simp only [nxS]; rw [if_neg (by simp), hpm, s0]
      have q3 : nxT 0 W = 0 := by simp only [nxT]; rw [if_neg (by simp), hpm, if_neg (by simp)]
      have q4 : nxW 0 W = W.drop (run0 W).1 := by simp only [nxW]; rw [if_neg (by simp), hpm, if_neg (by simp)]
      refine ⟨t.1, t.2.1.1, t.2.1.2, t.2.2.1, t.2.2.2, s, rfl, ⟨q1.symm, q2.symm⟩, ⟨e2, e3⟩, h', ?_, f, e4, e5⟩
      rw [q3, q4]
      exact .inl ⟨rfl, g', r', _, _, x', cx', 0, p'⟩
    · rw [if_neg s0] at hpm
      obtain rfl := hz s0
      have q1 : nxQ 0 W = Rq.nil := by simp only [nxQ]; rw [if_neg (by simp), hpm]
      have q2 : nxS 0 W = s := by simp only [nxS]; rw [if_neg (by simp), hpm]
      refine ⟨Rq.nil, none, 0, none, 0, s, rfl, ⟨q1.symm, q2.symm⟩, ⟨⟨fun hne => absurd rfl hne, by simp [Rq.nil]⟩, bs_none _⟩, h', ?_, f, fun k hk => by simp [blk] at hk, fun k hk => by simp [blk] at hk⟩
      by_cases s1 : s = 1
      · obtain ⟨g', r', S', Q', x', cx', p'⟩ := n1 s1
        have q3 : nxT 0 W = 0 := by simp only [nxT]; rw [if_neg (by simp), hpm, if_neg (by simp; omega)]
        have q4 : nxW 0 W = W := by simp only [nxW]; rw [if_neg (by simp), hpm, if_neg (by simp; omega)]; rfl
        rw [q3, q4]
        exact .inl ⟨rfl, g', r', S', Q', x', cx', _, p'⟩
      · have q3 : nxT 0 W = s := by simp only [nxT]; rw [if_neg (by simp), hpm, if_pos (by simp; omega)]
        have q4 : nxW 0 W = [] := by simp only [nxW]; rw [if_neg (by simp), hpm, if_pos (by simp; omega)]
        rw [q3, q4]
        exact .inr ⟨s0, rfl, nb s0 s1⟩
  · refine (next_f w base h P st p).mono ?_
    rintro e w' ⟨rfl, HB⟩
    have q1 : nxQ st [] = Rq.nil := by simp only [nxQ]; rw [if_pos hs]
    have q2 : nxS st [] = st := by simp only [nxS]; rw [if_pos hs]
    have q3 : nxT st [] = st := by simp only [nxT]; rw [if_pos hs]
    have q4 : nxW st [] = [] := by simp only [nxW]; rw [if_pos hs]
    have hf := fr_new (unhide HB) hbs p.lo
    refine ⟨Rq.nil, none, 0, none, 0, st, rfl, ⟨q1.symm, q2.symm⟩, ⟨⟨fun hne => absurd rfl hne, by simp [Rq.nil]⟩, bs_none _⟩, h, ?_, hf, fun k hk => by simp [blk] at hk, fun k hk => by simp [blk] at hk⟩
    rw [q3, q4]
    obtain ⟨r, hr⟩ := p.row
    exact .inr ⟨hs, rfl, p.fr9 (unhide HB).size ((unhide HB).block P (Array.getElem?_eq_some_iff.1 hr).1) (fun _ _ => rfl) (fun k hk hn => by have := (p.lo k hn).2; omega)⟩
#print axioms pnext_any
end Go.Proofs.YtonaekkenggmbaaGreatDoor
end
section
set_option linter.unusedVariables false
set_option maxRecDepth 1000000
namespace Go.Proofs.YtonaekkenggmbaaGreatDoor
open Go.RowKit

/-- All blocks that came are ours. -/
def tag3 (h : Nat → Nat) (n m : Nat) : Nat → Nat := fun k => if k < n then h k else if k < m then 3 else 0
/-- The reference's parser in block X. -/
structure RS (w : World) (h : Nat → Nat) (X : Nat) (st : Nat) (W : List UInt8) (y : Option Addr) (cy : Nat) : Prop where
  row : w.heap[X]? = some (.cells #[.slice y W.length cy, .int .i64 (st : Int)] 30 (0, 0))
  bs : Bs w y cy W
  tX : h X = 3
  ty : ∀ k, blk y = some k → h k = 3 ∧ k < w.heap.size ∧ k ≠ X
theorem RS.lt {w : World} {h : Nat → Nat} {X st : Nat} {W : List UInt8} {y : Option Addr} {cy : Nat} (r : RS w h X st W y cy) : X < w.heap.size := (Array.getElem?_eq_some_iff.1 r.row).1
/-- The reference's blocks stay. -/
theorem RS.same {w w' : World} {h h' : Nat → Nat} {X st : Nat} {W : List UInt8} {y : Option Addr} {cy : Nat} (r : RS w h X st W y cy) (hz : w.heap.size ≤ w'.heap.size) (hs : ∀ k, k < w.heap.size → h k = 3 → (k = X ∨ blk y = some k) → w'.heap[k]? = w.heap[k]?) (ht : ∀ k, k < w.heap.size → h k = 3 → h' k = 3) : RS w' h' X st W y cy :=
  ⟨(hs X r.lt r.tX (.inl rfl)).trans r.row, bs_samej r.bs (fun k hk => hs k (r.ty k hk).2.1 (r.ty k hk).1 (.inr hk)), ht X r.lt r.tX, fun k hk => ⟨ht k (r.ty k hk).2.1 (r.ty k hk).1, Nat.lt_of_lt_of_le (r.ty k hk).2.1 hz, (r.ty k hk).2.2⟩⟩
theorem RS.prog {w w' : World} {base : Nat} {h h' : Nat → Nat} {X st : Nat} {W : List UInt8} {y : Option Addr} {cy : Nat} (r : RS w h X st W y cy) (f : Fr base w w' h h') : RS w' h' X st W y cy :=
  r.same f.size (fun k _ hk _ => f.block k (by omega)) (fun k _ hk => by rw [f.tag k (by omega)]; exact hk)
theorem PS.kp {w w' : World} {base : Nat} {h : Nat → Nat} {P st X : Nat} {W : List UInt8} (p : PS w base h P st W) (hX : h X = 3) (hk : Kp w w' (fun k => k = X)) (hbs : base ≤ w.heap.size) : PS w' base (tag3 h w.heap.size w'.heap.size) P st W := by
  refine p.ours hk.size (fun k h1 h2 => hk.block k h1 (fun e => by have e : k = X := e; rw [e, hX] at h2; omega)) (fun k hk => by simp [tag3, hk]) (fun k h1 h2 => ?_)
  simp only [tag3] at h2
  rw [if_neg (by omega)] at h2
  split at h2
  · exact ⟨by omega, by assumption⟩
  · exact absurd rfl h2
set_option maxHeartbeats 1000000 in
theorem rfeed_ok (w : World) (X : Nat) (W : List UInt8) (y : Option Addr) (cy : Nat) (hr : w.heap[X]? = some (.cells #[.slice y W.length cy, .int .i64 0] 30 (0, 0))) (hy : Bs w y cy W) (a : Option Addr) (ca : Nat) (b : List UInt8) (hb : Bs w a ca b) (hl : W.length + b.length ≤ 65536) :
    Calls Tryz.prog 14 #[pt X, .slice a b.length ca] w fun e w' => e = .returned (.int .i64 0) ∧ ∃ y' cy', Hid (w'.heap[X]? = some (.cells #[.slice y' (W ++ b).length cy', .int .i64 0] 30 (0, 0))) ∧ Hid (Bs w' y' cy' (W ++ b) ∧ ∀ k, blk y' = some k → w.heap.size ≤ k ∧ k < w'.heap.size) ∧ Hid (Kp w w' (fun k => k = X)) := by
  have hX : X < w.heap.size := (Array.getElem?_eq_some_iff.1 hr).1
  have c0 : w.cell? ⟨X, 0, none⟩ = some (.slice y W.length cy) := cell_of_row _ _ _ _ _ _ hr
  have c1 : w.cell? ⟨X, 1, none⟩ = some (.int .i64 0) := cell_of_row _ _ _ _ _ _ hr
  have hg : ¬ (65536 : Int) < (W.length : Int) + (b.length : Int) := by omega
  have hw1 : W.length ≤ 65536 := by omega
  have hw2 : b.length ≤ 65536 := by omega
  have HY := hide (hy.row.alloc (.cells #[] 5))
  have HYZ := hide hy.nz
  have HB := hide hb
  have HR := hide hr
  have hE : Below w.heap.size w (w.alloc (.cells #[] 5)) := (Below.refl _ _).alloc (Nat.le_refl _) _
  have d0 : (w.alloc (.cells #[] 5)).cell? ⟨X, 0, none⟩ = some (.slice y W.length cy) := (hE.cell hX).trans c0
  clear hr hy hb hE
  go_enter Tryz.func14, Tryz.ntmps14
  go_wp2_with (first
    | (at_builtin; refine wp_app _ rfl _ _ rfl w.heap.size (some ⟨w.heap.size, 0, none⟩) 0 [] rfl (own_empty w _ (Nat.le_refl _)) y cy W _ rfl rfl (unhide HY) (unhide HYZ) ?c3 ?c4 ?_)
    | fail)
  case c3 => omega
  intro a2 cap2 r2 w2 hr2 ho2 hg2
  have hb2 : Below w.heap.size w w2 := below_grown (a := some ⟨w.heap.size, 0, none⟩) ((Below.refl _ _).alloc (Nat.le_refl _) _) hg2 (Nat.le_refl _) (fun k hk => by simp [blk] at hk; omega)
  have HR2 : Hid (r2 = W) := hr2
  have hr2l : r2.length ≤ 65536 := by rw [unhide HR2]; exact hw1
  have hr2s : r2.length + b.length ≤ 65536 := by rw [unhide HR2]; exact hl
  have HO2 := hide ho2
  have HB2 := hide hb2
  have HBs := hide ((unhide HB).below hb2 (Nat.le_refl _))
  clear hr2 hg2 ho2 hb2 HY HYZ HB c0 c1 d0
  go_wp2_with (first
    | (at_builtin; refine wp_app _ rfl _ _ rfl w.heap.size a2 cap2 r2 rfl (unhide HO2) a ca b _ rfl rfl (unhide HBs).row (unhide HBs).nz ?d3 ?d4 ?_)
    | fail)
  case d3 => omega
  case d4 => exact (unhide HB2).size
  intro a3 cap3 r3 w3 hr3 ho3 hg3
  have hb3 : Below w.heap.size w w3 := (unhide HB2).grown hg3 (unhide HB2).size (fun k hk => ((unhide HO2).lt k hk).1)
  have HR3 : Hid (r3 = W ++ b) := by have := hr3.out; rw [unhide HR2] at this; exact this
  have hrX := (hb3.block X hX).trans (unhide HR)
  have k0 : w3.cell? ⟨X, 0, none⟩ = some (.slice y W.length cy) := cell_of_row _ _ _ _ _ _ hrX
  have f0 := frozen_of_row w3 X 0 _ _ hrX
  obtain ⟨V, hV⟩ : ∃ V, V = w3.setCell ⟨X, 0, none⟩ (.slice a3 r3.length cap3) := ⟨_, rfl⟩
  have HF : Hid (V.heap[X]? = some (.cells #[.slice a3 (W ++ b).length cap3, .int .i64 0] 30 (0, 0)) ∧ (Bs V a3 cap3 (W ++ b) ∧ ∀ k, blk a3 = some k → w.heap.size ≤ k ∧ k < V.heap.size) ∧ Kp w V (fun k => k = X)) := by
    have hne : ∀ k, k ≠ X → V.heap[k]? = w3.heap[k]? := fun k hk => by rw [hV]; exact Below.heap_setCell _ _ _ k hk
    have hz : V.heap.size = w3.heap.size := by rw [hV]; simp [World.setCell]
    refine ⟨by rw [hV, heap_setCell_same _ _ 0 _ _ _ hrX, unhide HR3]; rfl, ⟨?_, fun k hk => ⟨(ho3.lt k hk).1, by rw [hz]; exact (ho3.lt k hk).2⟩⟩, ⟨by rw [hV]; exact hb3.os, by rw [hV]; exact hb3.tape, by rw [hV]; exact hb3.output, by rw [hz]; exact hb3.size, fun k h1 h2 => (hne k h2).trans (hb3.block k h1)⟩⟩
    rw [← unhide HR3]
    exact bs_samej ho3.toBs (fun k hk => hne k (fun e => by have := (ho3.lt k hk).1; omega))
  clear hrX hr3 ho3 hg3 hb3 HO2 HB2 HBs HR HR2 HR3
  go_wp2
  rw [← hV]
  go_ret
  exact ⟨rfl, a3, cap3, (unhide HF).1, (unhide HF).2.1, (unhide HF).2.2⟩
theorem rfeed_no (w : World) (X st : Nat) (n cy : Nat) (y : Option Addr) (hr : w.heap[X]? = some (.cells #[.slice y n cy, .int .i64 (st : Int)] 30 (0, 0))) (a : Option Addr) (ca m : Nat) (hn : n ≤ 65536) (hm : m ≤ 1000000) (E : Int) (hc : (st ≠ 0 ∧ E = 31) ∨ (st = 0 ∧ 65536 < n + m ∧ E = 7)) :
    Calls Tryz.prog 14 #[pt X, .slice a m ca] w fun e w' => e = .returned (.int .i64 E) ∧ w' = w := by
  have c0 : w.cell? ⟨X, 0, none⟩ = some (.slice y n cy) := cell_of_row _ _ _ _ _ _ hr
  have c1 : w.cell? ⟨X, 1, none⟩ = some (.int .i64 (st : Int)) := cell_of_row _ _ _ _ _ _ hr
  clear hr
  rcases hc with ⟨h1, rfl⟩ | ⟨rfl, h2, rfl⟩
  · have hs : ((st : Int) != 0) = true := by simp; omega
    clear h1
    go_enter Tryz.func14, Tryz.ntmps14
    go_wp2
    go_ret
    exact ⟨rfl, rfl⟩
  · have hg : (65536 : Int) < (n : Int) + (m : Int) := by omega
    have hs : (((0 : Nat) : Int) != 0) = false := by simp
    go_enter Tryz.func14, Tryz.ntmps14
    go_wp2
    go_ret
    exact ⟨rfl, rfl⟩
theorem rfeed_any (w : World) (h : Nat → Nat) (X st : Nat) (W : List UInt8) (y : Option Addr) (cy : Nat) (r : RS w h X st W y cy) (hW : W.length ≤ 65536) (a : Option Addr) (ca : Nat) (b : List UInt8) (hb : Bs w a ca b) (hbl : b.length ≤ 1000000) :
    Calls Tryz.prog 14 #[pt X, .slice a b.length ca] w fun e w' => ∃ E : Nat, e = .returned (.int .i64 (E : Int)) ∧ Hid (E = feE st W b) ∧ Hid (∃ y' cy', RS w' (tag3 h w.heap.size w'.heap.size) X st (feW st W b) y' cy') ∧ Hid (Kp w w' (fun k => k = X)) := by
  have hno : ∀ E : Nat, feE st W b = E → E ≠ 0 → feW st W b = W := fun E e h0 => by unfold feW; rw [e, if_neg h0]
  have stay : RS w (tag3 h w.heap.size w.heap.size) X st W y cy := r.same (Nat.le_refl _) (fun _ _ _ _ => rfl) (fun k hk h3 => by simp [tag3, hk, h3])
  by_cases hs : st = 0
  · subst hs
    by_cases hl : 65536 < W.length + b.length
    · have e : feE 0 W b = 7 := by simp [feE, hl]
      refine (rfeed_no w X 0 W.length cy y r.row a ca b.length hW hbl 7 (.inr ⟨rfl, hl, rfl⟩)).mono ?_
      rintro e' w' ⟨rfl, rfl⟩
      exact ⟨7, rfl, e.symm, ⟨y, cy, by rw [hno 7 e (by decide)]; exact stay⟩, Kp.of (Below.refl _ _)⟩
    · have e : feE 0 W b = 0 := by simp [feE, hl]
      have e2 : feW 0 W b = W ++ b := by unfold feW; rw [e, if_pos rfl]
      refine (rfeed_ok w X W y cy r.row r.bs a ca b hb (by omega)).mono ?_
      rintro e' w' ⟨rfl, y', cy', k1, k2, k3⟩
      refine ⟨0, rfl, e.symm, ⟨y', cy', ?_⟩, k3⟩
      rw [e2]
      refine ⟨unhide k1, (unhide k2).1, by simp [tag3, r.lt, r.tX], fun k hk => ?_⟩
      have h1 := (unhide k2).2 k hk
      have h2 := r.lt
      refine ⟨?_, h1.2, by omega⟩
      simp only [tag3]
      rw [if_neg (by omega), if_pos h1.2]
  · have e : feE st W b = 31 := by simp [feE, hs]
    refine (rfeed_no w X st W.length cy y r.row a ca b.length hW hbl 31 (.inl ⟨hs, rfl⟩)).mono ?_
    rintro e' w' ⟨rfl, rfl⟩
    exact ⟨31, rfl, e.symm, ⟨y, cy, by rw [hno 31 e (by decide)]; exact stay⟩, Kp.of (Below.refl _ _)⟩
#print axioms rfeed_any
end Go.Proofs.YtonaekkenggmbaaGreatDoor
end
section
set_option linter.unusedVariables false
set_option maxRecDepth 1000000
namespace Go.Proofs.YtonaekkenggmbaaGreatDoor
open Go.RowKit

set_option maxHeartbeats 1000000 in
theorem rnext_f (w : World) (X st n cy : Nat) (y : Option Addr) (hr : w.heap[X]? = some (.cells #[.slice y n cy, .int .i64 (st : Int)] 30 (0, 0))) (hs0 : st ≠ 0) :
    Calls Tryz.prog 16 #[pt X] w fun e w' => e = .returned (.tuple #[.agg #[.string ⟨#[]⟩, .string ⟨#[]⟩, .slice none 0 0, .slice none 0 0], .int .i64 (st : Int)]) ∧ Hid (Below w.heap.size w w') := by
  have hXl : X < w.heap.size := (Array.getElem?_eq_some_iff.1 hr).1
  obtain ⟨o, ho⟩ : ∃ o, o = Obj.cells #[.string ⟨#[]⟩, .string ⟨#[]⟩, .slice none 0 0, .slice none 0 0] 39 := ⟨_, rfl⟩
  have hbA : Below w.heap.size w (w.alloc o) := (Below.refl _ _).alloc (Nat.le_refl _) _
  have hrA := (hbA.block X hXl).trans hr
  have hrZ : (w.alloc o).heap[w.heap.size]? = some (.cells #[.string ⟨#[]⟩, .string ⟨#[]⟩, .slice none 0 0, .slice none 0 0] 39 (0, 0)) := by rw [ho]; exact heap_alloc_new w _
  obtain ⟨V, hV⟩ : ∃ V, V = w.alloc o := ⟨_, rfl⟩
  rw [← hV] at hbA hrA hrZ
  rw [ho] at hV
  have c1 : V.cell? ⟨X, 1, none⟩ = some (.int .i64 (st : Int)) := cell_of_row _ _ _ _ _ _ hrA
  have z0 : V.cell? ⟨w.heap.size, 0, none⟩ = some (.string ⟨#[]⟩) := cell_of_row _ _ _ _ _ _ hrZ
  have f0 := frozen_of_row V w.heap.size 0 _ _ hrZ
  have z1 : V.cell? ⟨w.heap.size, 1, none⟩ = some (.string ⟨#[]⟩) := cell_of_row _ _ _ _ _ _ hrZ
  have f1 := frozen_of_row V w.heap.size 1 _ _ hrZ
  have z2 : V.cell? ⟨w.heap.size, 2, none⟩ = some (.slice none 0 0) := cell_of_row _ _ _ _ _ _ hrZ
  have f2 := frozen_of_row V w.heap.size 2 _ _ hrZ
  have z3 : V.cell? ⟨w.heap.size, 3, none⟩ = some (.slice none 0 0) := cell_of_row _ _ _ _ _ _ hrZ
  have f3 := frozen_of_row V w.heap.size 3 _ _ hrZ
  have hs : ((st : Int) != 0) = true := by simp; omega
  obtain ⟨W, hW⟩ : ∃ W, W = (((V.setCell ⟨w.heap.size, 0, none⟩ (.string ⟨#[]⟩)).setCell ⟨w.heap.size, 1, none⟩ (.string ⟨#[]⟩)).setCell ⟨w.heap.size, 2, none⟩ (.slice none 0 0)).setCell ⟨w.heap.size, 3, none⟩ (.slice none 0 0) := ⟨_, rfl⟩
  obtain ⟨s1, s2⟩ := set4 V w.heap.size _ _ _ _ (.string ⟨#[]⟩) (.string ⟨#[]⟩) (.slice none 0 0) (.slice none 0 0) _ hrZ
  rw [← hW] at s1 s2
  have q0 : W.cell? ⟨w.heap.size, 0, none⟩ = some (.string ⟨#[]⟩) := cell_of_row _ _ _ _ _ _ s1
  have q1 : W.cell? ⟨w.heap.size, 1, none⟩ = some (.string ⟨#[]⟩) := cell_of_row _ _ _ _ _ _ s1
  have q2 : W.cell? ⟨w.heap.size, 2, none⟩ = some (.slice none 0 0) := cell_of_row _ _ _ _ _ _ s1
  have q3 : W.cell? ⟨w.heap.size, 3, none⟩ = some (.slice none 0 0) := cell_of_row _ _ _ _ _ _ s1
  have HF : Hid (Below w.heap.size w W.drew) := by
    refine Below.drew ⟨by rw [hW]; exact hbA.os, by rw [hW]; exact hbA.tape, by rw [hW]; exact hbA.output, by rw [hW]; simp [World.setCell]; exact hbA.size, fun k hk => (s2 k (by omega)).trans (hbA.block k hk)⟩
  clear s1 s2 hr hrA hrZ hbA ho hs0 o
  go_enter Tryz.func16, Tryz.ntmps16
  go_upto_region 1 with fail
  rw [← hV]
  clear hV
  go_upto_region 2 with fail
  go_region
  rw [← hW]
  clear hW z0 z1 z2 z3 f0 f1 f2 f3 c1
  go_wp2
  refine bodyPost_ret (v := .tuple #[.agg #[.string ⟨#[]⟩, .string ⟨#[]⟩, .slice none 0 0, .slice none 0 0], .int .i64 (st : Int)]) (by simp [results, Tryz.results16, go_sem, q0, q1, q2, q3]) rfl ⟨rfl, HF⟩
#print axioms rnext_f
theorem pM_le9 (W : List UInt8) : (pM W).2.1 ≤ W.length := by
  rw [pM_run0]
  split
  · exact run0_le W
  · exact Nat.zero_le _
/-- What Next leaves of the reference's parser. -/
def Rn (w w' : World) (X st : Nat) (W : List UInt8) (Q : Rq) (hp : Option Addr) (bp : Option Addr) (bc : Nat) (y' : Option Addr) (cy' : Nat) (y : Option Addr) : Prop :=
  w'.heap[X]? = some (.cells #[.slice y' (nxW 0 W).length cy', .int .i64 (nxT 0 W : Int)] 30 (0, 0)) ∧ Bs w' y' cy' (nxW 0 W) ∧ (∀ k, blk y' = some k → blk y = some k) ∧ Kp w w' (fun k => k = X) ∧ HdR w' hp Q.h ∧ Bs w' bp bc Q.b ∧ (∀ k, blk hp = some k → w.heap.size ≤ k) ∧ (∀ k, blk bp = some k → w.heap.size ≤ k)
set_option maxHeartbeats 4000000 in
theorem rnext_0 (w : World) (X cy : Nat) (y : Option Addr) (W : List UInt8) (hr : w.heap[X]? = some (.cells #[.slice y W.length cy, .int .i64 0] 30 (0, 0))) (hy : Bs w y cy W) (hyX : ∀ k, blk y = some k → k ≠ X ∧ k < w.heap.size) (hWl : W.length ≤ 65536) :
    Calls Tryz.prog 16 #[pt X] w fun e w' => ∃ (Q : Rq) (hp : Option Addr) (hc : Nat) (bp : Option Addr) (bc S : Nat) (y' : Option Addr) (cy' : Nat), e = .returned (.tuple #[.agg #[.string (str Q.m), .string (str Q.p), .slice hp Q.h.length hc, .slice bp Q.b.length bc], .int .i64 (S : Int)]) ∧ Hid (Q = nxQ 0 W ∧ S = nxS 0 W) ∧ Hid (Rn w w' X S W Q hp bp bc y' cy' y) := by
  have hXl : X < w.heap.size := (Array.getElem?_eq_some_iff.1 hr).1
  obtain ⟨o, ho⟩ : ∃ o, o = Obj.cells #[.string ⟨#[]⟩, .string ⟨#[]⟩, .slice none 0 0, .slice none 0 0] 39 := ⟨_, rfl⟩
  have hbA : Below w.heap.size w (w.alloc o) := (Below.refl _ _).alloc (Nat.le_refl _) _
  have hrA := (hbA.block X hXl).trans hr
  have hrZ : (w.alloc o).heap[w.heap.size]? = some (.cells #[.string ⟨#[]⟩, .string ⟨#[]⟩, .slice none 0 0, .slice none 0 0] 39 (0, 0)) := by rw [ho]; exact heap_alloc_new w _
  obtain ⟨V, hV⟩ : ∃ V, V = w.alloc o := ⟨_, rfl⟩
  rw [← hV] at hbA hrA hrZ
  rw [ho] at hV
  have hzV : w.heap.size < V.heap.size := (Array.getElem?_eq_some_iff.1 hrZ).1
  have c0 : V.cell? ⟨X, 0, none⟩ = some (.slice y W.length cy) := cell_of_row _ _ _ _ _ _ hrA
  have c1 : V.cell? ⟨X, 1, none⟩ = some (.int .i64 0) := cell_of_row _ _ _ _ _ _ hrA
  have HP := hide (rparse_new y cy W V (hy.below hbA (Nat.le_refl _)) (by omega))
  rw [rp_pM] at HP
  obtain ⟨x, hx⟩ : ∃ x, x = pM W := ⟨_, rfl⟩
  rw [← hx] at HP
  have hnl : x.2.1 ≤ W.length := by rw [hx]; exact pM_le9 W
  have HX : Hid (nxQ 0 W = x.1 ∧ nxS 0 W = x.2.2 ∧ (¬ 1 < x.2.2 → nxT 0 W = 0 ∧ nxW 0 W = W.drop x.2.1) ∧ (1 < x.2.2 → nxT 0 W = x.2.2 ∧ nxW 0 W = [])) := by
    rw [hx]
    refine ⟨rfl, rfl, fun h => ⟨?_, ?_⟩, fun h => ⟨?_, ?_⟩⟩
    · simp only [nxT]; rw [if_neg (by simp), if_neg h]
    · simp only [nxW]; rw [if_neg (by simp), if_neg h]
    · simp only [nxT]; rw [if_neg (by simp), if_pos h]
    · simp only [nxW]; rw [if_neg (by simp), if_pos h]
  obtain ⟨Q, n, st⟩ := x
  simp only at HP hnl HX
  clear hx
  have HBA := hide hbA
  have HRA := hide (And.intro hrA hrZ)
  have HY := hide (And.intro hy hyX)
  clear hr hrA hrZ hbA ho hy hyX o
  go_enter Tryz.func16, Tryz.ntmps16
  go_upto_region 1 with fail
  rw [← hV]
  clear hV
  go_wp2_with fail
  refine (unhide HP).mono ?_
  rintro e w1 ⟨hp, hc, bp, bc, rfl, HQ, HB1⟩
  clear HP c0 c1
  obtain ⟨o, ho⟩ : ∃ o, o = Obj.cells #[.string (str Q.m), .string (str Q.p), .slice hp Q.h.length hc, .slice bp Q.b.length bc] 39 := ⟨_, rfl⟩
  have hb2 : Below w1.heap.size w1 (w1.alloc o) := (Below.refl _ _).alloc (Nat.le_refl _) _
  have hbV2 : Below V.heap.size V (w1.alloc o) := (unhide HB1).trans (hb2.mono (unhide HB1).size)
  have hbw2 : Below w.heap.size w (w1.alloc o) := (unhide HBA).trans (hbV2.mono (unhide HBA).size)
  have hrX2 := (hbV2.block X (Nat.lt_trans hXl hzV)).trans (unhide HRA).1
  have hrR2 := (hbV2.block w.heap.size hzV).trans (unhide HRA).2
  have hrG2 : (w1.alloc o).heap[w1.heap.size]? = some (.cells #[.string (str Q.m), .string (str Q.p), .slice hp Q.h.length hc, .slice bp Q.b.length bc] 39 (0, 0)) := by rw [ho]; exact heap_alloc_new w1 _
  have hG : w.heap.size < w1.heap.size := Nat.lt_of_lt_of_le hzV (unhide HB1).size
  have HQ2 : Hid (HdR (w1.alloc o) hp Q.h ∧ Bs (w1.alloc o) bp bc Q.b ∧ (∀ k, blk hp = some k → w.heap.size < k) ∧ (∀ k, blk bp = some k → w.heap.size < k)) := ⟨(unhide HQ).1.1.below hb2 (Nat.le_refl _), (unhide HQ).1.2.below hb2 (Nat.le_refl _), fun k hk => Nat.lt_of_lt_of_le hzV ((unhide HQ).2.1 k hk), fun k hk => Nat.lt_of_lt_of_le hzV ((unhide HQ).2.2 k hk)⟩
  have HY2 := hide ((unhide HY).1.below hbw2 (Nat.le_refl _))
  obtain ⟨w2, hw2⟩ : ∃ w2, w2 = w1.alloc o := ⟨_, rfl⟩
  rw [← hw2] at hbw2 hrX2 hrR2 hrG2 HQ2 HY2
  rw [ho] at hw2
  clear ho hb2 hbV2 HQ HB1 HBA HRA o
  have x0 : w2.cell? ⟨X, 0, none⟩ = some (.slice y W.length cy) := cell_of_row _ _ _ _ _ _ hrX2
  have g0 := frozen_of_row w2 X 0 _ _ hrX2
  have x1 : w2.cell? ⟨X, 1, none⟩ = some (.int .i64 0) := cell_of_row _ _ _ _ _ _ hrX2
  have g1 := frozen_of_row w2 X 1 _ _ hrX2
  obtain ⟨y', hcut, hyB, hyk⟩ := cut_tail y cy n W (unhide HY).1.le hnl (fun hne => by obtain ⟨b, off, e, _⟩ := (unhide HY).1.row hne; exact ⟨b, off, e⟩)
  have HYB := hide hyB
  have HYK := hide hyk
  clear hyB hyk
  go_upto_region 4 with fail
  rw [← hw2]
  clear hw2
  by_cases hs : 1 < st
  · obtain ⟨w4, hw4⟩ : ∃ w4, w4 = ((w2.setCell ⟨X, 0, none⟩ (.slice y' (W.length - n) (cy - n))).setCell ⟨X, 1, none⟩ (.int .i64 (st : Int))).setCell ⟨X, 0, none⟩ (.slice none 0 0) := ⟨_, rfl⟩
    have hs' : (1 : Int) < (st : Int) := by omega
    have hrX4 : w4.heap[X]? = some (.cells #[.slice none 0 0, .int .i64 (st : Int)] 30 (0, 0)) := by rw [hw4, heap_setCell_same _ _ 0 _ _ _ (heap_setCell_same _ _ 1 _ _ _ (heap_setCell_same _ _ 0 _ _ _ hrX2))]; rfl
    have hne4 : ∀ k, k ≠ X → w4.heap[k]? = w2.heap[k]? := fun k hk => by rw [hw4, Below.heap_setCell _ ⟨X, 0, none⟩ _ k hk, Below.heap_setCell _ ⟨X, 1, none⟩ _ k hk, Below.heap_setCell _ ⟨X, 0, none⟩ _ k hk]
    have hk4 : Kp w w4 (fun k => k = X) := ⟨by rw [hw4]; exact hbw2.os, by rw [hw4]; exact hbw2.tape, by rw [hw4]; exact hbw2.output, by rw [hw4]; simp [World.setCell]; exact hbw2.size, fun k h1 h2 => (hne4 k h2).trans (hbw2.block k h1)⟩
    obtain ⟨yF, cF, hF⟩ : ∃ yF : Option Addr, ∃ cF : Nat, w4.heap[X]? = some (.cells #[.slice yF (nxW 0 W).length cF, .int .i64 (nxT 0 W : Int)] 30 (0, 0)) ∧ Bs w4 yF cF (nxW 0 W) ∧ (∀ k, blk yF = some k → blk y = some k) := by
      obtain ⟨t1, t2⟩ := (unhide HX).2.2.2 hs
      refine ⟨none, 0, ?_, ?_, fun k hk => by simp [blk] at hk⟩
      · rw [t1, t2]; exact hrX4
      · rw [t2]; exact bs_none _
    have hrR4 := (hne4 w.heap.size (by omega)).trans hrR2
    have hrG4 := (hne4 w1.heap.size (by omega)).trans hrG2
    have z0 : w4.cell? ⟨w.heap.size, 0, none⟩ = some (.string ⟨#[]⟩) := cell_of_row _ _ _ _ _ _ hrR4
    have f0 := frozen_of_row w4 w.heap.size 0 _ _ hrR4
    have z1 : w4.cell? ⟨w.heap.size, 1, none⟩ = some (.string ⟨#[]⟩) := cell_of_row _ _ _ _ _ _ hrR4
    have f1 := frozen_of_row w4 w.heap.size 1 _ _ hrR4
    have z2 : w4.cell? ⟨w.heap.size, 2, none⟩ = some (.slice none 0 0) := cell_of_row _ _ _ _ _ _ hrR4
    have f2 := frozen_of_row w4 w.heap.size 2 _ _ hrR4
    have z3 : w4.cell? ⟨w.heap.size, 3, none⟩ = some (.slice none 0 0) := cell_of_row _ _ _ _ _ _ hrR4
    have f3 := frozen_of_row w4 w.heap.size 3 _ _ hrR4
    have p0 : w4.cell? ⟨w1.heap.size, 0, none⟩ = some (.string (str Q.m)) := cell_of_row _ _ _ _ _ _ hrG4
    have p1 : w4.cell? ⟨w1.heap.size, 1, none⟩ = some (.string (str Q.p)) := cell_of_row _ _ _ _ _ _ hrG4
    have p2 : w4.cell? ⟨w1.heap.size, 2, none⟩ = some (.slice hp Q.h.length hc) := cell_of_row _ _ _ _ _ _ hrG4
    have p3 : w4.cell? ⟨w1.heap.size, 3, none⟩ = some (.slice bp Q.b.length bc) := cell_of_row _ _ _ _ _ _ hrG4
    obtain ⟨W5, hW⟩ : ∃ W, W = (((w4.setCell ⟨w.heap.size, 0, none⟩ (.string (str Q.m))).setCell ⟨w.heap.size, 1, none⟩ (.string (str Q.p))).setCell ⟨w.heap.size, 2, none⟩ (.slice hp Q.h.length hc)).setCell ⟨w.heap.size, 3, none⟩ (.slice bp Q.b.length bc) := ⟨_, rfl⟩
    obtain ⟨s1, s2⟩ := set4 w4 w.heap.size _ _ _ _ (.string (str Q.m)) (.string (str Q.p)) (.slice hp Q.h.length hc) (.slice bp Q.b.length bc) _ hrR4
    rw [← hW] at s1 s2
    have q0 : W5.cell? ⟨w.heap.size, 0, none⟩ = some (.string (str Q.m)) := cell_of_row _ _ _ _ _ _ s1
    have q1 : W5.cell? ⟨w.heap.size, 1, none⟩ = some (.string (str Q.p)) := cell_of_row _ _ _ _ _ _ s1
    have q2 : W5.cell? ⟨w.heap.size, 2, none⟩ = some (.slice hp Q.h.length hc) := cell_of_row _ _ _ _ _ _ s1
    have q3 : W5.cell? ⟨w.heap.size, 3, none⟩ = some (.slice bp Q.b.length bc) := cell_of_row _ _ _ _ _ _ s1
    have HE : Hid (Q = nxQ 0 W ∧ st = nxS 0 W) := ⟨(unhide HX).1.symm, (unhide HX).2.1.symm⟩
    have HF : Hid (Rn w W5 X st W Q hp bp bc yF cF y) := by
      obtain ⟨k1, k2, k3⟩ := hF
      obtain ⟨m1, m2, m3, m4⟩ := unhide HQ2
      have hXR : X ≠ w.heap.size := by omega
      have hzR : ∀ k, blk yF = some k → k ≠ w.heap.size := fun k hk e => by
        have h1 := k3 k hk
        have h2 := ((unhide HY).2 k h1).2
        omega
      refine ⟨(s2 X hXR).trans k1, bs_samej k2 (fun k hk => s2 k (hzR k hk)), k3, ⟨by rw [hW]; exact hk4.os, by rw [hW]; exact hk4.tape, by rw [hW]; exact hk4.output, by rw [hW]; simp [World.setCell]; exact hk4.size, fun k h1 h2 => (s2 k (by omega)).trans (hk4.block k h1 h2)⟩, ?_, ?_, fun k hk => Nat.le_of_lt (m3 k hk), fun k hk => Nat.le_of_lt (m4 k hk)⟩
      · exact m1.same (fun k hk _ => by rw [s2 k (by have := m3 k hk; omega), hne4 k (by have := m3 k hk; omega)])
      · exact bs_samej m2 (fun k hk => by rw [s2 k (by have := m4 k hk; omega), hne4 k (by have := m4 k hk; omega)])
    clear s1 s2 hrX4 hne4 hk4 hF hrR4 hrG4 hrX2 hrR2 hrG2 hbw2
    go_upto_region 8 with fail
    rw [← hw4]
    clear hw4 x0 g0 x1 g1 hcut
    go_wp2
    rw [← hW]
    refine bodyPost_ret (v := .tuple #[.agg #[.string (str Q.m), .string (str Q.p), .slice hp Q.h.length hc, .slice bp Q.b.length bc], .int .i64 (st : Int)]) (by simp [results, Tryz.results16, go_sem, q0, q1, q2, q3]) rfl (by first | exact ⟨Q, hp, hc, bp, bc, st, yF, cF, rfl, HE, HF⟩ | exact ⟨Q, hp, hc, bp, bc, st, rfl, HE, yF, cF, HF⟩)
  · obtain ⟨w4, hw4⟩ : ∃ w4, w4 = w2.setCell ⟨X, 0, none⟩ (.slice y' (W.length - n) (cy - n)) := ⟨_, rfl⟩
    have hs' : ¬ (1 : Int) < (st : Int) := by omega
    have hrX4 : w4.heap[X]? = some (.cells #[.slice y' (W.length - n) (cy - n), .int .i64 0] 30 (0, 0)) := by rw [hw4, heap_setCell_same _ _ 0 _ _ _ hrX2]; rfl
    have hne4 : ∀ k, k ≠ X → w4.heap[k]? = w2.heap[k]? := fun k hk => by rw [hw4, Below.heap_setCell _ ⟨X, 0, none⟩ _ k hk]
    have hk4 : Kp w w4 (fun k => k = X) := ⟨by rw [hw4]; exact hbw2.os, by rw [hw4]; exact hbw2.tape, by rw [hw4]; exact hbw2.output, by rw [hw4]; simp [World.setCell]; exact hbw2.size, fun k h1 h2 => (hne4 k h2).trans (hbw2.block k h1)⟩
    obtain ⟨yF, cF, hF⟩ : ∃ yF : Option Addr, ∃ cF : Nat, w4.heap[X]? = some (.cells #[.slice yF (nxW 0 W).length cF, .int .i64 (nxT 0 W : Int)] 30 (0, 0)) ∧ Bs w4 yF cF (nxW 0 W) ∧ (∀ k, blk yF = some k → blk y = some k) := by
      obtain ⟨t1, t2⟩ := (unhide HX).2.2.1 hs
      refine ⟨y', cy - n, ?_, ?_, fun k hk => by rw [unhide HYK] at hk; exact hk⟩
      · rw [t1, t2, List.length_drop]; exact hrX4
      · rw [t2]
        exact bs_samej (unhide HYB _ (unhide HY2)) (fun k hk => hne4 k ((unhide HY).2 k (by rw [unhide HYK] at hk; exact hk)).1)
    have hrR4 := (hne4 w.heap.size (by omega)).trans hrR2
    have hrG4 := (hne4 w1.heap.size (by omega)).trans hrG2
    have z0 : w4.cell? ⟨w.heap.size, 0, none⟩ = some (.string ⟨#[]⟩) := cell_of_row _ _ _ _ _ _ hrR4
    have f0 := frozen_of_row w4 w.heap.size 0 _ _ hrR4
    have z1 : w4.cell? ⟨w.heap.size, 1, none⟩ = some (.string ⟨#[]⟩) := cell_of_row _ _ _ _ _ _ hrR4
    have f1 := frozen_of_row w4 w.heap.size 1 _ _ hrR4
    have z2 : w4.cell? ⟨w.heap.size, 2, none⟩ = some (.slice none 0 0) := cell_of_row _ _ _ _ _ _ hrR4
    have f2 := frozen_of_row w4 w.heap.size 2 _ _ hrR4
    have z3 : w4.cell? ⟨w.heap.size, 3, none⟩ = some (.slice none 0 0) := cell_of_row _ _ _ _ _ _ hrR4
    have f3 := frozen_of_row w4 w.heap.size 3 _ _ hrR4
    have p0 : w4.cell? ⟨w1.heap.size, 0, none⟩ = some (.string (str Q.m)) := cell_of_row _ _ _ _ _ _ hrG4
    have p1 : w4.cell? ⟨w1.heap.size, 1, none⟩ = some (.string (str Q.p)) := cell_of_row _ _ _ _ _ _ hrG4
    have p2 : w4.cell? ⟨w1.heap.size, 2, none⟩ = some (.slice hp Q.h.length hc) := cell_of_row _ _ _ _ _ _ hrG4
    have p3 : w4.cell? ⟨w1.heap.size, 3, none⟩ = some (.slice bp Q.b.length bc) := cell_of_row _ _ _ _ _ _ hrG4
    obtain ⟨W5, hW⟩ : ∃ W, W = (((w4.setCell ⟨w.heap.size, 0, none⟩ (.string (str Q.m))).setCell ⟨w.heap.size, 1, none⟩ (.string (str Q.p))).setCell ⟨w.heap.size, 2, none⟩ (.slice hp Q.h.length hc)).setCell ⟨w.heap.size, 3, none⟩ (.slice bp Q.b.length bc) := ⟨_, rfl⟩
    obtain ⟨s1, s2⟩ := set4 w4 w.heap.size _ _ _ _ (.string (str Q.m)) (.string (str Q.p)) (.slice hp Q.h.length hc) (.slice bp Q.b.length bc) _ hrR4
    rw [← hW] at s1 s2
    have q0 : W5.cell? ⟨w.heap.size, 0, none⟩ = some (.string (str Q.m)) := cell_of_row _ _ _ _ _ _ s1
    have q1 : W5.cell? ⟨w.heap.size, 1, none⟩ = some (.string (str Q.p)) := cell_of_row _ _ _ _ _ _ s1
    have q2 : W5.cell? ⟨w.heap.size, 2, none⟩ = some (.slice hp Q.h.length hc) := cell_of_row _ _ _ _ _ _ s1
    have q3 : W5.cell? ⟨w.heap.size, 3, none⟩ = some (.slice bp Q.b.length bc) := cell_of_row _ _ _ _ _ _ s1
    have HE : Hid (Q = nxQ 0 W ∧ st = nxS 0 W) := ⟨(unhide HX).1.symm, (unhide HX).2.1.symm⟩
    have HF : Hid (Rn w W5 X st W Q hp bp bc yF cF y) := by
      obtain ⟨k1, k2, k3⟩ := hF
      obtain ⟨m1, m2, m3, m4⟩ := unhide HQ2
      have hXR : X ≠ w.heap.size := by omega
      have hzR : ∀ k, blk yF = some k → k ≠ w.heap.size := fun k hk e => by
        have h1 := k3 k hk
        have h2 := ((unhide HY).2 k h1).2
        omega
      refine ⟨(s2 X hXR).trans k1, bs_samej k2 (fun k hk => s2 k (hzR k hk)), k3, ⟨by rw [hW]; exact hk4.os, by rw [hW]; exact hk4.tape, by rw [hW]; exact hk4.output, by rw [hW]; simp [World.setCell]; exact hk4.size, fun k h1 h2 => (s2 k (by omega)).trans (hk4.block k h1 h2)⟩, ?_, ?_, fun k hk => Nat.le_of_lt (m3 k hk), fun k hk => Nat.le_of_lt (m4 k hk)⟩
      · exact m1.same (fun k hk _ => by rw [s2 k (by have := m3 k hk; omega), hne4 k (by have := m3 k hk; omega)])
      · exact bs_samej m2 (fun k hk => by rw [s2 k (by have := m4 k hk; omega), hne4 k (by have := m4 k hk; omega)])
    clear s1 s2 hrX4 hne4 hk4 hF hrR4 hrG4 hrX2 hrR2 hrG2 hbw2
    go_upto_region 8 with fail
    rw [← hw4]
    clear hw4 x0 g0 x1 g1 hcut
    go_wp2
    rw [← hW]
    refine bodyPost_ret (v := .tuple #[.agg #[.string (str Q.m), .string (str Q.p), .slice hp Q.h.length hc, .slice bp Q.b.length bc], .int .i64 (st : Int)]) (by simp [results, Tryz.results16, go_sem, q0, q1, q2, q3]) rfl (by first | exact ⟨Q, hp, hc, bp, bc, st, yF, cF, rfl, HE, HF⟩ | exact ⟨Q, hp, hc, bp, bc, st, rfl, HE, yF, cF, HF⟩)
#print axioms rnext_0
theorem rnext_any (w : World) (h : Nat → Nat) (X st : Nat) (W : List UInt8) (y : Option Addr) (cy : Nat) (r : RS w h X st W y cy) (hst : st ≠ 0 → W = []) (hW : W.length ≤ 65536) :
    Calls Tryz.prog 16 #[pt X] w fun e w' => ∃ (Q : Rq) (hp : Option Addr) (hc : Nat) (bp : Option Addr) (bc S : Nat), e = .returned (.tuple #[.agg #[.string (str Q.m), .string (str Q.p), .slice hp Q.h.length hc, .slice bp Q.b.length bc], .int .i64 (S : Int)]) ∧ Hid (Q = nxQ st W ∧ S = nxS st W) ∧ Hid (HdR w' hp Q.h ∧ Bs w' bp bc Q.b) ∧ Hid (∃ y' cy', RS w' (tag3 h w.heap.size w'.heap.size) X (nxT st W) (nxW st W) y' cy') ∧ Hid (Kp w w' (fun k => k = X)) := by
  by_cases hs : st = 0
  · subst hs
    refine (rnext_0 w X cy y W r.row r.bs (fun k hk => ⟨(r.ty k hk).2.2, (r.ty k hk).2.1⟩) hW).mono ?_
    rintro e w' ⟨Q, hp, hc, bp, bc, S, y', cy', rfl, HE, HR⟩
    obtain ⟨k1, k2, k3, k4, k5, k6, k7, k8⟩ := unhide HR
    refine ⟨Q, hp, hc, bp, bc, S, rfl, HE, ⟨k5, k6⟩, ⟨y', cy', k1, k2, by simp [tag3, r.lt, r.tX], fun k hk => ?_⟩, k4⟩
    obtain ⟨t1, t2, t3⟩ := r.ty k (k3 k hk)
    exact ⟨by simp [tag3, t2, t1], Nat.lt_of_lt_of_le t2 k4.size, t3⟩
  · obtain rfl := hst hs
    refine (rnext_f w X st _ cy y r.row hs).mono ?_
    rintro e w' ⟨rfl, HB⟩
    have q1 : nxQ st [] = Rq.nil := by simp only [nxQ]; rw [if_pos hs]
    have q2 : nxS st [] = st := by simp only [nxS]; rw [if_pos hs]
    have q3 : nxT st [] = st := by simp only [nxT]; rw [if_pos hs]
    have q4 : nxW st [] = [] := by simp only [nxW]; rw [if_pos hs]
    refine ⟨Rq.nil, none, 0, none, 0, st, rfl, ⟨q1.symm, q2.symm⟩, ⟨⟨fun hne => absurd rfl hne, by simp [Rq.nil]⟩, bs_none _⟩, ⟨y, cy, ?_⟩, Kp.of (unhide HB)⟩
    rw [q3, q4]
    exact r.same (unhide HB).size (fun k hk _ _ => (unhide HB).block k hk) (fun k hk h3 => by simp [tag3, hk, h3])
#print axioms rnext_any
end Go.Proofs.YtonaekkenggmbaaGreatDoor
end
