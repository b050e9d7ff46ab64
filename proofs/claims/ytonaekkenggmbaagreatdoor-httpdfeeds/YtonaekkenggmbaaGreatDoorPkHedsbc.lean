/-
  httpd's Parser in memory: what it holds, whose each block is; unmade, goOn, New, Waiting.; httpd's Parser: unmade, New, goOn, Feed.
-/
import Derived.Test.YtonaekkenggmbaaGreatDoorPkHedsbb
import Derived.Test.YtonaekkenggmbaaGreatDoorPkHedsav
import Derived.Test.YtonaekkenggmbaaGreatDoorPkHedsay
section
set_option linter.unusedVariables false
set_option maxRecDepth 1000000
namespace Go.Proofs.YtonaekkenggmbaaGreatDoor
open Go.RowKit

/-- What stays: all that was there ahead of 'base', and all blocks of the tags from 3 on. (1: the parser, 2: what waits, 0: nobody's, or the reader's.) -/
structure Fr (base : Nat) (w w' : World) (h h' : Nat → Nat) : Prop where
  os : w'.os = w.os
  tape : w'.tape = w.tape
  output : w'.output = w.output
  size : w.heap.size ≤ w'.heap.size
  low : ∀ k, k < base → w'.heap[k]? = w.heap[k]?
  block : ∀ k, 3 ≤ h k → w'.heap[k]? = w.heap[k]?
  tag : ∀ k, h k ≠ 0 → h' k = h k
theorem Fr.refl (base : Nat) (w : World) (h : Nat → Nat) : Fr base w w h h := ⟨rfl, rfl, rfl, Nat.le_refl _, fun _ _ => rfl, fun _ _ => rfl, fun _ _ => rfl⟩
theorem Fr.trans {base : Nat} {a b c : World} {h h1 h2 : Nat → Nat} (p : Fr base a b h h1) (q : Fr base b c h1 h2) : Fr base a c h h2 :=
  ⟨q.os.trans p.os, q.tape.trans p.tape, q.output.trans p.output, Nat.le_trans p.size q.size, fun k hk => (q.low k hk).trans (p.low k hk),
    fun k hk => (q.block k (by rw [p.tag k (by omega)]; exact hk)).trans (p.block k hk), fun k hk => (q.tag k (by rw [p.tag k hk]; exact hk)).trans (p.tag k hk)⟩
theorem Fr.below {base : Nat} {w w' : World} {h h' : Nat → Nat} (p : Fr base w w' h h') : Below base w w' := ⟨p.os, p.tape, p.output, p.size, p.low⟩
/-- Blocks that are only made. -/
theorem Fr.ofBelow {base : Nat} {w w' : World} {h h' : Nat → Nat} (hb : Below w.heap.size w w') (hbs : base ≤ w.heap.size) (hi : ∀ k, h k ≠ 0 → k < w.heap.size) (ht : ∀ k, h k ≠ 0 → h' k = h k) : Fr base w w' h h' :=
  ⟨hb.os, hb.tape, hb.output, hb.size, fun k hk => hb.block k (by omega), fun k hk => hb.block k (hi k (by omega)), ht⟩

/-- A parser that New made and that refused nothing: its block P, its reader's r; what waits, of which the reader has taken so many. -/
structure Pz (w : World) (base : Nat) (h g : Nat → Nat) (P r : Nat) (S : St) (Q : Rq) (x : Option Addr) (cx : Nat) (wt : List UInt8) (rd : Nat) : Prop where
  row : w.heap[P]? = some (.cells #[pt r, .slice x wt.length cx, .int .i64 (rd : Int), .int .i64 0] 77 (0, 0))
  rdr : Rd w g r S Q
  ok : okQ S Q
  got : run0 (wt.take rd) = (rd, 1, S, Q)
  le : rd ≤ wt.length
  wait : Cmg w base x cx wt
  tP : h P = 1
  tx : ∀ k, blk x = some k → h k = 2
  apart : ∀ k, g k ≠ 0 → h k = 0
  low : ∀ k, g k ≠ 0 → base ≤ k
  lo : ∀ k, h k ≠ 0 → base ≤ k ∧ k < w.heap.size
/-- A parser that refused. -/
structure Pf (w : World) (base : Nat) (h : Nat → Nat) (P : Nat) (st : Nat) : Prop where
  row : ∃ r, w.heap[P]? = some (.cells #[pt r, .slice none 0 0, .int .i64 0, .int .i64 (st : Int)] 77 (0, 0))
  nz : st ≠ 0
  tP : h P = 1
  lo : ∀ k, h k ≠ 0 → base ≤ k ∧ k < w.heap.size
theorem Pz.inb {w : World} {base : Nat} {h g : Nat → Nat} {P r : Nat} {S : St} {Q : Rq} {x : Option Addr} {cx : Nat} {wt : List UInt8} {rd : Nat} (p : Pz w base h g P r S Q x cx wt rd) : ∀ k, g k ≠ 0 → k < w.heap.size := by
  obtain ⟨_, _, _, _, _, k1, _⟩ := p.rdr
  exact k1.inb
theorem Rd.below {w w' : World} {g : Nat → Nat} {r : Nat} {S : St} {Q : Rq} (h : Rd w g r S Q) (hs : ∀ k, g k ≠ 0 → w'.heap[k]? = w.heap[k]?) (hz : w.heap.size ≤ w'.heap.size) : Rd w' g r S Q := by
  obtain ⟨tk, hp, hc, bp, bc, k1, k2⟩ := h
  have hth : ∀ t tv, thV g w r t tv → thV g w' r t tv := fun t tv ht => ht.same (fun k hk _ => ⟨hs k (by omega), hk⟩)
  refine ⟨tk, hp, hc, bp, bc, k1.same (fun k hk => Nat.lt_of_lt_of_le (k1.inb k hk) hz) (fun k hk => ⟨hs k (by omega), rfl⟩), ?_⟩
  cases S with
  | head l =>
    obtain ⟨a, b, y, c, rfl, q1, q2, q3, q4, q5, q6, q7⟩ := k2
    exact ⟨a, b, y, c, rfl, q1.of (hs a (by omega)), q2, q3.same (fun k hk => hs k (by rw [q4 k hk]; decide)), q4, q5.of (hs b (by omega)), q6, q7⟩
  | bytes n t =>
    obtain ⟨a, b, d, tv, rfl, q1, q2, q3, q4, q5, q6, q7, q8, q9⟩ := k2
    exact ⟨a, b, d, tv, rfl, q1.of (hs a (by omega)), q2, q3.of (hs b (by omega)), q4, q5.of (hs d (by omega)), q6, hth _ _ q7, q8, q9⟩
  | text u i t =>
    obtain ⟨a, b, d, tv, rfl, q1, q2, q3, q4, q5, q6, q7, q8, q9⟩ := k2
    exact ⟨a, b, d, tv, rfl, q1.of (hs a (by omega)), q2, q3.of (hs b (by omega)), q4, q5.of (hs d (by omega)), q6, hth _ _ q7, q8, q9⟩
  | chunk n d =>
    obtain ⟨a, b, e, rfl, q1, q2, q3, q4, q5, q6, q7, q8⟩ := k2
    exact ⟨a, b, e, rfl, q1.of (hs a (by omega)), q2, q3.of (hs b (by omega)), q4, q5.of (hs e (by omega)), q6, q7, q8⟩
/-- Other blocks change. -/
theorem Pz.fr {w w' : World} {base : Nat} {h g : Nat → Nat} {P r : Nat} {S : St} {Q : Rq} {x : Option Addr} {cx : Nat} {wt : List UInt8} {rd : Nat} (p : Pz w base h g P r S Q x cx wt rd) (h' : Nat → Nat) (hz : w.heap.size ≤ w'.heap.size)
    (hs : ∀ k, k < w.heap.size → (h k = 1 ∨ h k = 2 ∨ g k ≠ 0) → w'.heap[k]? = w.heap[k]?) (ht : ∀ k, k < w.heap.size → h' k = h k) (hl : ∀ k, w.heap.size ≤ k → h' k ≠ 0 → base ≤ k ∧ k < w'.heap.size) : Pz w' base h' g P r S Q x cx wt rd := by
  have hP : P < w.heap.size := (Array.getElem?_eq_some_iff.1 p.row).1
  refine ⟨(hs P hP (.inl p.tP)).trans p.row, p.rdr.below (fun k hk => hs k (p.inb k hk) (.inr (.inr hk))) hz, p.ok, p.got, p.le, p.wait.move (fun k hk hlt => hs k hlt (.inr (.inl (p.tx k hk)))), (ht P hP).trans p.tP, fun k hk => ?_, fun k hk => ?_, p.low, fun k hk => ?_⟩
  · rw [ht k (p.wait.lt k hk).2]; exact p.tx k hk
  · rw [ht k (p.inb k hk)]; exact p.apart k hk
  · by_cases hlt : k < w.heap.size
    · rw [ht k hlt] at hk
      exact ⟨(p.lo k hk).1, Nat.lt_of_lt_of_le hlt hz⟩
    · exact hl k (by omega) hk
#print axioms Pz.fr
end Go.Proofs.YtonaekkenggmbaaGreatDoor
end
section
set_option linter.unusedVariables false
set_option maxRecDepth 1000000
namespace Go.Proofs.YtonaekkenggmbaaGreatDoor
open Go.RowKit

theorem unmade_no (P r : Nat) (w : World) (c0 : w.cell? ⟨P, 0, none⟩ = some (pt r)) : Calls Tryz.prog 43 #[pt P] w fun e w' => e = .returned (.bool false) ∧ w' = w := by
  go_enter Tryz.func43, Tryz.ntmps43
  go_wp2
  go_ret
  exact ⟨rfl, rfl⟩
def tag1 (P : Nat) : Nat → Nat := fun k => if k = P then 1 else 0
theorem run0_nil : run0 [] = (0, 1, .head [], Rq.nil) := rfl
set_option maxHeartbeats 1000000 in
theorem new_any (w : World) : Calls Tryz.prog 11 #[] w fun e w' => ∃ P r g, e = .returned (pt P) ∧ Hid (Pz w' w.heap.size (tag1 P) g P r (.head []) Rq.nil none 0 [] 0) ∧ Hid (Below w.heap.size w w') := by
  have HN := hide (newReader_any w)
  go_enter Tryz.func11, Tryz.ntmps11
  go_wp2_with fail
  refine (unhide HN).mono ?_
  rintro e w1 ⟨r, g, rfl, HR, HG, HB⟩
  clear HN
  obtain ⟨o, ho⟩ : ∃ o, o = Obj.cells #[pt r, .slice none 0 0, .int .i64 0, .int .i64 0] 77 := ⟨_, rfl⟩
  have hb1 : Below w1.heap.size w1 (w1.alloc o) := (Below.refl _ _).alloc (Nat.le_refl _) _
  have hz := (unhide HB).size
  have HP : Hid (Pz (w1.alloc o) w.heap.size (tag1 w1.heap.size) g w1.heap.size r (.head []) Rq.nil none 0 [] 0) := by
    have hi : ∀ k, g k ≠ 0 → k < w1.heap.size := by
      obtain ⟨_, _, _, _, _, k1, _⟩ := unhide HR
      exact k1.inb
    refine ⟨by rw [ho]; exact heap_alloc_new w1 _, (unhide HR).below (fun k hk => hb1.block k (hi k hk)) hb1.size, by simp [okQ, Rq.nil], run0_nil, Nat.le_refl _, Cmg.nil _ _, by simp [tag1], fun k hk => by simp [blk] at hk, fun k hk => ?_, fun k hk => unhide HG k hk, fun k hk => ?_⟩
    · have := hi k hk
      simp only [tag1]
      rw [if_neg (by omega)]
    · simp only [tag1] at hk
      split at hk
      · rename_i e; rw [e]; exact ⟨hz, by simp⟩
      · exact absurd rfl hk
  have HBB : Hid (Below w.heap.size w (w1.alloc o)) := (unhide HB).alloc hz _
  rw [ho] at HP HBB
  clear HR HG HB ho hb1 o
  go_wp2_with fail
  go_ret
  exact ⟨_, r, g, rfl, HP, HBB⟩

/-- Three cells of a parser's block. -/
theorem set3 (w : World) (P : Nat) (a0 a1 a2 a3 v0 v1 v2 : Value) (T : TypeId) (h : w.heap[P]? = some (.cells #[a0, a1, a2, a3] T (0, 0))) :
    (((w.setCell ⟨P, 0, none⟩ v0).setCell ⟨P, 1, none⟩ v1).setCell ⟨P, 2, none⟩ v2).heap[P]? = some (.cells #[v0, v1, v2, a3] T (0, 0)) ∧ ∀ k, k ≠ P → (((w.setCell ⟨P, 0, none⟩ v0).setCell ⟨P, 1, none⟩ v1).setCell ⟨P, 2, none⟩ v2).heap[k]? = w.heap[k]? := by
  refine ⟨by rw [heap_setCell_same _ _ 2 _ _ _ (heap_setCell_same _ _ 1 _ _ _ (heap_setCell_same _ _ 0 _ _ _ h))]; rfl, fun k hk => ?_⟩
  rw [Below.heap_setCell _ ⟨P, 2, none⟩ _ k hk, Below.heap_setCell _ ⟨P, 1, none⟩ _ k hk, Below.heap_setCell _ ⟨P, 0, none⟩ _ k hk]
set_option maxHeartbeats 1000000 in
theorem pgoOn_any (P : Nat) (a0 a1 a2 a3 : Value) (x : Option Addr) (n c : Nat) (w : World) (hr : w.heap[P]? = some (.cells #[a0, a1, a2, a3] 77 (0, 0))) :
    Calls Tryz.prog 45 #[pt P, .slice x n c] w fun e w' => e = .returned (.tuple #[]) ∧ ∃ r g, Hid (Rd w' g r (.head []) Rq.nil) ∧ Hid (∀ k, g k ≠ 0 → w.heap.size ≤ k) ∧ Hid (w'.heap[P]? = some (.cells #[pt r, .slice x n c, .int .i64 0, a3] 77 (0, 0))) ∧ Hid (Kp w w' (fun k => k = P)) := by
  have HN := hide (newReader_any w)
  have HR0 := hide hr
  have hP : P < w.heap.size := (Array.getElem?_eq_some_iff.1 hr).1
  clear hr
  go_enter Tryz.func45, Tryz.ntmps45
  go_wp2_with fail
  refine (unhide HN).mono ?_
  rintro e w1 ⟨r, g, rfl, HR, HG, HB⟩
  clear HN
  have hr1 := ((unhide HB).block P hP).trans (unhide HR0)
  have c0 : w1.cell? ⟨P, 0, none⟩ = some a0 := cell_of_row _ _ _ _ _ _ hr1
  have c1 : w1.cell? ⟨P, 1, none⟩ = some a1 := cell_of_row _ _ _ _ _ _ hr1
  have c2 : w1.cell? ⟨P, 2, none⟩ = some a2 := cell_of_row _ _ _ _ _ _ hr1
  have f0 := frozen_of_row w1 P 0 _ _ hr1
  have f1 := frozen_of_row w1 P 1 _ _ hr1
  have f2 := frozen_of_row w1 P 2 _ _ hr1
  obtain ⟨W, hW⟩ : ∃ W, W = ((w1.setCell ⟨P, 0, none⟩ (pt r)).setCell ⟨P, 1, none⟩ (.slice x n c)).setCell ⟨P, 2, none⟩ (.int .i64 0) := ⟨_, rfl⟩
  have HF : Hid (Rd W g r (.head []) Rq.nil ∧ W.heap[P]? = some (.cells #[pt r, .slice x n c, .int .i64 0, a3] 77 (0, 0)) ∧ Kp w W (fun k => k = P)) := by
    obtain ⟨s1, s2⟩ := set3 w1 P a0 a1 a2 a3 (pt r) (.slice x n c) (.int .i64 0) _ hr1
    rw [← hW] at s1 s2
    have hzW : W.heap.size = w1.heap.size := by rw [hW]; simp [World.setCell]
    refine ⟨(unhide HR).below (fun k hk => s2 k (by have := unhide HG k hk; omega)) (by omega), s1, ?_, ?_, ?_, by rw [hzW]; exact (unhide HB).size, fun k hk hn => (s2 k hn).trans ((unhide HB).block k hk)⟩
    · rw [hW]; exact (unhide HB).os
    · rw [hW]; exact (unhide HB).tape
    · rw [hW]; exact (unhide HB).output
  clear hr1 HR HB HR0
  go_wp2
  rw [← hW]
  go_end0
  exact ⟨rfl, r, g, (unhide HF).1, HG, (unhide HF).2.1, (unhide HF).2.2⟩

def tagW (h : Nat → Nat) (n : Nat) (x : Option Addr) : Nat → Nat := fun k => if k < n then h k else if blk x = some k then 2 else 0
set_option maxHeartbeats 1000000 in
theorem feed_any (w : World) (base : Nat) (h g : Nat → Nat) (P r : Nat) (S : St) (Q : Rq) (x : Option Addr) (cx : Nat) (wt : List UInt8) (rd : Nat) (p : Pz w base h g P r S Q x cx wt rd) (a : Option Addr) (ca : Nat) (b : List UInt8) (hb : Bs w a ca b) (hl : wt.length + b.length ≤ 65536) (hbs : base ≤ w.heap.size) :
    Calls Tryz.prog 13 #[pt P, .slice a b.length ca] w fun e w' => e = .returned (.int .i64 0) ∧ ∃ h' x' cx', Hid (Pz w' base h' g P r S Q x' cx' (wt ++ b) rd) ∧ Hid (Fr base w w' h h') := by
  have c0 : w.cell? ⟨P, 0, none⟩ = some (pt r) := cell_of_row _ _ _ _ _ _ p.row
  have c1 : w.cell? ⟨P, 1, none⟩ = some (.slice x wt.length cx) := cell_of_row _ _ _ _ _ _ p.row
  have c3 : w.cell? ⟨P, 3, none⟩ = some (.int .i64 0) := cell_of_row _ _ _ _ _ _ p.row
  have hg : ¬ (65536 : Int) < (wt.length : Int) + (b.length : Int) := by omega
  have hw1 : wt.length ≤ 65536 := by omega
  have hw2 : b.length ≤ 65536 := by omega
  have HU := hide (unmade_no P r w c0)
  have HP := hide p
  have HB := hide hb
  clear p hb
  go_enter Tryz.func13, Tryz.ntmps13
  go_wp2_with fail
  refine (unhide HU).mono ?_
  rintro e w ⟨rfl, rfl⟩
  clear HU
  go_wp2_with (at_builtin; refine wp_appc _ rfl _ _ rfl base x cx wt _ rfl rfl (unhide HP).wait a ca b _ rfl rfl (unhide HB).row (unhide HB).nz (by omega) hbs ?_)
  intro x' k' rr w' HR HC HG HX
  have hPl : P < w.heap.size := (Array.getElem?_eq_some_iff.1 (unhide HP).row).1
  have hPx : ∀ k, blk x = some k → k ≠ P := fun k hk e => by
    have := (unhide HP).tx k hk
    rw [e, (unhide HP).tP] at this
    omega
  have hr1 : w'.heap[P]? = _ := ((unhide HG).block P hPl (fun e => hPx P e.symm rfl)).trans (unhide HP).row
  have d1 : w'.cell? ⟨P, 1, none⟩ = some (.slice x wt.length cx) := cell_of_row _ _ _ _ _ _ hr1
  have f1 := frozen_of_row w' P 1 _ _ hr1
  obtain ⟨W, hW⟩ : ∃ W, W = w'.setCell ⟨P, 1, none⟩ (.slice x' rr.length k') := ⟨_, rfl⟩
  have HF : Hid (Pz W base (tagW h w.heap.size x') g P r S Q x' k' (wt ++ b) rd ∧ Fr base w W h (tagW h w.heap.size x')) := by
    have hzW : W.heap.size = w'.heap.size := by rw [hW]; simp [World.setCell]
    have hne : ∀ k, k ≠ P → W.heap[k]? = w'.heap[k]? := fun k hk => by rw [hW]; exact Below.heap_setCell _ _ _ k hk
    have hrW : W.heap[P]? = some (.cells #[pt r, .slice x' rr.length k', .int .i64 (rd : Int), .int .i64 0] 77 (0, 0)) := by rw [hW, heap_setCell_same _ _ 1 _ _ _ hr1]; rfl
    have hkeep : ∀ k, k < w.heap.size → k ≠ P → (blk x ≠ some k) → W.heap[k]? = w.heap[k]? := fun k h1 h2 h3 => (hne k h2).trans ((unhide HG).block k h1 (fun e => h3 e.symm))
    have hx2 : ∀ k, g k ≠ 0 → blk x ≠ some k := fun k hk e => by have := (unhide HP).tx k e; rw [(unhide HP).apart k hk] at this; omega
    have hgP : ∀ k, g k ≠ 0 → k ≠ P := fun k hk e => by have := (unhide HP).apart k hk; rw [e, (unhide HP).tP] at this; omega
    have hsz : w.heap.size ≤ W.heap.size := by rw [hzW]; exact (unhide HG).size
    have htag : ∀ k, k < w.heap.size → tagW h w.heap.size x' k = h k := fun k hk => by simp [tagW, hk]
    refine ⟨⟨by rw [← unhide HR]; exact hrW, (unhide HP).rdr.below (fun k hk => hkeep k ((unhide HP).inb k hk) (hgP k hk) (hx2 k hk)) hsz, (unhide HP).ok, ?_, ?_, ?_, ?_, fun k hk => ?_, fun k hk => ?_, (unhide HP).low, fun k hk => ?_⟩, ?_⟩
    · rw [List.take_append_of_le_length (unhide HP).le]; exact (unhide HP).got
    · have := (unhide HP).le; simp; omega
    · have hc := unhide HC
      rw [unhide HR] at hc
      refine hc.move (fun k hk _ => hne k (fun e => ?_))
      rcases unhide HX with h1 | h1
      · rw [h1] at hk; exact hPx k hk e
      · have := h1 k hk; omega
    · rw [htag P hPl]; exact (unhide HP).tP
    · rcases unhide HX with h1 | h1
      · rw [h1] at hk
        rw [htag k ((unhide HP).wait.lt k hk).2]
        exact (unhide HP).tx k hk
      · have := h1 k hk
        simp only [tagW]
        rw [if_neg (by omega), if_pos hk]
    · rw [htag k ((unhide HP).inb k hk)]; exact (unhide HP).apart k hk
    · simp only [tagW] at hk
      split at hk
      · exact ⟨((unhide HP).lo k hk).1, Nat.lt_of_lt_of_le ((unhide HP).lo k hk).2 hsz⟩
      · split at hk
        · rename_i h2
          have := (unhide HC).lt k h2
          exact ⟨this.1, by omega⟩
        · exact absurd rfl hk
    · refine ⟨?_, ?_, ?_, hsz, fun k hk => ?_, fun k hk => ?_, fun k hk => htag k ((unhide HP).lo k hk).2⟩
      · rw [hW]; exact (unhide HG).os
      · rw [hW]; exact (unhide HG).tape
      · rw [hW]; exact (unhide HG).output
      · refine hkeep k (by omega) (fun e => ?_) (fun e => ?_)
        · have := ((unhide HP).lo k (by rw [e, (unhide HP).tP]; decide)).1; omega
        · have := ((unhide HP).wait.lt k e).1; omega
      · refine hkeep k ((unhide HP).lo k (by omega)).2 (fun e => ?_) (fun e => ?_)
        · rw [e, (unhide HP).tP] at hk; omega
        · rw [(unhide HP).tx k e] at hk; omega
  clear hr1 HC HG HX HP HB HR
  go_wp2
  rw [← hW]
  go_ret
  exact ⟨rfl, _, x', k', (unhide HF).1, (unhide HF).2⟩
set_option maxHeartbeats 1000000 in
theorem feed_shut (w : World) (base : Nat) (h : Nat → Nat) (P st : Nat) (p : Pf w base h P st) (v : Value) :
    Calls Tryz.prog 13 #[pt P, v] w fun e w' => e = .returned (.int .i64 31) ∧ w' = w := by
  obtain ⟨r, hr⟩ := p.row
  have c0 : w.cell? ⟨P, 0, none⟩ = some (pt r) := cell_of_row _ _ _ _ _ _ hr
  have c3 : w.cell? ⟨P, 3, none⟩ = some (.int .i64 (st : Int)) := cell_of_row _ _ _ _ _ _ hr
  have hs : ((st : Int) != 0) = true := by have := p.nz; simp; omega
  have HU := hide (unmade_no P r w c0)
  clear p hr
  go_enter Tryz.func13, Tryz.ntmps13
  go_wp2_with fail
  refine (unhide HU).mono ?_
  rintro e w ⟨rfl, rfl⟩
  clear HU
  go_wp2
  go_ret
  exact ⟨rfl, rfl⟩
#print axioms feed_any
end Go.Proofs.YtonaekkenggmbaaGreatDoor
end
