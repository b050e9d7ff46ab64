/-
  httpd: what the statements' read keeps: the requests that were told, in memory; whose each block is.; httpd: the statements' read, step by step.; httpd: the statements' read: all requests that pieces tell.; httpd: the statements' pieces; slices.EqualFunc of requests.
-/
import Derived.Test.YthkadboeokgjnaaGreatDoorPkHcesbf
import Derived.Test.YthkadboeokgjnaaGreatDoorPkHcesab
section
set_option linter.unusedVariables false
set_option maxRecDepth 1000000
namespace Go.Proofs.YthkadboeokgjnaaGreatDoor
open Go.RowKit

/-- Pieces that are read. -/
structure Prt (w : World) (a : Option Addr) (vs : List Sl) (ps : List (List UInt8)) : Prop where
  len : vs.length = ps.length
  row : vs ≠ [] → ∃ b off, a = some ⟨b, off, none⟩ ∧ ∀ (i : Nat) (x : Sl), vs[i]? = some x → w.cell? ⟨b, off + i, none⟩ = some (.slice x.1 x.2.1 x.2.2)
  pay : ∀ (i : Nat) (p : List UInt8), ps[i]? = some p → ∃ c cap, vs[i]? = some (c, p.length, cap) ∧ Bs w c cap p
theorem Prt.below {w w' : World} {a : Option Addr} {vs : List Sl} {ps : List (List UInt8)} (h : Prt w a vs ps) (hb : Below w.heap.size w w') : Prt w' a vs ps := by
  refine ⟨h.len, fun hne => ?_, fun i p hp => ?_⟩
  · obtain ⟨b, off, e, hc⟩ := h.row hne
    exact ⟨b, off, e, fun i x hx => by rw [hb.cell (World.block_lt_of_cell? w _ (hc i x hx))]; exact hc i x hx⟩
  · obtain ⟨c, cap, h1, h2⟩ := h.pay i p hp
    exact ⟨c, cap, h1, h2.below hb (Nat.le_refl _)⟩
theorem Bs.same {w w' : World} {a : Option Addr} {cap : Nat} {l : List UInt8} (h : Bs w a cap l) (e : ∀ k, blk a = some k → w'.heap[k]? = w.heap[k]?) : Bs w' a cap l := by
  refine ⟨fun hne => ?_, h.le, h.most, h.nz⟩
  obtain ⟨b, off, rfl, hc⟩ := h.row hne
  refine ⟨b, off, rfl, fun i hi => ?_⟩
  rw [← hc i hi]
  simp only [World.cell?, e b rfl]

/-- What was told so far: in block T. -/
structure Tld (w : World) (base T : Nat) (h : Nat → Nat) (L : List Rv) (lp : Option Addr) (lc : Nat) (sv : Nat) : Prop where
  row : w.heap[T]? = some (.cells #[.slice lp L.length lc, .int .i64 (sv : Int)] 70 (0, 0))
  tT : h T = 3
  own : OwnR w base lp lc L
  tl : ∀ k, blk lp = some k → h k = 4
  part : ∀ t ∈ L, HdR w t.2.1.1 t.1.h ∧ Bs w t.2.2.1 t.2.2.2 t.1.b ∧ (∀ k, blk t.2.1.1 = some k → h k = 5) ∧ (∀ k, blk t.2.2.1 = some k → h k = 5)
theorem Tld.fr {w w' : World} {base T : Nat} {h h' : Nat → Nat} {L : List Rv} {lp : Option Addr} {lc sv : Nat} (q : Tld w base T h L lp lc sv) (f : Fr base w w' h h') : Tld w' base T h' L lp lc sv := by
  refine ⟨(f.block T (by rw [q.tT]; exact Nat.le_refl _)).trans q.row, (f.tag T (by rw [q.tT]; decide)).trans q.tT, q.own.same (fun k hk => f.block k (by rw [q.tl k hk]; decide)), fun k hk => (f.tag k (by rw [q.tl k hk]; decide)).trans (q.tl k hk), fun t ht => ?_⟩
  obtain ⟨h1, h2, h3, h4⟩ := q.part t ht
  exact ⟨h1.same (fun k hk _ => f.block k (by rw [h3 k hk]; decide)), h2.same (fun k hk => f.block k (by rw [h4 k hk]; decide)), fun k hk => (f.tag k (by rw [h3 k hk]; decide)).trans (h3 k hk), fun k hk => (f.tag k (by rw [h4 k hk]; decide)).trans (h4 k hk)⟩
theorem Tld.rqR {w : World} {base T : Nat} {h : Nat → Nat} {L : List Rv} {lp : Option Addr} {lc sv : Nat} (q : Tld w base T h L lp lc sv) : RqR w lp L := q.own.rqR (fun t ht => ⟨(q.part t ht).1, (q.part t ht).2.1⟩)
theorem Pf.fr {w w' : World} {base : Nat} {h h' : Nat → Nat} {P st : Nat} (p : Pf w base h P st) (hz : w.heap.size ≤ w'.heap.size) (hP : w'.heap[P]? = w.heap[P]?) (ht : ∀ k, k < w.heap.size → h' k = h k) (hl : ∀ k, w.heap.size ≤ k → h' k ≠ 0 → base ≤ k ∧ k < w'.heap.size) : Pf w' base h' P st := by
  obtain ⟨r, hr⟩ := p.row
  have hPl : P < w.heap.size := (Array.getElem?_eq_some_iff.1 hr).1
  refine ⟨⟨r, hP.trans hr⟩, p.nz, (ht P hPl).trans p.tP, fun k hk => ?_⟩
  by_cases hlt : k < w.heap.size
  · rw [ht k hlt] at hk
    exact ⟨(p.lo k hk).1, by omega⟩
  · exact hl k (by omega) hk
/-- The status is told. -/
theorem Tld.status {w : World} {base T : Nat} {h : Nat → Nat} {L : List Rv} {lp : Option Addr} {lc sv : Nat} (q : Tld w base T h L lp lc sv) (st : Nat) : Tld (w.setCell ⟨T, 1, none⟩ (.int .i64 (st : Int))) base T h L lp lc st := by
  have hne : ∀ k, k ≠ T → (w.setCell ⟨T, 1, none⟩ (.int .i64 (st : Int))).heap[k]? = w.heap[k]? := fun k hk => Below.heap_setCell _ _ _ k hk
  have hT : ∀ k, h k ≠ 3 → k ≠ T := fun k hk e => hk (by rw [e]; exact q.tT)
  refine ⟨by rw [heap_setCell_same _ _ 1 _ _ _ q.row]; rfl, q.tT, q.own.same (fun k hk => hne k (hT k (by rw [q.tl k hk]; decide))), q.tl, fun t ht => ?_⟩
  obtain ⟨h1, h2, h3, h4⟩ := q.part t ht
  exact ⟨h1.same (fun k hk _ => hne k (hT k (by rw [h3 k hk]; decide))), h2.same (fun k hk => hne k (hT k (by rw [h4 k hk]; decide))), h3, h4⟩
/-- A request more. -/
def tagL (h : Nat → Nat) (n g : Nat) : Nat → Nat := fun k => if k < n then h k else if k = g then 4 else 0
theorem Tld.snoc {w w' : World} {base T : Nat} {h : Nat → Nat} {L : List Rv} {lp : Option Addr} {lc sv : Nat} (q : Tld w base T h L lp lc sv) (hi : ∀ k, h k ≠ 0 → k < w.heap.size) (t : Rv) (ht : HdR w t.2.1.1 t.1.h ∧ Bs w t.2.2.1 t.2.2.2 t.1.b ∧ (∀ k, blk t.2.1.1 = some k → h k = 5) ∧ (∀ k, blk t.2.2.1 = some k → h k = 5))
    (g cap : Nat) (ho : OwnR w' base (some ⟨g, 0, none⟩) cap (L ++ [t])) (hg : w.grownBy w' (blk lp)) (hl : blk lp = some g ∨ g = w.heap.size) : Tld (w'.setCell ⟨T, 0, none⟩ (.slice (some ⟨g, 0, none⟩) (L ++ [t]).length cap)) base T (tagL h w.heap.size g) (L ++ [t]) (some ⟨g, 0, none⟩) cap sv := by
  have htag : ∀ k, k < w.heap.size → tagL h w.heap.size g k = h k := fun k hk => by simp [tagL, hk]
  have hT := hi T (by rw [q.tT]; decide)
  have hsame : ∀ k, h k ≠ 0 → h k ≠ 4 → w'.heap[k]? = w.heap[k]? := fun k h1 h2 => hg.block k (hi k h1) (fun e => h2 (q.tl k e.symm))
  have hne : ∀ k, k ≠ T → (w'.setCell ⟨T, 0, none⟩ (.slice (some ⟨g, 0, none⟩) (L ++ [t]).length cap)).heap[k]? = w'.heap[k]? := fun k hk => Below.heap_setCell _ _ _ k hk
  have hTn : ∀ k, h k ≠ 3 → k ≠ T := fun k hk e => hk (by rw [e]; exact q.tT)
  have hrow : w'.heap[T]? = _ := (hsame T (by rw [q.tT]; decide) (by rw [q.tT]; decide)).trans q.row
  have hgT : g ≠ T := fun e => by
    rcases hl with e2 | e2
    · have := q.tl g e2
      rw [e, q.tT] at this
      omega
    · omega
  refine ⟨by rw [heap_setCell_same _ _ 0 _ _ _ hrow]; rfl, (htag T hT).trans q.tT, ho.same (fun k hk => hne k (fun e => hgT (by simpa [blk, e] using hk))), fun k hk => ?_, fun u hu => ?_⟩
  · obtain rfl : g = k := by simpa [blk] using hk
    rcases hl with e2 | e2
    · have h3 := q.tl g e2
      rw [htag g (hi g (by omega))]
      exact h3
    · simp only [tagL]
      rw [if_neg (by omega)]
      simp
  · have hk : HdR w u.2.1.1 u.1.h ∧ Bs w u.2.2.1 u.2.2.2 u.1.b ∧ (∀ k, blk u.2.1.1 = some k → h k = 5) ∧ (∀ k, blk u.2.2.1 = some k → h k = 5) := by
      rcases List.mem_append.1 hu with h1 | h1
      · exact q.part u h1
      · rw [List.mem_singleton] at h1; rw [h1]; exact ht
    obtain ⟨h1, h2, h3, h4⟩ := hk
    have e5 : ∀ k, h k = 5 → (w'.setCell ⟨T, 0, none⟩ (.slice (some ⟨g, 0, none⟩) (L ++ [t]).length cap)).heap[k]? = w.heap[k]? := fun k hk => (hne k (hTn k (by omega))).trans (hsame k (by omega) (by omega))
    have t5 : ∀ k, h k = 5 → tagL h w.heap.size g k = 5 := fun k hk => by rw [htag k (hi k (by omega))]; exact hk
    exact ⟨h1.same (fun k hk _ => e5 k (h3 k hk)), h2.same (fun k hk => e5 k (h4 k hk)), fun k hk => t5 k (h3 k hk), fun k hk => t5 k (h4 k hk)⟩
#print axioms Tld.snoc
end Go.Proofs.YthkadboeokgjnaaGreatDoor
end
section
set_option linter.unusedVariables false
set_option maxRecDepth 1000000
namespace Go.Proofs.YthkadboeokgjnaaGreatDoor
open Go.RowKit

/-- Behind some pieces, X together. -/
def OutI (w0 wr : World) (base P T : Nat) (X : List UInt8) : Prop :=
  ∃ h L lp lc sv, Tld wr base T h L lp lc sv ∧ Below base w0 wr ∧ L.map (·.1) = (tell X).1 ∧ sv = (tell X).2.1 ∧ (sv = 1 → ∃ g r S Q x cx, Pz wr base h g P r S Q x cx (tell X).2.2 (tell X).2.2.length) ∧ (sv ≠ 1 → Pf wr base h P sv)
/-- While requests are taken off. -/
def InI (w0 wr : World) (base P T : Nat) (X : List UInt8) (j : Nat) : Prop :=
  ∃ h L lp lc sv g r S Q x cx wt rd, Tld wr base T h L lp lc sv ∧ Below base w0 wr ∧ Pz wr base h g P r S Q x cx wt rd ∧ L.map (·.1) ++ (tell wt).1 = (tell X).1 ∧ (tell wt).2 = (tell X).2 ∧ 5 * j + wt.length ≤ 32768
/-- Behind a Next. -/
def NxO (w0 w : World) (base P T : Nat) (X : List UInt8) (j : Nat) (t : Rv) (st : Nat) (h : Nat → Nat) (L : List Rv) (lp : Option Addr) (lc sv : Nat) : Prop :=
  Tld w base T h L lp lc sv ∧ Below base w0 w ∧ (∀ k, h k ≠ 0 → base ≤ k ∧ k < w.heap.size) ∧ L.length ≤ 32768 ∧
    (st ≠ 0 → L.map (·.1) = (tell X).1 ∧ st = (tell X).2.1 ∧ (st = 1 → ∃ g r S Q x cx, Pz w base h g P r S Q x cx (tell X).2.2 (tell X).2.2.length) ∧ (st ≠ 1 → Pf w base h P st)) ∧
    (st = 0 → (HdR w t.2.1.1 t.1.h ∧ Bs w t.2.2.1 t.2.2.2 t.1.b ∧ (∀ k, blk t.2.1.1 = some k → h k = 5) ∧ (∀ k, blk t.2.2.1 = some k → h k = 5)) ∧ ∃ g r x cx wt, Pz w base h g P r (.head []) Rq.nil x cx wt 0 ∧ L.map (·.1) ++ t.1 :: (tell wt).1 = (tell X).1 ∧ (tell wt).2 = (tell X).2 ∧ 5 * (j + 1) + wt.length ≤ 32768)
theorem feed_in (w0 wr : World) (base P T : Nat) (X : List UInt8) (hO : OutI w0 wr base P T X) (hs : (tell X).2.1 = 1) (a : Option Addr) (ca : Nat) (b : List UInt8) (hb : Bs wr a ca b) (hl : X.length + b.length ≤ 32768) (hbs : base ≤ wr.heap.size) :
    Calls Tryz.prog 17 #[pt P, .slice a b.length ca] wr fun e w' => e = .returned (.int .i64 0) ∧ Hid (InI w0 w' base P T (X ++ b) 0) := by
  obtain ⟨h, L, lp, lc, sv, q, hw, hL, hsv, h1, h2⟩ := hO
  obtain ⟨g, r, S, Q, x, cx, p⟩ := h1 (hsv.trans hs)
  have htl := tell_len X
  refine (feed_any wr base h g P r S Q x cx _ _ p a ca b hb (by omega) hbs).mono ?_
  rintro e w' ⟨rfl, h', x', cx', hp, hf⟩
  have hta := tell_app b X hs
  refine ⟨rfl, h', L, lp, lc, sv, g, r, S, Q, x', cx', _, _, q.fr (unhide hf), hw.trans (unhide hf).below, unhide hp, by rw [hta, hL], by rw [hta], by simp; omega⟩
theorem feed_out (w0 wr : World) (base P T : Nat) (X : List UInt8) (hO : OutI w0 wr base P T X) (hs : (tell X).2.1 ≠ 1) (v : Value) :
    Calls Tryz.prog 17 #[pt P, v] wr fun e w' => e = .returned (.int .i64 31) ∧ w' = wr := by
  obtain ⟨h, L, lp, lc, sv, q, hw, hL, hsv, h1, h2⟩ := hO
  exact feed_shut wr base h P sv (h2 (by rw [hsv]; exact hs)) v
theorem next_in (w0 wr : World) (base P T : Nat) (X : List UInt8) (j : Nat) (hI : InI w0 wr base P T X j) (hX : X.length ≤ 32768) (hE : EnvH wr) (hBH : BH ≤ base) (hbs : base ≤ wr.heap.size) :
    Calls Tryz.prog 19 #[pt P] wr fun e w' => ∃ (t : Rv) (st : Nat), e = .returned (.tuple #[.agg (rqC t).toArray, .int .i64 (st : Int)]) ∧ Hid (∃ h L lp lc sv, NxO w0 w' base P T X j t st h L lp lc sv) := by
  obtain ⟨h, L, lp, lc, sv, g, r, S, Q, x, cx, wt, rd, q, hw, p, hL, h2, hj⟩ := hI
  refine (next_any wr base h g P r S Q x cx wt rd p hE hBH hbs (by omega)).mono ?_
  rintro e w' ⟨t, st, rfl, HN⟩
  obtain ⟨h', f, hst, _, n1, n0, nb⟩ := unhide HN
  have hLl : L.length ≤ 32768 := by
    have := congrArg List.length hL
    simp at this
    have := tell_len X
    omega
  refine ⟨t, st, rfl, h', L, lp, lc, sv, q.fr f, hw.trans f.below, ?_, hLl, fun hs => ?_, fun hs => ?_⟩
  · by_cases s1 : st = 1
    · obtain ⟨g', r', S', Q', x', cx', p'⟩ := n1 s1
      exact p'.lo
    · by_cases s0 : st = 0
      · obtain ⟨_, _, _, _, _, g', r', x', cx', p'⟩ := n0 s0
        exact p'.lo
      · exact (nb s0 s1).lo
  · have ht := tell_no wt (by rw [← hst]; exact hs)
    rw [ht] at hL h2
    simp only [List.append_nil] at hL
    refine ⟨hL, by rw [← h2]; exact hst, fun s1 => ?_, fun s1 => nb hs s1⟩
    obtain ⟨g', r', S', Q', x', cx', p'⟩ := n1 s1
    rw [← h2]
    exact ⟨g', r', S', Q', x', cx', p'⟩
  · obtain ⟨e1, e2, e3, e4, e5, g', r', x', cx', p'⟩ := n0 hs
    have h0 : (run0 wt).2.1 = 0 := by rw [← hst]; exact hs
    have ht := tell_yes wt h0
    have h5 := run0_five wt h0
    have hle := run0_le wt
    rw [ht] at hL h2
    refine ⟨⟨e2, e3, e4, e5⟩, g', r', x', cx', _, p', by rw [e1]; exact hL, h2, by rw [List.length_drop]; omega⟩

theorem Tld.al {w : World} {base T : Nat} {h : Nat → Nat} {L : List Rv} {lp : Option Addr} {lc sv : Nat} (q : Tld w base T h L lp lc sv) (hbs : base ≤ w.heap.size) (hi : ∀ k, h k ≠ 0 → base ≤ k ∧ k < w.heap.size) (o : Obj) : Tld (w.alloc o) base T h L lp lc sv :=
  q.fr (Fr.ofBelow ((Below.refl _ _).alloc (Nat.le_refl _) _) hbs (fun k hk => (hi k hk).2) (fun _ _ => rfl))
theorem below_set {w0 w : World} {base T i : Nat} {v : Value} (h : Below base w0 w) (hT : base ≤ T) : Below base w0 (w.setCell ⟨T, i, none⟩ v) :=
  ⟨h.os, h.tape, h.output, by simp [World.setCell]; exact h.size, fun k hk => (Below.heap_setCell _ _ _ k (by show k ≠ T; omega)).trans (h.block k hk)⟩
theorem NxO.out {w0 w : World} {base P T : Nat} {X : List UInt8} {j : Nat} {t : Rv} {st : Nat} {h : Nat → Nat} {L : List Rv} {lp : Option Addr} {lc sv : Nat} (n : NxO w0 w base P T X j t st h L lp lc sv) (hs : st ≠ 0) (hbs : base ≤ w.heap.size) (o : Obj) :
    OutI w0 ((w.alloc o).setCell ⟨T, 1, none⟩ (.int .i64 (st : Int))) base P T X := by
  obtain ⟨q, hw, lo, _, n1, _⟩ := n
  obtain ⟨e1, e2, e3, e4⟩ := n1 hs
  have hT := lo T (by rw [q.tT]; decide)
  have hsz : ((w.alloc o).setCell ⟨T, 1, none⟩ (.int .i64 (st : Int))).heap.size = w.heap.size + 1 := by simp [World.setCell]
  have hsame : ∀ k, k < w.heap.size → k ≠ T → ((w.alloc o).setCell ⟨T, 1, none⟩ (.int .i64 (st : Int))).heap[k]? = w.heap[k]? := fun k hk hn => (Below.heap_setCell _ _ _ k hn).trans (Below.heap_alloc _ _ _ hk)
  have hhi : ∀ k, w.heap.size ≤ k → h k ≠ 0 → base ≤ k ∧ k < ((w.alloc o).setCell ⟨T, 1, none⟩ (.int .i64 (st : Int))).heap.size := fun k hk hn => by have := (lo k hn).2; omega
  refine ⟨h, L, lp, lc, st, (q.al hbs lo o).status st, below_set (hw.alloc hbs _) hT.1, e1, e2, fun s1 => ?_, fun s1 => ?_⟩
  · obtain ⟨g, r, S, Q, x, cx, p⟩ := e3 s1
    refine ⟨g, r, S, Q, x, cx, p.fr h (by omega) (fun k hk hc => hsame k hk (fun e => ?_)) (fun _ _ => rfl) hhi⟩
    rw [e, q.tT] at hc
    rcases hc with c | c | c
    · omega
    · omega
    · have := p.apart T c
      rw [q.tT] at this
      omega
  · have pf := e4 s1
    obtain ⟨r, hr⟩ := pf.row
    refine pf.fr (by omega) (hsame P (Array.getElem?_eq_some_iff.1 hr).1 (fun e => ?_)) (fun _ _ => rfl) hhi
    have := pf.tP
    rw [e, q.tT] at this
    omega
/-- A request more, taken off. -/
theorem NxO.on {w0 w w5 : World} {base P T : Nat} {X : List UInt8} {j : Nat} {t : Rv} {st : Nat} {h : Nat → Nat} {L : List Rv} {lp : Option Addr} {lc sv : Nat} (n : NxO w0 w base P T X j t st h L lp lc sv) (hs : st = 0) (hbs : base ≤ w.heap.size) (o o2 : Obj) (g cap : Nat) (r : List Rv) (hr : r = L ++ [t])
    (ho : OwnR w5 base (some ⟨g, 0, none⟩) cap r) (hg : (((w.alloc o).setCell ⟨T, 1, none⟩ (.int .i64 (st : Int))).alloc o2).grownBy w5 (blk lp)) (hl : blk lp = some g ∨ g = (((w.alloc o).setCell ⟨T, 1, none⟩ (.int .i64 (st : Int))).alloc o2).heap.size) :
    InI w0 (w5.setCell ⟨T, 0, none⟩ (.slice (some ⟨g, 0, none⟩) r.length cap)) base P T X (j + 1) := by
  subst hr
  obtain ⟨q, hw, lo, _, _, n0⟩ := n
  obtain ⟨⟨e1, e2, e3, e4⟩, g1, rr, x, cx, wt, p, hL, h2, hj⟩ := n0 hs
  have hT := lo T (by rw [q.tT]; decide)
  obtain ⟨w3, hw3⟩ : ∃ w3, w3 = (w.alloc o).setCell ⟨T, 1, none⟩ (.int .i64 (st : Int)) := ⟨_, rfl⟩
  have hz3 : w3.heap.size = w.heap.size + 1 := by rw [hw3]; simp [World.setCell]
  have hs3 : ∀ k, k < w.heap.size → k ≠ T → w3.heap[k]? = w.heap[k]? := fun k hk hn => by rw [hw3]; exact (Below.heap_setCell _ _ _ k hn).trans (Below.heap_alloc _ _ _ hk)
  have q3 : Tld w3 base T h L lp lc st := by rw [hw3]; exact (q.al hbs lo o).status st
  have hb3 : Below base w0 w3 := by rw [hw3]; exact below_set (hw.alloc hbs _) hT.1
  have lo3 : ∀ k, h k ≠ 0 → base ≤ k ∧ k < w3.heap.size := fun k hk => ⟨(lo k hk).1, by have := (lo k hk).2; omega⟩
  rw [← hw3] at hg hl
  obtain ⟨w4, hw4⟩ : ∃ w4, w4 = w3.alloc o2 := ⟨_, rfl⟩
  have hz4 : w4.heap.size = w3.heap.size + 1 := by rw [hw4]; simp
  have hs4 : ∀ k, k < w3.heap.size → w4.heap[k]? = w3.heap[k]? := fun k hk => by rw [hw4]; exact Below.heap_alloc _ _ _ hk
  have q4 : Tld w4 base T h L lp lc st := by rw [hw4]; exact q3.al (by omega) lo3 o2
  have hb4 : Below base w0 w4 := by rw [hw4]; exact hb3.alloc (by omega) _
  rw [← hw4] at hg hl
  clear hw3 hw4
  have t5 : ∀ k, h k = 5 → w4.heap[k]? = w.heap[k]? := fun k hk => by
    have := (lo k (by omega)).2
    rw [hs4 k (by omega), hs3 k (by omega) (fun e => by rw [e, q.tT] at hk; omega)]
  have hq := q4.snoc (fun k hk => by have := (lo k hk).2; omega) t ⟨e1.same (fun k hk _ => t5 k (e3 k hk)), e2.same (fun k hk => t5 k (e4 k hk)), e3, e4⟩ g cap ho hg hl
  have hgl := ho.lt g rfl
  refine ⟨_, _, _, _, _, g1, rr, .head [], Rq.nil, x, cx, wt, 0, hq, ?_, ?_, by rw [List.map_append, List.append_assoc]; exact hL, h2, hj⟩
  · refine below_set ⟨hg.os.trans hb4.os, hg.tape.trans hb4.tape, hg.output.trans hb4.output, Nat.le_trans hb4.size hg.size, fun k hk => (hg.block k (by omega) (fun e => ?_)).trans (hb4.block k hk)⟩ hT.1
    have := q.tl k e.symm
    have := (lo k (by omega)).1
    omega
  · have hgs := hg.size
    refine p.fr _ (by simp [World.setCell]; omega) (fun k hk hc => ?_) (fun k hk => by simp only [tagL]; rw [if_pos (by omega)]) (fun k hk hn => ?_)
    · have h3 : h k ≠ 3 := fun e => by
        rcases hc with c | c | c
        · omega
        · omega
        · rw [p.apart k c] at e; omega
      have h4 : h k ≠ 4 := fun e => by
        rcases hc with c | c | c
        · omega
        · omega
        · rw [p.apart k c] at e; omega
      have hkT : k ≠ T := fun e => h3 (by rw [e]; exact q.tT)
      refine (Below.heap_setCell _ _ _ k hkT).trans ((hg.block k (by omega) (fun e => h4 (q.tl k e.symm))).trans ?_)
      rw [hs4 k (by omega), hs3 k hk hkT]
    · simp only [tagL] at hn
      split at hn
      · exact absurd ((lo k hn).2) (by omega)
      · split at hn
        · rename_i e
          rw [e]
          exact ⟨hgl.1, by simp [World.setCell]; exact hgl.2⟩
        · exact absurd rfl hn
#print axioms NxO.on
end Go.Proofs.YthkadboeokgjnaaGreatDoor
end
section
set_option linter.unusedVariables false
set_option maxRecDepth 1000000
namespace Go.Proofs.YthkadboeokgjnaaGreatDoor
open Go.RowKit

theorem Tld.mv {w w' : World} {base T : Nat} {h : Nat → Nat} {L : List Rv} {lp : Option Addr} {lc sv : Nat} (q : Tld w base T h L lp lc sv) (hs : ∀ k, h k = 3 ∨ h k = 4 ∨ h k = 5 → w'.heap[k]? = w.heap[k]?) : Tld w' base T h L lp lc sv := by
  refine ⟨(hs T (.inl q.tT)).trans q.row, q.tT, q.own.same (fun k hk => hs k (.inr (.inl (q.tl k hk)))), q.tl, fun t ht => ?_⟩
  obtain ⟨h1, h2, h3, h4⟩ := q.part t ht
  exact ⟨h1.same (fun k hk _ => hs k (.inr (.inr (h3 k hk)))), h2.same (fun k hk => hs k (.inr (.inr (h4 k hk)))), h3, h4⟩
/-- What the outer rounds keep, and where its blocks lie. -/
def OutJ (w0 wr : World) (base P T : Nat) (X : List UInt8) : Prop :=
  ∃ h L lp lc sv, Tld wr base T h L lp lc sv ∧ Below base w0 wr ∧ (∀ k, h k ≠ 0 → base ≤ k) ∧ L.map (·.1) = (tell X).1 ∧ sv = (tell X).2.1
theorem OutI.j {w0 wr : World} {base P T : Nat} {X : List UInt8} (o : OutI w0 wr base P T X) : OutJ w0 wr base P T X := by
  obtain ⟨h, L, lp, lc, sv, q, hw, hL, hsv, h1, h2⟩ := o
  refine ⟨h, L, lp, lc, sv, q, hw, ?_, hL, hsv⟩
  by_cases hs : sv = 1
  · obtain ⟨g, r, S, Q, x, cx, p⟩ := h1 hs
    exact fun k hk => (p.lo k hk).1
  · exact fun k hk => ((h2 hs).lo k hk).1
theorem OutI.base {w0 wr : World} {base P T : Nat} {X : List UInt8} (o : OutI w0 wr base P T X) : Below base w0 wr := by
  obtain ⟨h, L, lp, lc, sv, q, hw, _⟩ := o
  exact hw
theorem InI.base {w0 wr : World} {base P T : Nat} {X : List UInt8} {j : Nat} (o : InI w0 wr base P T X j) : Below base w0 wr ∧ 5 * j ≤ 32768 := by
  obtain ⟨h, L, lp, lc, sv, g, r, S, Q, x, cx, wt, rd, q, hw, p, hL, h2, hj⟩ := o
  exact ⟨hw, by omega⟩
theorem take_flat (ps : List (List UInt8)) (k : Nat) (b : List UInt8) (h : ps[k]? = some b) : (ps.take (k + 1)).flatten = (ps.take k).flatten ++ b := by
  rw [List.take_add_one, h]; simp
theorem flat_le (ps : List (List UInt8)) (k : Nat) : (ps.take k).flatten.length ≤ ps.flatten.length := by
  have : ps.flatten = (ps.take k).flatten ++ (ps.drop k).flatten := by rw [← List.flatten_append, List.take_append_drop]
  rw [this]; simp
theorem out0 {w0 w1 : World} {P r : Nat} {g : Nat → Nat} (hp : Pz w1 w0.heap.size (tag1 P) g P r (.head []) Rq.nil none 0 [] 0) (hb : Below w0.heap.size w0 w1) : OutI w0 (w1.alloc (.cells #[.slice none 0 0, .int .i64 1] 70)) w0.heap.size P w1.heap.size [] := by
  have hz := hb.size
  have hsz : (w1.alloc (.cells #[.slice none 0 0, .int .i64 1] 70)).heap.size = w1.heap.size + 1 := by simp
  have hPl : P < w1.heap.size := (Array.getElem?_eq_some_iff.1 hp.row).1
  have ht : tell [] = ([], 1, []) := tell_no [] (by rw [run0_nil]; decide)
  rw [OutI, ht]
  refine ⟨fun k => if k = w1.heap.size then 3 else tag1 P k, [], none, 0, 1, ⟨heap_alloc_new w1 _, by simp, OwnR.nil _ _, fun k hk => by simp [blk] at hk, fun t ht => by simp at ht⟩, hb.alloc hz _, rfl, rfl, fun _ => ⟨g, r, .head [], Rq.nil, none, 0, hp.fr _ (by omega) (fun k hk _ => Below.heap_alloc _ _ _ hk) (fun k hk => by simp [show k ≠ w1.heap.size by omega]) (fun k hk hn => ?_)⟩, fun h => absurd rfl h⟩
  by_cases e : k = w1.heap.size
  · omega
  · simp only [if_neg e, tag1] at hn
    rw [if_neg (by omega)] at hn
    exact absurd rfl hn

set_option maxHeartbeats 8000000 in
theorem read_any (w : World) (hE : EnvH w) (a : Option Addr) (ca : Nat) (vs : List Sl) (ps : List (List UInt8)) (hp : Prt w a vs ps) (hl : ps.flatten.length ≤ 32768) (hn : vs.length ≤ 1000) :
    Calls Tryz.prog 39 #[.slice a vs.length ca] w fun e w' => ∃ lp lc L, ∃ st : Nat, e = .returned (.tuple #[.agg #[.slice lp L.length lc, .int .i64 (st : Int)], .bool true]) ∧ Hid (L.map (·.1) = (tell ps.flatten).1 ∧ st = (tell ps.flatten).2.1) ∧ Hid (RqR w' lp L) ∧ Hid (Below w.heap.size w w') := by
  obtain ⟨w0, hw0⟩ : ∃ w0, w0 = w.alloc (.cells #[.slice none 0 0, .int .i64 0] 70) := ⟨_, rfl⟩
  have hb0 : Below w.heap.size w w0 := by rw [hw0]; exact (Below.refl _ _).alloc (Nat.le_refl _) _
  have hz0 : w0.heap.size = w.heap.size + 1 := by rw [hw0]; simp
  have hr0 : w0.heap[w.heap.size]? = some (.cells #[.slice none 0 0, .int .i64 0] 70 (0, 0)) := by rw [hw0]; exact heap_alloc_new w _
  have H0 : Hid (Below w.heap.size w w0 ∧ w0.heap.size = w.heap.size + 1 ∧ w0.heap[w.heap.size]? = some (.cells #[.slice none 0 0, .int .i64 0] 70 (0, 0))) := ⟨hb0, hz0, hr0⟩
  have HNEW := hide (new_any w0)
  have HE := hide (hE.below hb0)
  have HPR := hide (hp.below hb0)
  have HLV := hide hp.len
  clear hb0 hz0 hr0 hp hE
  go_enter Tryz.func39, Tryz.ntmps39
  go_upto_region 1 with fail
  rw [← hw0]
  clear hw0
  go_wp2_with fail
  refine (unhide HNEW).mono ?_
  rintro e w1 ⟨P, r, g, rfl, HP1, HB1⟩
  clear HNEW
  obtain ⟨w2, hw2⟩ : ∃ w2, w2 = w1.alloc (.cells #[.slice none 0 0, .int .i64 1] 70) := ⟨_, rfl⟩
  have HO0 : Hid (OutI w0 w2 w0.heap.size P w1.heap.size []) := by rw [hw2]; exact out0 (unhide HP1) (unhide HB1)
  have HBH : Hid (BH ≤ w0.heap.size) := (unhide HE).le
  go_upto_region 3 with fail
  rw [← hw2]
  clear hw2 HP1 HB1
  go_wp2_with fail
  go_loopw [15] (fun i wr => ∃ k : Nat, k ≤ vs.length ∧ i = .int .i64 (k : Int) ∧ Hid (OutI w0 wr w0.heap.size P w1.heap.size (ps.take k).flatten)) (fun i _ => vs.length - (intOf i).toNat)
  case atStart => exact ⟨0, Nat.zero_le _, rfl, HO0⟩
  case round =>
    clear HO0
    obtain ⟨k, hk, rfl, HO⟩ := hrel
    by_cases hlt : k < vs.length
    · have hlt' : (k : Int) < (vs.length : Int) := by omega
      have hkp : k < ps.length := by have := unhide HLV; omega
      obtain ⟨b, hb⟩ : ∃ b, ps[k]? = some b := ⟨_, List.getElem?_eq_getElem hkp⟩
      have hbw := (unhide HO).base
      have hPw := (unhide HPR).below hbw
      obtain ⟨c, cap, hv, hB⟩ := hPw.pay k b hb
      obtain ⟨bb, off, hae, hce⟩ := hPw.row (by intro e; subst e; simp at hlt)
      subst hae
      have hck := hce k _ hv
      simp only at hck
      have htk := take_flat ps k b hb
      have hfl := flat_le ps (k + 1)
      rw [htk] at hfl
      have hXl : (ps.take k).flatten.length + b.length ≤ 32768 := by rw [List.length_append] at hfl; omega
      obtain ⟨X, hX⟩ : ∃ X, X = (ps.take k).flatten := ⟨_, rfl⟩
      rw [← hX] at HO htk hXl
      have HTK := hide htk
      have HXE := hide hX
      have hbz : w0.heap.size ≤ wr.heap.size := hbw.size
      have HB := hide hB
      clear hbw hPw hv hB hce htk hfl hX hb
      by_cases hs : (tell X).2.1 = 1
      · have HFD := hide (feed_in w0 wr w0.heap.size P w1.heap.size X (unhide HO) hs c cap b (unhide HB) hXl hbz)
        clear HO hs
        go_wp2_with fail
        refine (unhide HFD).mono ?_
        rintro e w3 ⟨rfl, HI⟩
        clear HFD hck
        go_wp2_with fail
        go_loopw [27] (fun i wr => ∃ j : Nat, j ≤ 8192 ∧ i = .int .i64 (j : Int) ∧ Hid (InI w0 wr w0.heap.size P w1.heap.size (X ++ b) j)) (fun i _ => 8192 - (intOf i).toNat)
        case atStart => exact ⟨0, Nat.zero_le _, rfl, HI⟩
        case round =>
          clear HI
          obtain ⟨j, hj, rfl, HI⟩ := hrel
          have hj5 := (unhide HI).base.2
          have hj' : (j : Int) < 8192 := by omega
          have hbw := (unhide HI).base.1
          have HEr : Hid (EnvH wr) := (unhide HE).below hbw
          have hbz3 : w0.heap.size ≤ wr.heap.size := hbw.size
          have HNX : Hid (Calls Tryz.prog 19 #[pt P] wr fun e w' => ∃ (t : Rv) (st : Nat), e = .returned (.tuple #[.agg #[.string (str t.1.m), .string (str t.1.p), .slice t.2.1.1 t.1.h.length t.2.1.2, .slice t.2.2.1 t.1.b.length t.2.2.2], .int .i64 (st : Int)]) ∧ Hid (w0.heap.size ≤ w'.heap.size) ∧ Hid (∃ h L lp lc sv, NxO w0 w' w0.heap.size P w1.heap.size (X ++ b) j t st h L lp lc sv)) := by
            refine (next_in w0 wr w0.heap.size P w1.heap.size (X ++ b) j (unhide HI) (by simp; omega) (unhide HEr) (unhide HBH) hbz3).mono ?_
            rintro e w' ⟨t, st, rfl, HN⟩
            refine ⟨t, st, rfl, ?_, HN⟩
            obtain ⟨_, _, _, _, _, n⟩ := unhide HN
            exact n.2.1.size
          clear hbw HI
          go_wp2_with fail
          refine (unhide HNX).mono ?_
          rintro e w4 ⟨t, st, rfl, HZ4, HN⟩
          clear HNX
          obtain ⟨h, L, lp, lc, sv, hN⟩ := unhide HN
          have HN' := hide hN
          have hq := hN.1
          have hTl := (hN.2.2.1 w1.heap.size (by rw [hq.tT]; decide)).2
          obtain ⟨o, ho⟩ : ∃ o, o = Obj.cells #[.string (str t.1.m), .string (str t.1.p), .slice t.2.1.1 t.1.h.length t.2.1.2, .slice t.2.2.1 t.1.b.length t.2.2.2] 27 := ⟨_, rfl⟩
          have hTo : (w4.alloc o).heap[w1.heap.size]? = _ := (Below.heap_alloc w4 o _ hTl).trans hq.row
          have t1 : (w4.alloc o).cell? ⟨w1.heap.size, 1, none⟩ = some (.int .i64 (sv : Int)) := cell_of_row _ _ _ _ _ _ hTo
          have f1 := frozen_of_row (w4.alloc o) w1.heap.size 1 _ _ hTo
          obtain ⟨U, hU⟩ : ∃ U, U = (w4.alloc o).setCell ⟨w1.heap.size, 1, none⟩ (.int .i64 (st : Int)) := ⟨_, rfl⟩
          have hoU : U.heap[w4.heap.size]? = some (.cells #[.string (str t.1.m), .string (str t.1.p), .slice t.2.1.1 t.1.h.length t.2.1.2, .slice t.2.2.1 t.1.b.length t.2.2.2] 27 (0, 0)) := by
            rw [hU, Below.heap_setCell _ ⟨w1.heap.size, 1, none⟩ _ _ (by show w4.heap.size ≠ w1.heap.size; omega), ho]; exact heap_alloc_new w4 _
          have hzU : U.heap.size = w4.heap.size + 1 := by rw [hU]; simp [World.setCell]
          have HUE := hide hU
          rw [ho] at t1 f1
          rw [World.setCell_alloc_past (w := w4) o w1.heap.size 1 _ hTl, ho] at hU
          have HOU := hide hoU
          have HZU := hide hzU
          clear hTo hq hN hoU hzU HN
          by_cases hst : st = 0
          · subst hst
            have qU : Tld U w0.heap.size w1.heap.size h L lp lc 0 := by rw [unhide HUE]; exact ((unhide HN').1.al (unhide HZ4) (unhide HN').2.2.1 o).status 0
            have u0 : U.cell? ⟨w1.heap.size, 0, none⟩ = some (.slice lp L.length lc) := cell_of_row _ _ _ _ _ _ qU.row
            have u1 : U.cell? ⟨w4.heap.size, 0, none⟩ = some (.string (str t.1.m)) := cell_of_row _ _ _ _ _ _ (unhide HOU)
            have u2 : U.cell? ⟨w4.heap.size, 1, none⟩ = some (.string (str t.1.p)) := cell_of_row _ _ _ _ _ _ (unhide HOU)
            have u3 : U.cell? ⟨w4.heap.size, 2, none⟩ = some (.slice t.2.1.1 t.1.h.length t.2.1.2) := cell_of_row _ _ _ _ _ _ (unhide HOU)
            have u4 : U.cell? ⟨w4.heap.size, 3, none⟩ = some (.slice t.2.2.1 t.1.b.length t.2.2.2) := cell_of_row _ _ _ _ _ _ (unhide HOU)
            have hloU : ∀ k, h k ≠ 0 → w0.heap.size ≤ k ∧ k < U.heap.size := fun k hk => by have := (unhide HN').2.2.1 k hk; have := unhide HZU; omega
            have hzb : w0.heap.size ≤ U.heap.size := by have := unhide HZU; have := unhide HZ4; omega
            have HQ5 : Hid (∀ o2, Tld (U.alloc o2) w0.heap.size w1.heap.size h L lp lc 0) := fun o2 => qU.al hzb hloU o2
            have HLL := (unhide HN').2.2.2.1
            have HTU : Hid (w1.heap.size < U.heap.size) := (hloU _ (by rw [qU.tT]; decide)).2
            clear qU hloU
            rw [show ((0 : Nat) : Int) = 0 from rfl] at hU
            go_upto_region 14 with fail
            rw [← hU]
            clear hU t1 f1
            go_wp2_with (at_builtin; refine wp_appr _ rfl _ _ rfl w0.heap.size lp lc L rfl (unhide HQ5 _).own U.heap.size 1 t rfl (heap_alloc_new U _) (by omega) (by simp; omega) ?_)
            intro g5 cap5 r5 w5 HR5 HO5 HG5 HL5
            have hTlp : blk lp ≠ some w1.heap.size := fun e => by
              have h1 := (unhide HQ5 (.cells #[.string (str t.1.m), .string (str t.1.p), .slice t.2.1.1 t.1.h.length t.2.1.2, .slice t.2.2.1 t.1.b.length t.2.2.2] 27)).tl _ e
              rw [(unhide HQ5 (.cells #[.string (str t.1.m), .string (str t.1.p), .slice t.2.1.1 t.1.h.length t.2.1.2, .slice t.2.2.1 t.1.b.length t.2.2.2] 27)).tT] at h1
              omega
            have hT5 := ((unhide HG5).block w1.heap.size (by have := unhide HTU; simp; omega) (fun e => hTlp e.symm)).trans (unhide HQ5 _).row
            have s0 : w5.cell? ⟨w1.heap.size, 0, none⟩ = some (.slice lp L.length lc) := cell_of_row _ _ _ _ _ _ hT5
            have s1 := frozen_of_row w5 w1.heap.size 0 _ _ hT5
            obtain ⟨W, hW⟩ : ∃ W, W = w5.setCell ⟨w1.heap.size, 0, none⟩ (.slice (some ⟨g5, 0, none⟩) r5.length cap5) := ⟨_, rfl⟩
            have HIN : Hid (InI w0 W w0.heap.size P w1.heap.size (X ++ b) (j + 1)) := by
              have hg := unhide HG5
              have hl5 := unhide HL5
              rw [unhide HUE] at hg hl5
              rw [hW]
              exact (unhide HN').on rfl (unhide HZ4) o _ g5 cap5 r5 (unhide HR5) (unhide HO5) hg (by rw [World.alloc]; simpa using hl5)
            clear hT5 HG5 HL5 HO5 HR5 hTlp u0 u1 u2 u3 u4
            go_wp2
            rw [← hW]
            go_roundw
            case rel => exact ⟨j + 1, by omega, by go_num, HIN⟩
            case measure => simp [intOf]; omega
          · have hsb : ((st : Int) != 0) = true := by simp; omega
            have HOO : Hid (OutI w0 U w0.heap.size P w1.heap.size (ps.take (k + 1)).flatten) := by
              rw [unhide HUE, unhide HTK]
              exact (unhide HN').out hst (unhide HZ4) o
            clear hst
            go_upto_region 14 with fail
            rw [← hU]
            clear hU t1 f1
            go_wp2
            go_roundw
            case rel => exact ⟨k + 1, by omega, by go_num, HOO⟩
            case measure => simp [intOf]; omega
      · have HFD := hide (feed_out w0 wr w0.heap.size P w1.heap.size X (unhide HO) hs (.slice c b.length cap))
        go_wp2_with fail
        refine (unhide HFD).mono ?_
        rintro e wr ⟨rfl, rfl⟩
        clear HFD hck
        have HO := hide ((unhide HO).j)
        have HRS : Hid ((tell ps.flatten).1 = (tell X).1 ∧ (tell ps.flatten).2.1 = (tell X).2.1) := by
          have hf : ps.flatten = X ++ (ps.drop k).flatten := by rw [unhide HXE, ← List.flatten_append, List.take_append_drop]
          rw [hf]
          exact tell_ref _ X hs
        clear hs
        obtain ⟨h, L, lp, lc, sv, q, hw, hge, hL, hsv⟩ := unhide HO
        have hT0 : wr.cell? ⟨w1.heap.size, 0, none⟩ = some (.slice lp L.length lc) := cell_of_row _ _ _ _ _ _ q.row
        have hT1 : wr.cell? ⟨w1.heap.size, 1, none⟩ = some (.int .i64 (sv : Int)) := cell_of_row _ _ _ _ _ _ q.row
        have hrR := (hw.block w.heap.size (by have := (unhide H0).2.1; omega)).trans (unhide H0).2.2
        have v0 : wr.cell? ⟨w.heap.size, 0, none⟩ = some (.slice none 0 0) := cell_of_row _ _ _ _ _ _ hrR
        have v1 : wr.cell? ⟨w.heap.size, 1, none⟩ = some (.int .i64 0) := cell_of_row _ _ _ _ _ _ hrR
        have z0 := frozen_of_row wr w.heap.size 0 _ _ hrR
        have z1 := frozen_of_row wr w.heap.size 1 _ _ hrR
        obtain ⟨W, hW⟩ : ∃ W, W = (wr.setCell ⟨w.heap.size, 0, none⟩ (.slice lp L.length lc)).setCell ⟨w.heap.size, 1, none⟩ (.int .i64 (sv : Int)) := ⟨_, rfl⟩
        have hrW : W.heap[w.heap.size]? = some (.cells #[.slice lp L.length lc, .int .i64 (sv : Int)] 70 (0, 0)) := by rw [hW, heap_setCell_same _ _ 1 _ _ _ (heap_setCell_same _ _ 0 _ _ _ hrR)]; rfl
        have hne : ∀ k, k ≠ w.heap.size → W.heap[k]? = wr.heap[k]? := fun k hk => by rw [hW, Below.heap_setCell _ ⟨w.heap.size, 1, none⟩ _ k hk, Below.heap_setCell _ ⟨w.heap.size, 0, none⟩ _ k hk]
        have y0 : W.cell? ⟨w.heap.size, 0, none⟩ = some (.slice lp L.length lc) := cell_of_row _ _ _ _ _ _ hrW
        have y1 : W.cell? ⟨w.heap.size, 1, none⟩ = some (.int .i64 (sv : Int)) := cell_of_row _ _ _ _ _ _ hrW
        have HF : Hid ((L.map (·.1) = (tell ps.flatten).1 ∧ sv = (tell ps.flatten).2.1) ∧ RqR W lp L ∧ Below w.heap.size w W) := by
          have hb0 := (unhide H0).1
          have hz0 := (unhide H0).2.1
          have hzW : W.heap.size = wr.heap.size := by rw [hW]; simp [World.setCell]
          refine ⟨?_, (q.mv (fun k hk => hne k (fun e => ?_))).rqR, by rw [hW]; exact hw.os.trans hb0.os, by rw [hW]; exact hw.tape.trans hb0.tape, by rw [hW]; exact hw.output.trans hb0.output, by rw [hzW]; exact Nat.le_trans hb0.size hw.size, fun k hk => (hne k (by omega)).trans ((hw.block k (by omega)).trans (hb0.block k hk))⟩
          · rw [(unhide HRS).1, (unhide HRS).2]; exact ⟨hL, hsv⟩
          · have := hge k (by omega)
            omega
        clear hrR hrW hne q hw HO hge hL hsv
        go_wp2
        rw [← hW]
        refine bodyPost_ret (v := .tuple #[.agg #[.slice lp L.length lc, .int .i64 (sv : Int)], .bool true]) (by simp [results, Tryz.results39, go_sem, y0, y1]) rfl ⟨lp, lc, L, sv, rfl, (unhide HF).1, (unhide HF).2.1, (unhide HF).2.2⟩
    · obtain rfl : k = vs.length := by omega
      have HO := hide ((unhide HO).j)
      have HRS : Hid (ps.take vs.length = ps) := by show _ = _; rw [unhide HLV]; exact List.take_length
      clear hlt
      obtain ⟨h, L, lp, lc, sv, q, hw, hge, hL, hsv⟩ := unhide HO
      have hT0 : wr.cell? ⟨w1.heap.size, 0, none⟩ = some (.slice lp L.length lc) := cell_of_row _ _ _ _ _ _ q.row
      have hT1 : wr.cell? ⟨w1.heap.size, 1, none⟩ = some (.int .i64 (sv : Int)) := cell_of_row _ _ _ _ _ _ q.row
      have hrR := (hw.block w.heap.size (by have := (unhide H0).2.1; omega)).trans (unhide H0).2.2
      have v0 : wr.cell? ⟨w.heap.size, 0, none⟩ = some (.slice none 0 0) := cell_of_row _ _ _ _ _ _ hrR
      have v1 : wr.cell? ⟨w.heap.size, 1, none⟩ = some (.int .i64 0) := cell_of_row _ _ _ _ _ _ hrR
      have z0 := frozen_of_row wr w.heap.size 0 _ _ hrR
      have z1 := frozen_of_row wr w.heap.size 1 _ _ hrR
      obtain ⟨W, hW⟩ : ∃ W, W = (wr.setCell ⟨w.heap.size, 0, none⟩ (.slice lp L.length lc)).setCell ⟨w.heap.size, 1, none⟩ (.int .i64 (sv : Int)) := ⟨_, rfl⟩
      have hrW : W.heap[w.heap.size]? = some (.cells #[.slice lp L.length lc, .int .i64 (sv : Int)] 70 (0, 0)) := by rw [hW, heap_setCell_same _ _ 1 _ _ _ (heap_setCell_same _ _ 0 _ _ _ hrR)]; rfl
      have hne : ∀ k, k ≠ w.heap.size → W.heap[k]? = wr.heap[k]? := fun k hk => by rw [hW, Below.heap_setCell _ ⟨w.heap.size, 1, none⟩ _ k hk, Below.heap_setCell _ ⟨w.heap.size, 0, none⟩ _ k hk]
      have y0 : W.cell? ⟨w.heap.size, 0, none⟩ = some (.slice lp L.length lc) := cell_of_row _ _ _ _ _ _ hrW
      have y1 : W.cell? ⟨w.heap.size, 1, none⟩ = some (.int .i64 (sv : Int)) := cell_of_row _ _ _ _ _ _ hrW
      have HF : Hid ((L.map (·.1) = (tell ps.flatten).1 ∧ sv = (tell ps.flatten).2.1) ∧ RqR W lp L ∧ Below w.heap.size w W) := by
        have hb0 := (unhide H0).1
        have hz0 := (unhide H0).2.1
        have hzW : W.heap.size = wr.heap.size := by rw [hW]; simp [World.setCell]
        refine ⟨?_, (q.mv (fun k hk => hne k (fun e => ?_))).rqR, by rw [hW]; exact hw.os.trans hb0.os, by rw [hW]; exact hw.tape.trans hb0.tape, by rw [hW]; exact hw.output.trans hb0.output, by rw [hzW]; exact Nat.le_trans hb0.size hw.size, fun k hk => (hne k (by omega)).trans ((hw.block k (by omega)).trans (hb0.block k hk))⟩
        · rw [unhide HRS] at hL hsv; exact ⟨hL, hsv⟩
        · have := hge k (by omega)
          omega
      clear hrR hrW hne q hw HO hge hL hsv
      go_wp2
      rw [← hW]
      refine bodyPost_ret (v := .tuple #[.agg #[.slice lp L.length lc, .int .i64 (sv : Int)], .bool true]) (by simp [results, Tryz.results39, go_sem, y0, y1]) rfl ⟨lp, lc, L, sv, rfl, (unhide HF).1, (unhide HF).2.1, (unhide HF).2.2⟩
#print axioms read_any
end Go.Proofs.YthkadboeokgjnaaGreatDoor
end
section
set_option linter.unusedVariables false
set_option maxRecDepth 1000000
namespace Go.Proofs.YthkadboeokgjnaaGreatDoor
open Go.RowKit

/-- Ints that are read. -/
structure IRow (w : World) (a : Option Addr) (l : List Int) : Prop where
  row : l ≠ [] → ∃ b off, a = some ⟨b, off, none⟩ ∧ ∀ i, i < l.length → w.cell? ⟨b, off + i, none⟩ = some (.int .i64 (l.getD i 0))
  le : l.length ≤ maxLen
theorem IRow.below {w w' : World} {a : Option Addr} {l : List Int} (h : IRow w a l) (hb : Below w.heap.size w w') : IRow w' a l := by
  refine ⟨fun hne => ?_, h.le⟩
  obtain ⟨b, off, e, hc⟩ := h.row hne
  exact ⟨b, off, e, fun i hi => by rw [hb.cell (World.block_lt_of_cell? w _ (hc i hi))]; exact hc i hi⟩
theorem Bs.dropc {w : World} {ab ao : Nat} {sp : Option Nat} {c : Nat} {l : List UInt8} (h : Bs w (some ⟨ab, ao, sp⟩) c l) (M : Nat) (hM : M ≤ l.length) : Bs w (if c = M then some ⟨ab, ao, sp⟩ else some ((⟨ab, ao, sp⟩ : Addr).add M)) (c - M) (l.drop M) := by
  have hle := h.le
  have hmost := h.most
  refine ⟨fun hne => ?_, by simp; omega, by omega, fun e => by split at e <;> cases e⟩
  have hn : c ≠ M := fun e => hne (List.drop_eq_nil_of_le (by omega))
  rw [if_neg hn]
  obtain ⟨b, off, e, hc⟩ := h.row (fun e => hne (by rw [e]; simp))
  simp only [Option.some.injEq, Addr.mk.injEq] at e
  obtain ⟨rfl, rfl, rfl⟩ := e
  rw [addr_add]
  exact (Row.drop (fun _ => ⟨_, _, rfl, hc⟩) M) hne
/-- Pieces that were cut off, and the rest. -/
structure PcI (w wr : World) (b : List UInt8) (x : Option Addr) (c : Nat) (rest : List UInt8) (p : Option Addr) (pc : Nat) (vs : List Sl) (ps : List (List UInt8)) : Prop where
  bs : Bs w x c rest
  own : OwnS wr w.heap.size p pc vs
  len : vs.length = ps.length
  pay : ∀ (i : Nat) (q : List UInt8), ps[i]? = some q → ∃ c cap, vs[i]? = some (c, q.length, cap) ∧ Bs w c cap q
  eq : ps.flatten ++ rest = b
  bel : Below w.heap.size w wr
theorem PcI.snoc {w wr w' : World} {b : List UInt8} {x : Option Addr} {c : Nat} {rest : List UInt8} {p : Option Addr} {pc : Nat} {vs : List Sl} {ps : List (List UInt8)} (h : PcI w wr b x c rest p pc vs ps) (y : Option Addr) (cy : Nat) (q : List UInt8) (hq : Bs w y cy q) (x2 : Option Addr) (c2 : Nat) (r2 : List UInt8) (h2 : Bs w x2 c2 r2) (e : q ++ r2 = rest)
    (p2 : Option Addr) (pc2 : Nat) (r : List Sl) (hr : r = vs ++ [(y, q.length, cy)]) (ho : OwnS w' w.heap.size p2 pc2 r) (hb : Below w.heap.size w w') : PcI w w' b x2 c2 r2 p2 pc2 r (ps ++ [q]) := by
  subst hr
  refine ⟨h2, ho, by simp [h.len], fun i z hz => ?_, by rw [List.flatten_append]; simp; rw [← h.eq, ← e], hb⟩
  by_cases hi : i < ps.length
  · rw [List.getElem?_append_left hi] at hz
    obtain ⟨c', cap', k1, k2⟩ := h.pay i z hz
    exact ⟨c', cap', by rw [List.getElem?_append_left (by rw [h.len]; exact hi)]; exact k1, k2⟩
  · have h3 := (List.getElem?_eq_some_iff.1 hz).1
    simp at h3
    obtain rfl : i = ps.length := by omega
    simp at hz
    subst hz
    exact ⟨y, cy, by rw [← h.len]; simp, hq⟩
theorem PcI.prt {w wr : World} {b : List UInt8} {x : Option Addr} {c : Nat} {rest : List UInt8} {p : Option Addr} {pc : Nat} {vs : List Sl} {ps : List (List UInt8)} (h : PcI w wr b x c rest p pc vs ps) : Prt wr p vs ps := by
  refine ⟨h.len, fun hne => ?_, fun i q hq => ?_⟩
  · obtain ⟨g, rfl, _, _, _, hc⟩ := h.own.some (List.length_pos_iff.2 hne)
    exact ⟨g, 0, rfl, fun i x hx => by rw [Nat.zero_add]; exact hc i x hx⟩
  · obtain ⟨c', cap', k1, k2⟩ := h.pay i q hq
    exact ⟨c', cap', k1, k2.below h.bel (Nat.le_refl _)⟩
theorem grown_bel {w wr w' : World} {p : Option Addr} {pc : Nat} {vs : List Sl} (hb : Below w.heap.size w wr) (ho : OwnS wr w.heap.size p pc vs) (o : Obj) (hg : (wr.alloc o).grownBy w' (blk p)) : Below w.heap.size w w' :=
  below_grown (a := p) (hb.alloc hb.size _) hg (Nat.le_refl _) (fun k hk => (ho.lt k hk).1)
set_option maxHeartbeats 4000000 in
theorem pieces_any (w : World) (x : Option Addr) (cx : Nat) (b : List UInt8) (hb : Bs w x cx b) (hbl : b.length ≤ 1000000) (a : Option Addr) (ca : Nat) (cuts : List Int) (hc : IRow w a cuts) :
    Calls Tryz.prog 40 #[.slice x b.length cx, .slice a cuts.length ca] w fun e w' => ∃ p pc vs ps, e = .returned (.slice p vs.length pc) ∧ Hid (Prt w' p vs ps ∧ ps.flatten = b ∧ vs.length ≤ 101) ∧ Hid (Below w.heap.size w w') := by
  have HI0 : Hid (PcI w w b x cx b none 0 [] []) := ⟨hb, OwnS.nil _ _, rfl, fun i q h => by simp at h, rfl, Below.refl _ _⟩
  have HC := hide hc
  have hcl := hc.le
  unfold maxLen at hcl
  clear hb hc
  go_enter Tryz.func40, Tryz.ntmps40
  go_wp2
  go_loopw [0, 5, 6] (fun v0 v5 v6 wr => ∃ (k : Nat) (x' : Option Addr) (c' : Nat) (rest : List UInt8) (p : Option Addr) (pc : Nat) (vs : List Sl) (ps : List (List UInt8)), k ≤ 100 ∧ k ≤ cuts.length ∧ v0 = .slice x' rest.length c' ∧ v5 = .slice p vs.length pc ∧ v6 = .int .i64 (k : Int) ∧ vs.length ≤ k ∧ rest.length ≤ 1000000 ∧ Hid (PcI w wr b x' c' rest p pc vs ps)) (fun _ _ v6 _ => 100 - (intOf v6).toNat)
  case atStart => exact ⟨0, x, cx, b, none, 0, [], [], by omega, by omega, rfl, rfl, rfl, Nat.le_refl _, hbl, HI0⟩
  case round =>
    clear HI0
    obtain ⟨k, x', c', rest, p, pc, vs, ps, hk, hkc, rfl, rfl, rfl, hvk, hrl, HI⟩ := hrel
    have hfin : ¬ (k < cuts.length ∧ k < 100) → True := fun _ => trivial
    by_cases hlt : k < cuts.length ∧ k < 100
    · obtain ⟨h1, h2⟩ := hlt
      have h1' : (k : Int) < (cuts.length : Int) := by omega
      have h2' : (k : Int) < 100 := by omega
      obtain ⟨ib, io, hae, hcell⟩ := ((unhide HC).below (unhide HI).bel).row (by intro e; subst e; simp at h1)
      subst hae
      have hck := hcell k h1
      obtain ⟨z, hz⟩ : ∃ z, z = cuts.getD k 0 := ⟨_, rfl⟩
      rw [← hz] at hck
      obtain ⟨K, hK⟩ : ∃ K : Nat, IntKind.u64.wrap z = (K : Int) := ⟨(IntKind.u64.wrap z).toNat, by rw [IntKind.wrap_u64]; omega⟩
      obtain ⟨R, hR⟩ : ∃ R, R = K % (rest.length + 1) := ⟨_, rfl⟩
      have hRl : R ≤ rest.length := by have := Nat.mod_lt K (show 0 < rest.length + 1 by omega); omega
      have hR1 : (K : Int).tmod ((rest.length : Int) + 1) = (R : Int) := by rw [hR]; exact (Int.ofNat_tmod K (rest.length + 1)).symm
      have hR2 : (K : Int) % ((rest.length : Int) + 1) = (R : Int) := by rw [hR]; simp
      clear hR hz hcell
      have hw1 : IntKind.u64.wrap ((rest.length : Int) + 1) = (rest.length : Int) + 1 := by rw [IntKind.wrap_u64]; omega
      have hBs := (unhide HI).bs
      have hcap := hBs.le
      cases x' with
      | none =>
        obtain rfl := hBs.nz rfl
        obtain rfl : rest = [] := List.eq_nil_of_length_eq_zero (by omega)
        obtain rfl : R = 0 := by simpa using hRl
        clear hBs hcap
        go_wp2_with (at_builtin; refine wp_apps1 _ rfl _ _ rfl w.heap.size p pc vs rfl ((unhide HI).own.alloc _) wr.heap.size 1 (none, 0, 0) rfl (cell_lits wr none 0 0) (by omega) (by have := (unhide HI).bel.size; simp; omega) ?_)
        intro a' cap' r w' hr ho hg
        have HI2 : Hid (PcI w w' b none 0 [] a' cap' r (ps ++ [[]])) := (unhide HI).snoc none 0 [] (unhide HI).bs none 0 [] (unhide HI).bs rfl a' cap' r (unhide hr) ho (grown_bel (unhide HI).bel (unhide HI).own _ hg)
        have hrk : r.length ≤ k + 1 := by rw [unhide hr]; simp; omega
        clear hr ho hg HI
        go_wp2
        go_roundw
        case rel => exact ⟨k + 1, none, 0, [], a', cap', r, ps ++ [[]], by omega, by omega, rfl, rfl, by go_num, hrk, by simp, HI2⟩
        case measure => simp [intOf]; omega
      | some ad =>
        obtain ⟨ab, ao, sp⟩ := ad
        have hRc : R ≤ c' := by omega
        have hBd := hBs.dropc R hRl
        have hBt : Bs w (some ⟨ab, ao, sp⟩) c' (rest.take R) := ⟨hBs.row.take R, by simp; omega, hBs.most, hBs.nz⟩
        have htl : (rest.take R).length = R := by simp; omega
        have hdl : (rest.drop R).length = rest.length - R := by simp
        have HBD := hide hBd
        have HBT := hide hBt
        have HTL := hide htl
        have HDL := hide hdl
        clear hBs hBd hBt htl hdl
        go_wp2_with (at_builtin; refine wp_apps1 _ rfl _ _ rfl w.heap.size p pc vs rfl ((unhide HI).own.alloc _) wr.heap.size 1 (some ⟨ab, ao, sp⟩, R, c') rfl (cell_lits wr _ _ _) (by omega) (by have := (unhide HI).bel.size; simp; omega) ?_)
        intro a' cap' r w' hr ho hg
        have HI2 : Hid (PcI w w' b (if c' = R then some ⟨ab, ao, sp⟩ else some ((⟨ab, ao, sp⟩ : Addr).add R)) (c' - R) (rest.drop R) a' cap' r (ps ++ [rest.take R])) := (unhide HI).snoc _ _ _ (unhide HBT) _ _ _ (unhide HBD) (List.take_append_drop _ _) a' cap' r (by rw [unhide HTL]; exact unhide hr) ho (grown_bel (unhide HI).bel (unhide HI).own _ hg)
        have hrk : r.length ≤ k + 1 := by rw [unhide hr]; simp; omega
        clear hr ho hg HI
        go_wp2
        go_roundw
        case rel => exact ⟨k + 1, (if c' = R then some ⟨ab, ao, sp⟩ else some ((⟨ab, ao, sp⟩ : Addr).add R)), c' - R, rest.drop R, a', cap', r, ps ++ [rest.take R], by omega, by omega, (by rw [unhide HDL]), rfl, by go_num, hrk, by rw [unhide HDL]; omega, HI2⟩
        case measure => simp [intOf]; omega
    · have hd : (decide ((k : Int) < (cuts.length : Int)) && decide ((k : Int) < 100)) = false := by
        simp
        omega
      by_cases h1 : k < cuts.length
      · have h1' : (k : Int) < (cuts.length : Int) := by omega
        have h2' : ¬ (k : Int) < 100 := by omega
        clear hd hlt
        go_wp2_with (at_builtin; refine wp_apps1 _ rfl _ _ rfl w.heap.size p pc vs rfl ((unhide HI).own.alloc _) wr.heap.size 1 (x', rest.length, c') rfl (cell_lits wr _ _ _) (by omega) (by have := (unhide HI).bel.size; simp; omega) ?_)
        intro a' cap' r w' hr ho hg
        have HI2 : Hid (PcI w w' b none 0 [] a' cap' r (ps ++ [rest])) := (unhide HI).snoc _ _ _ (unhide HI).bs none 0 [] (bs_none _) (by simp) a' cap' r (unhide hr) ho (grown_bel (unhide HI).bel (unhide HI).own _ hg)
        have hrk : r.length ≤ 101 := by rw [unhide hr]; simp; omega
        clear hr ho hg HI
        go_wp2
        go_ret
        exact ⟨a', cap', r, ps ++ [rest], rfl, ⟨(unhide HI2).prt, by have := (unhide HI2).eq; rw [List.append_nil] at this; exact this, hrk⟩, (unhide HI2).bel⟩
      · have h1' : ¬ (k : Int) < (cuts.length : Int) := by omega
        clear hd hlt
        go_wp2_with (at_builtin; refine wp_apps1 _ rfl _ _ rfl w.heap.size p pc vs rfl ((unhide HI).own.alloc _) wr.heap.size 1 (x', rest.length, c') rfl (cell_lits wr _ _ _) (by omega) (by have := (unhide HI).bel.size; simp; omega) ?_)
        intro a' cap' r w' hr ho hg
        have HI2 : Hid (PcI w w' b none 0 [] a' cap' r (ps ++ [rest])) := (unhide HI).snoc _ _ _ (unhide HI).bs none 0 [] (bs_none _) (by simp) a' cap' r (unhide hr) ho (grown_bel (unhide HI).bel (unhide HI).own _ hg)
        have hrk : r.length ≤ 101 := by rw [unhide hr]; simp; omega
        clear hr ho hg HI
        go_wp2
        go_ret
        exact ⟨a', cap', r, ps ++ [rest], rfl, ⟨(unhide HI2).prt, by have := (unhide HI2).eq; rw [List.append_nil] at this; exact this, hrk⟩, (unhide HI2).bel⟩

/-- Bounds of what is told. -/
theorem tell_bound : ∀ l, ∀ q ∈ (tell l).1, q.h.length ≤ 32 ∧ q.b.length ≤ 32768 := by
  refine tell_ind _ (fun l h => ?_) (fun l h i => ?_)
  · rw [tell_no l h]; intro q hq; simp at hq
  · rw [tell_yes l h]
    intro q hq
    rcases List.mem_cons.1 hq with e | e
    · have hb := pM_hl l
      have hp : (pM l).1 = (run0 l).2.2.2 := by
        unfold pM parseM
        have h' : (runM RM (.head []) Rq.nil l).2.1 = 0 := h
        simp only [h', if_true]
        rfl
      rw [hp, ← e] at hb
      exact hb
    · exact i q e
set_option maxHeartbeats 4000000 in
theorem eqr_any (a1 a2 : Option Addr) (c1 c2 : Nat) (L1 L2 : List Rv) (w : World) (h1 : RqR w a1 L1) (h2 : RqR w a2 L2) (he : L1.map (·.1) = L2.map (·.1)) (hb : ∀ q ∈ L1.map (·.1), q.h.length ≤ 32 ∧ q.b.length ≤ 32768) (hl : L1.length ≤ 1000000) :
    Calls Tryz.prog 41 #[.slice a1 L1.length c1, .slice a2 L2.length c2, .func (.func 13) #[] #[]] w fun e w' => e = .returned (.bool true) ∧ Hid (Below w.heap.size w w') := by
  have hlen : L1.length = L2.length := by have := congrArg List.length he; simpa using this
  have H1 := hide h1
  have H2 := hide h2
  have HE := hide he
  have HB := hide hb
  obtain ⟨n, hn⟩ : ∃ n, n = L1.length := ⟨_, rfl⟩
  rw [← hlen, ← hn]
  have HN := hide hn
  have HN2 : Hid (n = L2.length) := hn.trans hlen
  rw [← hn] at hl
  clear h1 h2 he hb hlen hn
  go_enter Tryz.func41, Tryz.ntmps41
  go_wp2
  go_loopw [17] (fun i wr => ∃ k : Nat, k ≤ n ∧ i = .int .i64 (k : Int) ∧ Hid (Below w.heap.size w wr)) (fun i _ => n - (intOf i).toNat)
  case atStart => exact ⟨0, Nat.zero_le _, rfl, Below.refl _ _⟩
  case round =>
    obtain ⟨k, hk, rfl, HW⟩ := hrel
    by_cases hlt : k < n
    · have hlt' : (k : Int) < (n : Int) := by omega
      have hk1 : k < L1.length := by have := unhide HN; omega
      have hk2 : k < L2.length := by have := unhide HN2; omega
      obtain ⟨t1, g1⟩ : ∃ t, L1[k]? = some t := ⟨_, List.getElem?_eq_getElem hk1⟩
      obtain ⟨t2, g2⟩ : ∃ t, L2[k]? = some t := ⟨_, List.getElem?_eq_getElem hk2⟩
      have hr1 := (unhide H1).below (unhide HW)
      have hr2 := (unhide H2).below (unhide HW)
      obtain ⟨b1, o1, e1, cc1⟩ := hr1.mem (by intro e; subst e; simp at hk1)
      obtain ⟨b2, o2, e2, cc2⟩ := hr2.mem (by intro e; subst e; simp at hk2)
      subst e1 e2
      have x0 := cc1 k t1 g1 0 (by decide)
      have x1 := cc1 k t1 g1 1 (by decide)
      have x2 := cc1 k t1 g1 2 (by decide)
      have x3 := cc1 k t1 g1 3 (by decide)
      have y0 := cc2 k t2 g2 0 (by decide)
      have y1 := cc2 k t2 g2 1 (by decide)
      have y2 := cc2 k t2 g2 2 (by decide)
      have y3 := cc2 k t2 g2 3 (by decide)
      have p1 := hr1.part t1 (List.mem_of_getElem? g1)
      have p2 := hr2.part t2 (List.mem_of_getElem? g2)
      have ht : t1.1 = t2.1 := by
        have e := unhide HE
        have e3 := congrArg (fun l => l[k]?) e
        simp only [List.getElem?_map, g1, g2, Option.map_some, Option.some.injEq] at e3
        exact e3
      have hbd := unhide HB t1.1 (List.mem_map.2 ⟨t1, List.mem_of_getElem? g1, rfl⟩)
      obtain ⟨⟨m, p, H, B⟩, ⟨hp, hc⟩, ⟨bp, bc⟩⟩ := t1
      obtain ⟨q2, ⟨hq, hd⟩, ⟨bq, bd⟩⟩ := t2
      simp only at ht
      subst ht
      simp only [rqC, List.getElem?_cons_zero, List.getElem?_cons_succ, Nat.add_zero, ← Nat.add_assoc] at x0 x1 x2 x3 y0 y1 y2 y3
      simp only at p1 p2 hbd
      have hb2l : b2 < wr.heap.size := World.block_lt_of_cell? wr _ y0
      obtain ⟨oa, hoa⟩ : ∃ o, o = Obj.cells #[.string (str m), .string (str p), .slice hp H.length hc, .slice bp B.length bc] 27 := ⟨_, rfl⟩
      obtain ⟨ob, hob⟩ : ∃ o, o = Obj.cells #[.string (str m), .string (str p), .slice hq H.length hd, .slice bq B.length bd] 27 := ⟨_, rfl⟩
      have hbo : Below wr.heap.size wr ((wr.alloc oa).alloc ob) := ((Below.refl _ _).alloc (Nat.le_refl _) _).alloc (by simp) _
      have HSR := hide (same_eq m p H B hp hq bp bq hc hd bc bd ((wr.alloc oa).alloc ob) (p1.1.below hbo (Nat.le_refl _)) (p2.1.below hbo (Nat.le_refl _)) (p1.2.below hbo (Nat.le_refl _)) (p2.2.below hbo (Nat.le_refl _)) (by omega) (by omega))
      have HBO : Hid (Below w.heap.size w ((wr.alloc oa).alloc ob)) := (unhide HW).trans (hbo.mono (unhide HW).size)
      rw [hoa, hob] at HSR HBO
      clear hr1 hr2 cc1 cc2 p1 p2 hbd g1 g2 hbo hoa hob oa ob hk1 hk2
      go_wp2_with fail
      refine (unhide HSR).mono ?_
      rintro e w3 ⟨rfl, HB3⟩
      clear HSR x0 x1 x2 x3 y0 y1 y2 y3
      go_wp2
      go_roundw
      case rel => exact ⟨k + 1, by omega, by go_num, hide ((unhide HBO).trans ((unhide HB3).mono (unhide HBO).size))⟩
      case measure => simp [intOf]; omega
    · obtain rfl : k = n := by omega
      go_wp2
      go_ret
      exact ⟨rfl, HW⟩
#print axioms eqr_any
end Go.Proofs.YthkadboeokgjnaaGreatDoor
end
