/-
  disk: perform.
-/
import Derived.Test.YtkhpjlgbiicdcaaDskF
import Derived.Deep.RegionLaw
import Derived.Deep.DeepCutAuto
set_option linter.unusedVariables false
namespace Go.Proofs.Ytkhpjlgbiicdcaa
open Go.RowKit Go.Maps

def Md.perform (M : Md) (a : Ac) : Md :=
  Md.count { M with seen := doF M.seen a, seenN := doN M.seen M.seenN a, pend := M.pend ++ [a] } a.n (if M.peaks a.n < ((fget (doF M.seen a) a.n).length : Int) then ((fget (doF M.seen a) a.n).length : Int) else M.peaks a.n)

theorem set4 {w : World} {Z : Nat} {t : TypeId} {a0 a1 a2 a3 : Value} (h : w.heap[Z]? = some (.cells #[a0, a1, a2, a3] t (0, 0))) (b0 b1 b2 b3 : Value) :
    ((((w.setCell ⟨Z, 0, none⟩ b0).setCell ⟨Z, 1, none⟩ b1).setCell ⟨Z, 2, none⟩ b2).setCell ⟨Z, 3, none⟩ b3).heap[Z]? = some (.cells #[b0, b1, b2, b3] t (0, 0)) := by
  simp only [World.setCell, Array.getElem?_modify]
  rw [if_pos trivial, if_pos trivial, if_pos trivial, if_pos trivial, h]
  rfl
theorem set4g (w : World) (Z : Nat) (b0 b1 b2 b3 : Value) : w.grownBy ((((w.setCell ⟨Z, 0, none⟩ b0).setCell ⟨Z, 1, none⟩ b1).setCell ⟨Z, 2, none⟩ b2).setCell ⟨Z, 3, none⟩ b3) (some Z) :=
  (((grownBy_setCell w ⟨Z, 0, none⟩ b0).trans (grownBy_setCell _ ⟨Z, 1, none⟩ b1)).trans (grownBy_setCell _ ⟨Z, 2, none⟩ b2)).trans (grownBy_setCell _ ⟨Z, 3, none⟩ b3)

theorem do_any (g : Nat → Tg) (tr : Nm → Tg) (bm : Nat) (f : Files) (cnt : Nat) (a : Ac) (K P : Int) (x : Option Addr) (c : Nat) (w : World) (h : FM w g tr bm f cnt) (ht : TR g tr bm) (HK : Hid (K = (a.k : Int))) (hk : a.k ≤ 2) (hn : a.n.length ≤ 1000) (HP : Hid (P = (a.p : Int))) (hb : Bs w x c a.b) (hx : ∀ k, blk x = some k → g k ≠ tr a.n)
    (hl : (fget f a.n).length ≤ 1000000000) (hp : a.p ≤ 1000000000) (hbl : a.b.length ≤ 1000000000) (hc : cnt ≤ 1000000000) :
    Calls Try.prog 34 #[.map (some bm), .agg #[.int .i64 K, .string (str a.n), .int .i64 P, .slice x a.b.length c]] w fun e w' => e = .returned (.tuple #[]) ∧ ∃ g', Hid (FM w' g' tr bm (doF f a) (doN f cnt a)) ∧ Hid (St w w' g g' (fun t => t = g bm ∨ t = tr a.n)) := by
  obtain ⟨k, n, p, b⟩ := a
  simp only at *
  rcases (by omega : k = 0 ∨ k = 1 ∨ k = 2) with rfl | rfl | rfl
  · obtain rfl : K = 0 := unhide HK
    exact do_write g tr bm f cnt n p P x c b w h ht hn HP hb hx hl hp hbl hc
  · obtain rfl : K = 1 := unhide HK
    exact do_cut g tr bm f cnt n p P x c b w h ht hn HP hl hp hc
  · obtain rfl : K = 2 := unhide HK
    exact do_drop g tr bm f cnt n p P x c b w h hn

/-- The files as they are seen have turned. -/
theorem DS.doSeen {w w' : World} {g g' : Nat → Tg} {i : Nat} {J : DJ} {M : Md} (h : DS w g i J M) {f : Files} {c : Nat} {n : Nm} (hf : FM w' g' (.sr i) J.S f c) (x : St w w' g g' (fun t => t = .s i ∨ t = .sr i n)) : DS w' g' i J { M with seen := f, seenN := c } := by
  refine ⟨x.heap h.dsk ?_, (x.ag _ h.ltD).trans h.gD, (x.ag _ h.fl.lt).trans h.gL, (x.ag _ h.fs.lt).trans h.gS, (x.ag _ h.pk.lt).trans h.gK, ?_, h.fl.st x ?_ ?_, hf, h.pk.st x ?_, ?_⟩
  · rw [h.gD]; rintro (e | e) <;> cases e
  · intro k hk
    obtain ⟨l, _, hl, _⟩ := h.pd
    exact (x.ag k (hl.lt k hk)).trans (h.gP k hk)
  · rw [h.gL]; rintro (e | e) <;> cases e
  · rintro m (e | e) <;> cases e
  · rw [h.gK]; rintro (e | e) <;> cases e
  · obtain ⟨l, h1, h2, h3⟩ := h.pd
    refine ⟨l, h1, h2.st x (fun k hk => by rw [h.gP k hk]; rintro (e | e) <;> cases e), fun t ht => ⟨(h3 t ht).1.st x (fun k hk => by rw [((h3 t ht).2 k hk).2]; rintro (e | e) <;> cases e), fun k hk => ?_⟩⟩
    have := (h3 t ht).2 k hk
    exact ⟨Nat.lt_of_lt_of_le this.1 x.size, (x.ag k this.1).trans this.2⟩
/-- .. as they last. -/
theorem DS.doLast {w w' : World} {g g' : Nat → Tg} {i : Nat} {J : DJ} {M : Md} (h : DS w g i J M) {f : Files} {c : Nat} {n : Nm} (hf : FM w' g' (.lr i) J.L f c) (x : St w w' g g' (fun t => t = .l i ∨ t = .lr i n)) : DS w' g' i J { M with last := f, lastN := c } := by
  refine ⟨x.heap h.dsk ?_, (x.ag _ h.ltD).trans h.gD, (x.ag _ h.fl.lt).trans h.gL, (x.ag _ h.fs.lt).trans h.gS, (x.ag _ h.pk.lt).trans h.gK, ?_, hf, h.fs.st x ?_ ?_, h.pk.st x ?_, ?_⟩
  · rw [h.gD]; rintro (e | e) <;> cases e
  · intro k hk
    obtain ⟨l, _, hl, _⟩ := h.pd
    exact (x.ag k (hl.lt k hk)).trans (h.gP k hk)
  · rw [h.gS]; rintro (e | e) <;> cases e
  · rintro m (e | e) <;> cases e
  · rw [h.gK]; rintro (e | e) <;> cases e
  · obtain ⟨l, h1, h2, h3⟩ := h.pd
    refine ⟨l, h1, h2.st x (fun k hk => by rw [h.gP k hk]; rintro (e | e) <;> cases e), fun t ht => ⟨(h3 t ht).1.st x (fun k hk => by rw [((h3 t ht).2 k hk).2]; rintro (e | e) <;> cases e), fun k hk => ?_⟩⟩
    have := (h3 t ht).2 k hk
    exact ⟨Nat.lt_of_lt_of_le this.1 x.size, (x.ag k this.1).trans this.2⟩

/-- An act stands behind the pending ones: the row has grown, then the disk's cell was written. -/
theorem DS.addPend {w w1 : World} {g : Nat → Tg} {i : Nat} {J : DJ} {M : Md} (h : DS w g i J M) {l : List At} {t : At} {G cap : Nat} (hl1 : l.map (·.1) = M.pend) (hl2 : OwnA w J.P J.pc l) (hl3 : ∀ t ∈ l, Bs w t.2.1 t.2.2 t.1.b ∧ ∀ k, blk t.2.1 = some k → k < w.heap.size ∧ g k = .a i) (ht : Bs w t.2.1 t.2.2 t.1.b ∧ ∀ k, blk t.2.1 = some k → k < w.heap.size ∧ g k = .a i)
    (ho : OwnA w1 (some ⟨G, 0, none⟩) cap (l ++ [t])) (hg : w.grownBy w1 (blk J.P)) (hloc : blk J.P = some G ∨ w.heap.size ≤ G) :
    DS (w1.setCell ⟨J.D, 3, none⟩ (.slice (some ⟨G, 0, none⟩) (l.length + 1) cap)) (fun k => if k < w.heap.size then g k else if k = G then .p i else .o) i { J with P := some ⟨G, 0, none⟩, pc := cap } { M with pend := M.pend ++ [t.1] } ∧
    St w (w1.setCell ⟨J.D, 3, none⟩ (.slice (some ⟨G, 0, none⟩) (l.length + 1) cap)) g (fun k => if k < w.heap.size then g k else if k = G then .p i else .o) (fun t => t = .d i ∨ t = .p i) := by
  have hw1 : St w w1 g (fun k => if k < w.heap.size then g k else if k = G then .p i else .o) (fun t => t = .p i) :=
    ⟨hg.os, hg.tape, hg.output, hg.size, fun k hk hs => hg.block k hk (fun e => hs (h.gP k e.symm)), fun k hk => by simp [hk]⟩
  have hD1 : w1.heap[J.D]? = some (.cells (dcells J M) 58 (0, 0)) := hw1.heap h.dsk (by rw [h.gD]; intro e; cases e)
  have hDlt := h.ltD
  have hset : St w1 (w1.setCell ⟨J.D, 3, none⟩ (.slice (some ⟨G, 0, none⟩) (l.length + 1) cap)) (fun k => if k < w.heap.size then g k else if k = G then .p i else .o) (fun k => if k < w.heap.size then g k else if k = G then .p i else .o) (fun t => t = .d i) :=
    St.ofG (grownBy_setCell w1 ⟨J.D, 3, none⟩ _) (fun k hk => by rw [← Option.some.inj hk]; simp only [hDlt, if_true]; exact h.gD)
  have x : St w (w1.setCell ⟨J.D, 3, none⟩ (.slice (some ⟨G, 0, none⟩) (l.length + 1) cap)) g (fun k => if k < w.heap.size then g k else if k = G then .p i else .o) (fun t => t = .d i ∨ t = .p i) := (hw1.mono (fun t e => .inr e)).trans (hset.mono (fun t e => .inl e))
  have hGlt : G < w1.heap.size := ho.lt G rfl
  have hGt : (fun k => if k < w.heap.size then g k else if k = G then Tg.p i else .o) G = .p i := by
    by_cases e : G < w.heap.size
    · simp only [e, if_true]
      rcases hloc with h' | h'
      · exact h.gP G h'
      · omega
    · simp [e]
  refine ⟨⟨?_, (x.ag _ h.ltD).trans h.gD, (x.ag _ h.fl.lt).trans h.gL, (x.ag _ h.fs.lt).trans h.gS, (x.ag _ h.pk.lt).trans h.gK, ?_, h.fl.st x ?_ ?_, h.fs.st x ?_ ?_, h.pk.st x ?_, ?_⟩, x⟩
  · have e1 : l.length + 1 = (M.pend ++ [t.1]).length := by rw [← hl1]; simp
    simp only [World.setCell, Array.getElem?_modify]
    rw [if_pos trivial, hD1, e1]
    rfl
  · intro k hk
    obtain rfl : G = k := by simpa [blk] using hk
    exact hGt
  · rw [h.gL]; rintro (e | e) <;> cases e
  · rintro m (e | e) <;> cases e
  · rw [h.gS]; rintro (e | e) <;> cases e
  · rintro m (e | e) <;> cases e
  · rw [h.gK]; rintro (e | e) <;> cases e
  · refine ⟨l ++ [t], by simp [hl1], ho.st hset (fun k hk => ?_), fun u hu => ?_⟩
    · obtain rfl : G = k := by simpa [blk] using hk
      intro e
      have := hGt.symm.trans e
      cases this
    · have key : Bs w u.2.1 u.2.2 u.1.b ∧ ∀ k, blk u.2.1 = some k → k < w.heap.size ∧ g k = .a i := by
        rcases List.mem_append.1 hu with h' | h'
        · exact hl3 u h'
        · rw [List.mem_singleton.1 h']; exact ht
      refine ⟨key.1.st x (fun k hk => by rw [(key.2 k hk).2]; rintro (e | e) <;> cases e), fun k hk => ?_⟩
      have := key.2 k hk
      exact ⟨Nat.lt_of_lt_of_le this.1 x.size, (x.ag k this.1).trans this.2⟩

/-- The cells of a box. -/
def Box (w : World) (Z : Nat) (c0 c1 c2 c3 : Value) : Prop := w.heap[Z]? = some (.cells #[c0, c1, c2, c3] 63 (0, 0))
theorem Box.cells {w : World} {Z : Nat} {c0 c1 c2 c3 : Value} (h : Box w Z c0 c1 c2 c3) : w.cell? ⟨Z, 0, none⟩ = some c0 ∧ w.cell? ⟨Z, 1, none⟩ = some c1 ∧ w.cell? ⟨Z, 2, none⟩ = some c2 ∧ w.cell? ⟨Z, 3, none⟩ = some c3 := by
  unfold Box at h
  refine ⟨?_, ?_, ?_, ?_⟩
  · rw [cell_of_row w Z 0 _ _ _ h]; rfl
  · rw [cell_of_row w Z 1 _ _ _ h]; rfl
  · rw [cell_of_row w Z 2 _ _ _ h]; rfl
  · rw [cell_of_row w Z 3 _ _ _ h]; rfl

theorem Box.st {w w' : World} {g g' : Nat → Tg} {S : Tg → Prop} {Z : Nat} {c0 c1 c2 c3 : Value} (h : Box w Z c0 c1 c2 c3) (x : St w w' g g' S) (hs : ¬ S (g Z)) : Box w' Z c0 c1 c2 c3 := x.heap h hs
theorem Box.lt {w : World} {Z : Nat} {c0 c1 c2 c3 : Value} (h : Box w Z c0 c1 c2 c3) : Z < w.heap.size := (Array.getElem?_eq_some_iff.1 h).1
/-- All that perform keeps in mind. -/
structure PS (w : World) (g : Nat → Tg) (i : Nat) (J : DJ) (M : Md) (Z : Nat) (a : Ac) (y : Option Addr) (cy : Nat) : Prop where
  ds : DS w g i J M
  box : Box w Z (.int .i64 (a.k : Int)) (.string (str a.n)) (.int .i64 (a.p : Int)) (.slice y a.b.length cy)
  tz : g Z = .o
  by' : Bs w y cy a.b
  ty : ∀ k, blk y = some k → k < w.heap.size ∧ g k = .a i
theorem PS.below {w w' : World} {g : Nat → Tg} {i : Nat} {J : DJ} {M : Md} {Z : Nat} {a : Ac} {y : Option Addr} {cy : Nat} (h : PS w g i J M Z a y cy) (x : Below w.heap.size w w') : PS w' g i J M Z a y cy :=
  ⟨h.ds.below x, h.box.st (St.ofBelow g (fun _ => False) x) (fun e => e), h.tz, h.by'.below x (Nat.le_refl _), fun k hk => ⟨Nat.lt_of_lt_of_le (h.ty k hk).1 x.size, (h.ty k hk).2⟩⟩
theorem PS.step {w w' : World} {g g' : Nat → Tg} {i : Nat} {J J' : DJ} {M M' : Md} {Z : Nat} {a : Ac} {y : Option Addr} {cy : Nat} {S : Tg → Prop} (h : PS w g i J M Z a y cy) (x : St w w' g g' S) (ho : ¬ S .o) (ha : ¬ S (.a i)) (d : DS w' g' i J' M') : PS w' g' i J' M' Z a y cy :=
  ⟨d, h.box.st x (by rw [h.tz]; exact ho), (x.ag Z h.box.lt).trans h.tz, h.by'.st x (fun k hk => by rw [(h.ty k hk).2]; exact ha), fun k hk => ⟨Nat.lt_of_lt_of_le (h.ty k hk).1 x.size, (x.ag k (h.ty k hk).1).trans (h.ty k hk).2⟩⟩
theorem perf2 {w w' : World} {g g' : Nat → Tg} {i : Nat} {J : DJ} {M : Md} {Z : Nat} {a : Ac} {y : Option Addr} {cy : Nat} {f : Files} {c : Nat} (h : PS w g i J M Z a y cy) (hf : Hid (FM w' g' (.sr i) J.S f c)) (x : Hid (St w w' g g' (fun t => t = g J.S ∨ t = .sr i a.n))) :
    PS w' g' i J { M with seen := f, seenN := c } Z a y cy ∧ St w w' g g' (fun t => t.of i) := by
  have x' := unhide x
  rw [h.ds.gS] at x'
  refine ⟨h.step x' (by rintro (e | e) <;> cases e) (by rintro (e | e) <;> cases e) (h.ds.doSeen (unhide hf) x'), x'.mono (fun t e => ?_)⟩
  rcases e with e | e <;> (rw [e]; rfl)
theorem perf3 {w w1 : World} {g : Nat → Tg} {i : Nat} {J : DJ} {M : Md} {Z : Nat} {a : Ac} {y : Option Addr} {cy : Nat} (h : PS w g i J M Z a y cy) {l : List At} {G cap : Nat} (hl1 : l.map (·.1) = M.pend) (hl2 : OwnA w J.P J.pc l) (hl3 : ∀ t ∈ l, Bs w t.2.1 t.2.2 t.1.b ∧ ∀ k, blk t.2.1 = some k → k < w.heap.size ∧ g k = .a i)
    (ho : OwnA w1 (some ⟨G, 0, none⟩) cap (l ++ [(a, y, cy)])) (hg : w.grownBy w1 (blk J.P)) (hloc : Hid (blk J.P = some G ∨ G = w.heap.size)) :
    (w1.cell? ⟨J.D, 3, none⟩ = some (.slice J.P M.pend.length J.pc) ∧ w1.frozen? ⟨J.D, 3, none⟩ = false ∧ Box w1 Z (.int .i64 (a.k : Int)) (.string (str a.n)) (.int .i64 (a.p : Int)) (.slice y a.b.length cy)) ∧
    ∃ g', PS (w1.setCell ⟨J.D, 3, none⟩ (.slice (some ⟨G, 0, none⟩) (M.pend.length + 1) cap)) g' i { J with P := some ⟨G, 0, none⟩, pc := cap } { M with pend := M.pend ++ [a] } Z a y cy ∧ St w (w1.setCell ⟨J.D, 3, none⟩ (.slice (some ⟨G, 0, none⟩) (M.pend.length + 1) cap)) g g' (fun t => t.of i) := by
  have hDne : some J.D ≠ blk J.P := fun e => by have := h.ds.gP J.D e.symm; rw [h.ds.gD] at this; cases this
  have hD1 : w1.heap[J.D]? = some (.cells (dcells J M) 58 (0, 0)) := by rw [hg.block J.D h.ds.ltD hDne]; exact h.ds.dsk
  obtain ⟨d, x⟩ := h.ds.addPend (t := (a, y, cy)) hl1 hl2 hl3 ⟨h.by', h.ty⟩ ho hg ((unhide hloc).imp id (fun e => Nat.le_of_eq e.symm))
  have e : l.length = M.pend.length := by rw [← hl1]; simp
  rw [e] at d x
  have hZne : some Z ≠ blk J.P := fun e => by have := h.ds.gP Z e.symm; rw [h.tz] at this; cases this
  refine ⟨⟨by rw [cell_of_row w1 J.D 3 _ _ _ hD1]; rfl, frozen_of_row w1 J.D 3 _ _ hD1, by unfold Box; rw [hg.block Z h.box.lt hZne]; exact h.box⟩, _, h.step x (by rintro (e | e) <;> cases e) (by rintro (e | e) <;> cases e) d, x.mono (fun t e => ?_)⟩
  rcases e with e | e <;> (rw [e]; rfl)

theorem perf4 {w w' : World} {g : Nat → Tg} {i : Nat} {J : DJ} {M : Md} {Z : Nat} {c0 c1 c2 c3 : Value} (hd : Hid (DS w' g i J M)) (x : Hid (St w w' g g (fun t => t = .d i ∨ t = .k i))) (hb : Box w Z c0 c1 c2 c3) (tz : g Z = .o) :
    w'.cell? ⟨J.D, 4, none⟩ = some (.map (some J.K)) ∧ w'.cell? ⟨J.D, 2, none⟩ = some (.map (some J.S)) ∧ w'.cell? ⟨Z, 1, none⟩ = some c1 :=
  ⟨(unhide hd).c4, (unhide hd).c2, (hb.st (unhide x) (by rw [tz]; rintro (e | e) <;> cases e)).cells.2.1⟩
theorem perf5 {w v w' : World} {g g3 : Nat → Tg} {i : Nat} {J J3 : DJ} {M' M4 : Md} {n : Nm} {z : Int} (hv : Hid (M' = M4.count n z)) (hd : Hid (DS w' g3 i { J3 with kc := J3.kc + 1 } (M4.count n z))) (x : St w v g g3 (fun t => t.of i)) (y : Hid (St v w' g3 g3 (fun t => t = .d i ∨ t = .k i))) (e1 : J3.D = J.D := by rfl) (e2 : J3.kc = J.kc := by rfl) :
    Hid (DS w' g3 i { J3 with kc := J3.kc + 1 } M') ∧ Hid (St w w' g g3 (fun t => t.of i)) ∧ Hid (({ J3 with kc := J3.kc + 1 } : DJ).D = J.D ∧ ({ J3 with kc := J3.kc + 1 } : DJ).kc = J.kc + 1) := by
  refine ⟨?_, ?_, ?_⟩
  · rw [unhide hv]; exact hd
  · exact x.trans ((unhide y).mono (fun t e => by rcases e with e | e <;> (rw [e]; rfl)))
  · exact ⟨e1, by show J3.kc + 1 = _; rw [e2]⟩
set_option maxRecDepth 20000 in
set_option maxHeartbeats 2000000 in
theorem perform_any (g : Nat → Tg) (i : Nat) (J : DJ) (M : Md) (a : Ac) (K P : Int) (x : Option Addr) (c : Nat) (w : World) (h : DS w g i J M) (HK : Hid (K = (a.k : Int))) (hk : a.k ≤ 2) (hn : a.n.length ≤ 1000) (HP : Hid (P = (a.p : Int))) (hb : Bs w x c a.b)
    (hl : (fget M.seen a.n).length ≤ 1000000000) (hl2 : (fget (doF M.seen a) a.n).length ≤ 1000000000) (hp : a.p ≤ 1000000000) (hbl : a.b.length ≤ 100000000) (hc : M.seenN ≤ 1000000000) (hpl : M.pend.length ≤ 1000000) (hkc : J.kc ≤ 1000000) :
    Calls Try.prog 45 #[.pointer (some ⟨J.D, 0, none⟩), .agg #[.int .i64 K, .string (str a.n), .int .i64 P, .slice x a.b.length c]] w fun e w' => e = .returned (.tuple #[]) ∧ ∃ g' J', Hid (DS w' g' i J' (M.perform a)) ∧ Hid (St w w' g g' (fun t => t.of i)) ∧ Hid (J'.D = J.D ∧ J'.kc = J.kc + 1) := by
  obtain rfl : K = (a.k : Int) := unhide HK
  obtain rfl : P = (a.p : Int) := unhide HP
  obtain ⟨w0, hw0⟩ : ∃ w0, w0 = w.alloc (.cells #[.int .i64 (a.k : Int), .string (str a.n), .int .i64 (a.p : Int), .slice x a.b.length c] 63) := ⟨_, rfl⟩
  obtain ⟨Z, hZ⟩ : ∃ Z, Z = w.heap.size := ⟨_, rfl⟩
  have z0 : Box w0 Z (.int .i64 (a.k : Int)) (.string (str a.n)) (.int .i64 (a.p : Int)) (.slice x a.b.length c) := by unfold Box; rw [hw0, hZ]; exact heap_alloc_new w _
  have hB0 : Below w.heap.size w w0 := by rw [hw0]; exact (Below.refl _ _).alloc (Nat.le_refl _) _
  have hs0 : w0.heap.size = w.heap.size + 1 := by rw [hw0]; simp
  have hb0 : Bs w0 x c a.b := hb.below hB0 (Nat.le_refl _)
  have HW := hide hw0
  have HZ := hide hZ
  have HS0 := hide hs0
  have Z0 := hide z0
  clear hw0 hZ hs0 z0
  go_enter Try.func45, Try.ntmps45
  go_wp2_with fail
  rw [← unhide HW]
  refine (aclone_any (a.k : Int) (a.p : Int) a.n x c a.b w0 hn hb0 hbl).mono ?_
  rintro e w1 ⟨y, cy, rfl, ho1, hb1⟩
  rw [← unhide HZ]
  -- behind the store into the box
  obtain ⟨u1, hu1⟩ : ∃ u1, u1 = (((w1.setCell ⟨Z, 0, none⟩ (.int .i64 (a.k : Int))).setCell ⟨Z, 1, none⟩ (.string (str a.n))).setCell ⟨Z, 2, none⟩ (.int .i64 (a.p : Int))).setCell ⟨Z, 3, none⟩ (.slice y a.b.length cy) := ⟨_, rfl⟩
  have z1 : Box w1 Z (.int .i64 (a.k : Int)) (.string (str a.n)) (.int .i64 (a.p : Int)) (.slice x a.b.length c) := by
    unfold Box
    rw [hb1.block Z (by have := unhide HZ; have := unhide HS0; omega)]
    exact unhide Z0
  obtain ⟨e0, e1, e2, e3⟩ := z1.cells
  have q0 : w1.frozen? ⟨Z, 0, none⟩ = false := frozen_of_row w1 Z 0 _ _ z1
  have q1 : w1.frozen? ⟨Z, 1, none⟩ = false := frozen_of_row w1 Z 1 _ _ z1
  have q2 : w1.frozen? ⟨Z, 2, none⟩ = false := frozen_of_row w1 Z 2 _ _ z1
  have q3 : w1.frozen? ⟨Z, 3, none⟩ = false := frozen_of_row w1 Z 3 _ _ z1
  have HA : Hid (∃ g1, PS u1 g1 i J M Z a y cy ∧ St w u1 g g1 (fun t => t.of i)) := by
    have hzz := unhide HZ
    have hss := unhide HS0
    have hg4 : w1.grownBy u1 (some Z) := by rw [hu1]; exact set4g _ _ _ _ _ _
    have hBw : Below w.heap.size w u1 := (hB0.trans (hb1.mono hB0.size)).grown hg4 (Nat.le_trans hB0.size hb1.size) (fun j hj => by rw [← Option.some.inj hj]; omega)
    have hyl := ho1.lt
    have hyn : ∀ k, blk y = some k → Z < k := fun k hk => by have := (hyl k hk).1; omega
    have hbu : OwnB u1 w0.heap.size y cy a.b := ho1.kept hg4 (by cases hy : blk y with | none => exact .inl rfl | some k => exact .inr (fun e => by have := hyn k hy; have := Option.some.inj e; omega))
    refine ⟨fun k => if k < w.heap.size then g k else if blk y = some k then .a i else .o, ⟨?_, ?_, ?_, hbu.toBs, fun k hk => ⟨(hbu.lt k hk).2, ?_⟩⟩, ?_⟩
    · exact h.st (⟨hBw.os, hBw.tape, hBw.output, hBw.size, fun k hk _ => hBw.block k hk, fun k hk => by simp [hk]⟩ : St w u1 g _ (fun _ => False)) (fun _ _ e => e)
    · unfold Box; rw [hu1]; exact set4 z1 _ _ _ _
    · have : ¬ Z < w.heap.size := by omega
      simp only [this, if_false]
      rw [if_neg (fun e => by have := hyn Z e; omega)]
    · have := hyn k hk
      show (if k < w.heap.size then g k else if blk y = some k then Tg.a i else Tg.o) = .a i
      rw [if_neg (by omega), if_pos hk]
    · exact ⟨hBw.os, hBw.tape, hBw.output, hBw.size, fun k hk _ => hBw.block k hk, fun k hk => by simp [hk]⟩
  have HU := hide hu1
  clear hu1 ho1 hb1 h hb hB0 hb0 z1 Z0
  go_wp2_with fail
  rw [← unhide HU]
  clear e0 e1 e2 e3 q0 q1 q2 q3 HU
  obtain ⟨g1, p1, st1⟩ := unhide HA
  clear HA
  -- d.seen.do(a)
  have pd1 := p1.below (w' := u1.drew) (Below.refl _ _).drew
  have sd1 : St u1 u1.drew g1 g1 (fun t => t.of i) := St.ofBelow g1 _ (Below.refl _ _).drew
  obtain ⟨b0, b1, b2, b3⟩ := pd1.box.cells
  have hS1 := And.intro pd1.ds.c2 (And.intro b0 (And.intro b1 (And.intro b2 b3)))
  have P1 := hide pd1
  have hxt : ∀ k, blk y = some k → g1 k ≠ .sr i a.n := fun k hk e => by have := (pd1.ty k hk).2; rw [e] at this; cases this
  have hby := pd1.by'
  have hfs := pd1.ds.fs
  have htS := pd1.ds.trS
  have hbl' : a.b.length ≤ 1000000000 := by omega
  have ST1 := hide (st1.trans sd1)
  clear p1 st1 sd1 pd1 b0 b1 b2 b3
  go_region_held3 (fun w' => w'.cell? ⟨J.D, 2, none⟩ = some (.map (some J.S)) ∧ w'.cell? ⟨Z, 0, none⟩ = some (.int .i64 (a.k : Int)) ∧ w'.cell? ⟨Z, 1, none⟩ = some (.string (str a.n)) ∧ w'.cell? ⟨Z, 2, none⟩ = some (.int .i64 (a.p : Int)) ∧ w'.cell? ⟨Z, 3, none⟩ = some (.slice y a.b.length cy)) (first | exact hS1 | exact And.intro p2.ds.c2 p2.box.cells) ((go_at_call 34; refine (do_any g1 (.sr i) J.S M.seen M.seenN a (a.k : Int) (a.p : Int) y cy _ hfs htS rfl hk hn rfl hby hxt hl hp hbl' hc).mono ?_; rintro e w2 ⟨rfl, g2, HF, HT⟩; obtain ⟨p2, st2⟩ := perf2 (unhide P1) HF HT))
  have P2 := hide p2
  have ST2 := hide ((unhide ST1).trans st2)
  clear p2 st2 HF HT hxt hby hfs htS hS1 P1 ST1
  go_upto_region 3 with fail
  go_cut [] (fun wx => ∃ (G cap : Nat) (g3 : Nat → Tg), PS wx g3 i { J with P := some ⟨G, 0, none⟩, pc := cap } { M with seen := doF M.seen a, seenN := doN M.seen M.seenN a, pend := M.pend ++ [a] } Z a y cy ∧ St w wx g g3 (fun t => t.of i))
  case first =>
    -- d.pending = append(d.pending, a)
    obtain ⟨v, hv⟩ : ∃ v, v = (w2.alloc (.cells #[.int .i64 (a.k : Int), .string (str a.n), .int .i64 (a.p : Int), .slice y a.b.length cy] 63)).drew := ⟨_, rfl⟩
    have hBv : Below w2.heap.size w2 v := by rw [hv]; exact ((Below.refl _ _).alloc (Nat.le_refl _) _).drew
    have pd2 := (unhide P2).below (w' := w2.drew) (Below.refl _ _).drew
    have pv := (unhide P2).below hBv
    obtain ⟨b0, b1, b2, b3⟩ := pd2.box.cells
    have hS2 := And.intro b0 (And.intro b1 (And.intro b2 b3))
    have hSv := pv.box.cells
    have c3 := pd2.ds.c3
    have c3v := pv.ds.c3
    obtain ⟨l, hl1, hlo, hl3⟩ := pv.ds.pd
    have hsrc : v.heap[w2.heap.size]? = some (.cells (acC (a, y, cy)).toArray 63 (0, 0)) := by rw [hv]; exact heap_alloc_new w2 _
    have HLn : Hid (M.pend.length = l.length) := by
      show _ = _
      have := congrArg List.length hl1
      simpa using this.symm
    have hll : l.length ≤ 1000000 := by have := unhide HLn; omega
    have HL1 := hide hl1
    have HL3 := hide hl3
    have HSR := hide hsrc
    have PV := hide pv
    have stv : St w2 v g2 g2 (fun t => t.of i) := St.ofBelow g2 _ hBv
    have ST3 := hide ((unhide ST2).trans stv)
    simp only at c3 c3v
    clear pd2 pv b0 b1 b2 b3 hl1 hl3 hsrc stv hBv P2 ST2
    subst hv
    have c3w : w2.cell? ⟨J.D, 3, none⟩ = some (.slice J.P M.pend.length J.pc) := c3
    have c3u : (w2.alloc (.cells #[.int .i64 (a.k : Int), .string (str a.n), .int .i64 (a.p : Int), .slice y a.b.length cy] 63)).cell? ⟨J.D, 3, none⟩ = some (.slice J.P M.pend.length J.pc) := c3v
    clear c3 c3v
    have b0 : w2.cell? ⟨Z, 0, none⟩ = some (.int .i64 (a.k : Int)) := hS2.1
    have b1 : w2.cell? ⟨Z, 1, none⟩ = some (.string (str a.n)) := hS2.2.1
    have b2 : w2.cell? ⟨Z, 2, none⟩ = some (.int .i64 (a.p : Int)) := hS2.2.2.1
    have b3 : w2.cell? ⟨Z, 3, none⟩ = some (.slice y a.b.length cy) := hS2.2.2.2
    clear hS2 hSv
    go_region_law (refine stp_appa _ rfl _ _ rfl J.P J.pc l M.pend.length rfl (unhide HLn) hlo w2.heap.size 1 (a, y, cy) rfl (unhide HSR) hll ?_; intro G cap w3 ho3 hg3 hloc3; obtain ⟨k3, g3, p3, st3⟩ := perf3 (unhide PV) (unhide HL1) hlo (unhide HL3) ho3 hg3 hloc3; have k31 := k3.1; have k32 := k3.2.1)
    all_goals (go_wp2_with fail; go_meet; exact ⟨G, cap, g3, p3, (unhide ST3).trans st3⟩)
  case rest =>
    obtain ⟨G, cap, g3, p3, st3⟩ := hcut
    clear P2 ST2
    have pd3 := p3.below (w' := wc.drew) (Below.refl _ _).drew
    have sd3 : St wc wc.drew g3 g3 (fun t => t.of i) := St.ofBelow g3 _ (Below.refl _ _).drew
    have ST4 := hide (st3.trans sd3)
    have D4 := hide pd3.ds
    have hnm : a.n.length ≤ maxLen := by unfold maxLen; omega
    obtain ⟨hwf, pook⟩ := pd3.ds.pk.at a.n hnm
    obtain ⟨xx, cc, _, _, look⟩ := pd3.ds.fs.at a.n hnm
    have hp1 := pook wc.drew rfl
    have hl1 := (look wc.drew rfl).1
    have hS4 := And.intro pd3.ds.c4 (And.intro pd3.ds.c2 pd3.box.cells.2.1)
    have B4 := hide pd3.box
    have T4 := hide pd3.tz
    simp only at hp1 hl1 hS4 hwf
    clear pd3 sd3 st3 p3 pook look
    obtain ⟨X, hX⟩ : ∃ X, X = (if M.peaks a.n < ((fget (doF M.seen a) a.n).length : Int) then ((fget (doF M.seen a) a.n).length : Int) else M.peaks a.n) := ⟨_, rfl⟩
    have HV : Hid (M.perform a = Md.count { M with seen := doF M.seen a, seenN := doN M.seen M.seenN a, pend := M.pend ++ [a] } a.n X) := by show _ = _; unfold Md.perform; rw [← hX]
    have hwX : (Lit.int .i64 X).wf = true := by
      rw [hX]
      split
      · exact wf_i64 (by omega) (by omega)
      · exact hwf
    have hif := hX.symm
    clear hX hwf
    go_wp2_with fail
    go_region_held3 (fun w' => w'.cell? ⟨J.D, 4, none⟩ = some (.map (some J.K)) ∧ w'.cell? ⟨J.D, 2, none⟩ = some (.map (some J.S)) ∧ w'.cell? ⟨Z, 1, none⟩ = some (.string (str a.n))) (first | exact hS4 | (have q4 := perf4 HD HS (unhide B4) (unhide T4); exact q4)) ((go_at_call 50; refine (count_any g3 i { J with P := some ⟨G, 0, none⟩, pc := cap } { M with seen := doF M.seen a, seenN := doN M.seen M.seenN a, pend := M.pend ++ [a] } a.n X _ (unhide D4) hn hwX hkc).mono ?_; rintro e w5 ⟨rfl, HD, HS⟩))
    all_goals (go_wp2; go_end0; have FIN := perf5 (J := J) (J3 := { J with P := some ⟨G, 0, none⟩, pc := cap }) HV HD (unhide ST4) HS; exact ⟨rfl, g3, _, FIN⟩)
#print axioms perform_any
end Go.Proofs.Ytkhpjlgbiicdcaa
