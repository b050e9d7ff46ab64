/-
  disk: perform.; disk: New, Write, Cut, Drop, Read, Pending, Used, Room; the bounds that a disk keeps.; disk: Cut, Drop, Read, Pending, Used, Room, New.; disk: Flush.; disk: torn, kept.; disk: kept.
-/
import Derived.Test.YtmcgghjeocnpnaaGreatDoorPkKewsak
import Derived.Deep.RegionLaw
import Derived.Deep.DeepCutAuto
section
set_option linter.unusedVariables false
namespace Go.Proofs.YtmcgghjeocnpnaaGreatDoor
open Go.RowKit Go.Maps

def Md.perform (M : Md) (a : Ac) : Md :=
  Md.count { M with seen := doF M.seen a, seenN := doN M.seen M.seenN a, pend := M.pend ++ [a] } a.n (if M.peaks a.n < ((fget (doF M.seen a) a.n).length : Int) then ((fget (doF M.seen a) a.n).length : Int) else M.peaks a.n)

theorem set4 {w : World} {Z : Nat} {t : TypeId} {a0 a1 a2 a3 : Value} (h : w.heap[Z]? = some (.cells #[a0, a1, a2, a3] t (0, 0))) (b0 b1 b2 b3 : Value) :
    ((((w.setCell ⟨Z, 0, none⟩ b0).setCell ⟨Z, 1, none⟩ b1).setCell ⟨Z, 2, none⟩ b2).setCell ⟨Z, 3, none⟩ b3).heap[Z]? = some (.cells #[b0, b1, b2, b3] t (0, 0)) := by
  simp only [World.setCell, Array.getElem?_modify]
  rw [if_pos trivial, if_pos trivial, if_pos trivial, if_pos trivial, h]
  rfl
theorem set4g (w : World) (Z : Nat) (b0 b1 b2 b3 : Value) : w.grownBy ((((w.setCell ⟨Z, 0, none⟩ b0).setCell ⟨Z, 1, none⟩ b1).setCell ⟨Z, 2, none⟩ b2).setCell ⟨Z, 3, none⟩ b3) (some Z) :=
  (((grownBy_setCell w ⟨Z, 0, none⟩ b0).trans (grownBy_setCell _ ⟨Z, 1, none⟩ b1)).trans (grownBy_setCell _ ⟨Z, 2, none⟩ b2)).trans (grownBy_setCell _ ⟨Z, 3, none⟩ b3)

theorem do_any (g : Nat → Tg) (tr : Nm → Tg) (bm : Nat) (f : Files) (cnt : Nat) (a : Ac) (K P : Int) (x : Option Addr) (c : Nat) (w : World) (h : FM w g tr bm f cnt) (ht : TR g tr bm) (HK : Hid (K = (a.k : Int))) (hk : a.k ≤ 2) (hn : a.n.length ≤ 1000) (HP : Hid (P = (a.p : Int))) (hb : Bs w x c a.b) (hx : ∀ k, blk x = some k → g k ≠ tr a.n)
    (hl : (fget f a.n).length ≤ 1000000000) (hp : a.p ≤ 1000000000) (hbl : a.b.length ≤ 1000000000) (hc : cnt ≤ 1000000000) :
    Calls Tryz.prog 43 #[.map (some bm), .agg #[.int .i64 K, .string (str a.n), .int .i64 P, .slice x a.b.length c]] w fun e w' => e = .returned (.tuple #[]) ∧ ∃ g', Hid (FM w' g' tr bm (doF f a) (doN f cnt a)) ∧ Hid (St w w' g g' (fun t => t = g bm ∨ t = tr a.n)) := by
  obtain ⟨k, n, p, b⟩ := a
  simp only at *
  rcases (by omega : k = 0 ∨ k = 1 ∨ k = 2) with rfl | rfl | rfl
  · obtain rfl : K = 0 := unhide HK
    exact do_write g tr bm f cnt n p P x c b w h ht hn HP hb hx hl hp hbl hc
  · obtain rfl : K = 1 := unhide HK
    exact do_cut g tr bm f cnt n p P x c b w h ht hn HP hl hp hc
  · obtain rfl : K = 2 := unhide HK
    exact do_drop g tr bm f cnt n p P x c b w h hn

/-- The files as they are seen have turned. -/
theorem DS.doSeen {w w' : World} {g g' : Nat → Tg} {i : Nat} {J : DJ} {M : Md} (h : DS w g i J M) {f : Files} {c : Nat} {n : Nm} (hf : FM w' g' (.sr i) J.S f c) (x : St w w' g g' (fun t => t = .s i ∨ t = .sr i n)) : DS w' g' i J { M with seen := f, seenN := c } := by
  refine ⟨x.heap h.dsk ?_, (x.ag _ h.ltD).trans h.gD, (x.ag _ h.fl.lt).trans h.gL, (x.ag _ h.fs.lt).trans h.gS, (x.ag _ h.pk.lt).trans h.gK, ?_, h.fl.st x ?_ ?_, hf, h.pk.st x ?_, ?_⟩
  · rw [h.gD]; rintro (e | e) <;> cases e
  · intro k hk
    obtain ⟨l, _, hl, _⟩ := h.pd
    exact (x.ag k (hl.lt k hk)).trans (h.gP k hk)
  · rw [h.gL]; rintro (e | e) <;> cases e
  · rintro m (e | e) <;> cases e
  · rw [h.gK]; rintro (e | e) <;> cases e
  · obtain ⟨l, h1, h2, h3⟩ := h.pd
    refine ⟨l, h1, h2.st x (fun k hk => by rw [h.gP k hk]; rintro (e | e) <;> cases e), fun t ht => ⟨(h3 t ht).1.st x (fun k hk => by rw [((h3 t ht).2 k hk).2]; rintro (e | e) <;> cases e), fun k hk => ?_⟩⟩
    have := (h3 t ht).2 k hk
    exact ⟨Nat.lt_of_lt_of_le this.1 x.size, (x.ag k this.1).trans this.2⟩
/-- .. as they last. -/
theorem DS.doLast {w w' : World} {g g' : Nat → Tg} {i : Nat} {J : DJ} {M : Md} (h : DS w g i J M) {f : Files} {c : Nat} {n : Nm} (hf : FM w' g' (.lr i) J.L f c) (x : St w w' g g' (fun t => t = .l i ∨ t = .lr i n)) : DS w' g' i J { M with last := f, lastN := c } := by
  refine ⟨x.heap h.dsk ?_, (x.ag _ h.ltD).trans h.gD, (x.ag _ h.fl.lt).trans h.gL, (x.ag _ h.fs.lt).trans h.gS, (x.ag _ h.pk.lt).trans h.gK, ?_, hf, h.fs.st x ?_ ?_, h.pk.st x ?_, ?_⟩
  · rw [h.gD]; rintro (e | e) <;> cases e
  · intro k hk
    obtain ⟨l, _, hl, _⟩ := h.pd
    exact (x.ag k (hl.lt k hk)).trans (h.gP k hk)
  · rw [h.gS]; rintro (e | e) <;> cases e
  · rintro m (e | e) <;> cases e
  · rw [h.gK]; rintro (e | e) <;> cases e
  · obtain ⟨l, h1, h2, h3⟩ := h.pd
    refine ⟨l, h1, h2.st x (fun k hk => by rw [h.gP k hk]; rintro (e | e) <;> cases e), fun t ht => ⟨(h3 t ht).1.st x (fun k hk => by rw [((h3 t ht).2 k hk).2]; rintro (e | e) <;> cases e), fun k hk => ?_⟩⟩
    have := (h3 t ht).2 k hk
    exact ⟨Nat.lt_of_lt_of_le this.1 x.size, (x.ag k this.1).trans this.2⟩

/-- An act stands behind the pending ones: the row has grown, then the disk's cell was written. -/
theorem DS.addPend {w w1 : World} {g : Nat → Tg} {i : Nat} {J : DJ} {M : Md} (h : DS w g i J M) {l : List At} {t : At} {G cap : Nat} (hl1 : l.map (·.1) = M.pend) (hl2 : OwnA w J.P J.pc l) (hl3 : ∀ t ∈ l, Bs w t.2.1 t.2.2 t.1.b ∧ ∀ k, blk t.2.1 = some k → k < w.heap.size ∧ g k = .a i) (ht : Bs w t.2.1 t.2.2 t.1.b ∧ ∀ k, blk t.2.1 = some k → k < w.heap.size ∧ g k = .a i)
    (ho : OwnA w1 (some ⟨G, 0, none⟩) cap (l ++ [t])) (hg : w.grownBy w1 (blk J.P)) (hloc : blk J.P = some G ∨ w.heap.size ≤ G) :
    DS (w1.setCell ⟨J.D, 3, none⟩ (.slice (some ⟨G, 0, none⟩) (l.length + 1) cap)) (fun k => if k < w.heap.size then g k else if k = G then .p i else .o) i { J with P := some ⟨G, 0, none⟩, pc := cap } { M with pend := M.pend ++ [t.1] } ∧
    St w (w1.setCell ⟨J.D, 3, none⟩ (.slice (some ⟨G, 0, none⟩) (l.length + 1) cap)) g (fun k => if k < w.heap.size then g k else if k = G then .p i else .o) (fun t => t = .d i ∨ t = .p i) := by
  have hw1 : St w w1 g (fun k => if k < w.heap.size then g k else if k = G then .p i else .o) (fun t => t = .p i) :=
    ⟨hg.os, hg.tape, hg.output, hg.size, fun k hk hs => hg.block k hk (fun e => hs (h.gP k e.symm)), fun k hk => by simp [hk]⟩
  have hD1 : w1.heap[J.D]? = some (.cells (dcells J M) 79 (0, 0)) := hw1.heap h.dsk (by rw [h.gD]; intro e; cases e)
  have hDlt := h.ltD
  have hset : St w1 (w1.setCell ⟨J.D, 3, none⟩ (.slice (some ⟨G, 0, none⟩) (l.length + 1) cap)) (fun k => if k < w.heap.size then g k else if k = G then .p i else .o) (fun k => if k < w.heap.size then g k else if k = G then .p i else .o) (fun t => t = .d i) :=
    St.ofG (grownBy_setCell w1 ⟨J.D, 3, none⟩ _) (fun k hk => by rw [← Option.some.inj hk]; simp only [hDlt, if_true]; exact h.gD)
  have x : St w (w1.setCell ⟨J.D, 3, none⟩ (.slice (some ⟨G, 0, none⟩) (l.length + 1) cap)) g (fun k => if k < w.heap.size then g k else if k = G then .p i else .o) (fun t => t = .d i ∨ t = .p i) := (hw1.mono (fun t e => .inr e)).trans (hset.mono (fun t e => .inl e))
  have hGlt : G < w1.heap.size := ho.lt G rfl
  have hGt : (fun k => if k < w.heap.size then g k else if k = G then Tg.p i else .o) G = .p i := by
    by_cases e : G < w.heap.size
    · simp only [e, if_true]
      rcases hloc with h' | h'
      · exact h.gP G h'
      · omega
    · simp [e]
  refine ⟨⟨?_, (x.ag _ h.ltD).trans h.gD, (x.ag _ h.fl.lt).trans h.gL, (x.ag _ h.fs.lt).trans h.gS, (x.ag _ h.pk.lt).trans h.gK, ?_, h.fl.st x ?_ ?_, h.fs.st x ?_ ?_, h.pk.st x ?_, ?_⟩, x⟩
  · have e1 : l.length + 1 = (M.pend ++ [t.1]).length := by rw [← hl1]; simp
    simp only [World.setCell, Array.getElem?_modify]
    rw [if_pos trivial, hD1, e1]
    rfl
  · intro k hk
    obtain rfl : G = k := by simpa [blk] using hk
    exact hGt
  · rw [h.gL]; rintro (e | e) <;> cases e
  · rintro m (e | e) <;> cases e
  · rw [h.gS]; rintro (e | e) <;> cases e
  · rintro m (e | e) <;> cases e
  · rw [h.gK]; rintro (e | e) <;> cases e
  · refine ⟨l ++ [t], by simp [hl1], ho.st hset (fun k hk => ?_), fun u hu => ?_⟩
    · obtain rfl : G = k := by simpa [blk] using hk
      intro e
      have := hGt.symm.trans e
      cases this
    · have key : Bs w u.2.1 u.2.2 u.1.b ∧ ∀ k, blk u.2.1 = some k → k < w.heap.size ∧ g k = .a i := by
        rcases List.mem_append.1 hu with h' | h'
        · exact hl3 u h'
        · rw [List.mem_singleton.1 h']; exact ht
      refine ⟨key.1.st x (fun k hk => by rw [(key.2 k hk).2]; rintro (e | e) <;> cases e), fun k hk => ?_⟩
      have := key.2 k hk
      exact ⟨Nat.lt_of_lt_of_le this.1 x.size, (x.ag k this.1).trans this.2⟩

/-- The cells of a box. -/
def Box (w : World) (Z : Nat) (c0 c1 c2 c3 : Value) : Prop := w.heap[Z]? = some (.cells #[c0, c1, c2, c3] 98 (0, 0))
theorem Box.cells {w : World} {Z : Nat} {c0 c1 c2 c3 : Value} (h : Box w Z c0 c1 c2 c3) : w.cell? ⟨Z, 0, none⟩ = some c0 ∧ w.cell? ⟨Z, 1, none⟩ = some c1 ∧ w.cell? ⟨Z, 2, none⟩ = some c2 ∧ w.cell? ⟨Z, 3, none⟩ = some c3 := by
  unfold Box at h
  refine ⟨?_, ?_, ?_, ?_⟩
  · rw [cell_of_row w Z 0 _ _ _ h]; rfl
  · rw [cell_of_row w Z 1 _ _ _ h]; rfl
  · rw [cell_of_row w Z 2 _ _ _ h]; rfl
  · rw [cell_of_row w Z 3 _ _ _ h]; rfl

theorem Box.st {w w' : World} {g g' : Nat → Tg} {S : Tg → Prop} {Z : Nat} {c0 c1 c2 c3 : Value} (h : Box w Z c0 c1 c2 c3) (x : St w w' g g' S) (hs : ¬ S (g Z)) : Box w' Z c0 c1 c2 c3 := x.heap h hs
theorem Box.lt {w : World} {Z : Nat} {c0 c1 c2 c3 : Value} (h : Box w Z c0 c1 c2 c3) : Z < w.heap.size := (Array.getElem?_eq_some_iff.1 h).1
/-- All that perform keeps in mind. -/
structure PS (w : World) (g : Nat → Tg) (i : Nat) (J : DJ) (M : Md) (Z : Nat) (a : Ac) (y : Option Addr) (cy : Nat) : Prop where
  ds : DS w g i J M
  box : Box w Z (.int .i64 (a.k : Int)) (.string (str a.n)) (.int .i64 (a.p : Int)) (.slice y a.b.length cy)
  tz : g Z = .o
  by' : Bs w y cy a.b
  ty : ∀ k, blk y = some k → k < w.heap.size ∧ g k = .a i
theorem PS.below {w w' : World} {g : Nat → Tg} {i : Nat} {J : DJ} {M : Md} {Z : Nat} {a : Ac} {y : Option Addr} {cy : Nat} (h : PS w g i J M Z a y cy) (x : Below w.heap.size w w') : PS w' g i J M Z a y cy :=
  ⟨h.ds.below x, h.box.st (St.ofBelow g (fun _ => False) x) (fun e => e), h.tz, h.by'.below x (Nat.le_refl _), fun k hk => ⟨Nat.lt_of_lt_of_le (h.ty k hk).1 x.size, (h.ty k hk).2⟩⟩
theorem PS.step {w w' : World} {g g' : Nat → Tg} {i : Nat} {J J' : DJ} {M M' : Md} {Z : Nat} {a : Ac} {y : Option Addr} {cy : Nat} {S : Tg → Prop} (h : PS w g i J M Z a y cy) (x : St w w' g g' S) (ho : ¬ S .o) (ha : ¬ S (.a i)) (d : DS w' g' i J' M') : PS w' g' i J' M' Z a y cy :=
  ⟨d, h.box.st x (by rw [h.tz]; exact ho), (x.ag Z h.box.lt).trans h.tz, h.by'.st x (fun k hk => by rw [(h.ty k hk).2]; exact ha), fun k hk => ⟨Nat.lt_of_lt_of_le (h.ty k hk).1 x.size, (x.ag k (h.ty k hk).1).trans (h.ty k hk).2⟩⟩
theorem perf2 {w w' : World} {g g' : Nat → Tg} {i : Nat} {J : DJ} {M : Md} {Z : Nat} {a : Ac} {y : Option Addr} {cy : Nat} {f : Files} {c : Nat} (h : PS w g i J M Z a y cy) (hf : Hid (FM w' g' (.sr i) J.S f c)) (x : Hid (St w w' g g' (fun t => t = g J.S ∨ t = .sr i a.n))) :
    PS w' g' i J { M with seen := f, seenN := c } Z a y cy ∧ St w w' g g' (fun t => t.of i) := by
  have x' := unhide x
  rw [h.ds.gS] at x'
  refine ⟨h.step x' (by rintro (e | e) <;> cases e) (by rintro (e | e) <;> cases e) (h.ds.doSeen (unhide hf) x'), x'.mono (fun t e => ?_)⟩
  rcases e with e | e <;> (rw [e]; rfl)
theorem perf3 {w w1 : World} {g : Nat → Tg} {i : Nat} {J : DJ} {M : Md} {Z : Nat} {a : Ac} {y : Option Addr} {cy : Nat} (h : PS w g i J M Z a y cy) {l : List At} {G cap : Nat} (hl1 : l.map (·.1) = M.pend) (hl2 : OwnA w J.P J.pc l) (hl3 : ∀ t ∈ l, Bs w t.2.1 t.2.2 t.1.b ∧ ∀ k, blk t.2.1 = some k → k < w.heap.size ∧ g k = .a i)
    (ho : OwnA w1 (some ⟨G, 0, none⟩) cap (l ++ [(a, y, cy)])) (hg : w.grownBy w1 (blk J.P)) (hloc : Hid (blk J.P = some G ∨ G = w.heap.size)) :
    (w1.cell? ⟨J.D, 3, none⟩ = some (.slice J.P M.pend.length J.pc) ∧ w1.frozen? ⟨J.D, 3, none⟩ = false ∧ Box w1 Z (.int .i64 (a.k : Int)) (.string (str a.n)) (.int .i64 (a.p : Int)) (.slice y a.b.length cy)) ∧
    ∃ g', PS (w1.setCell ⟨J.D, 3, none⟩ (.slice (some ⟨G, 0, none⟩) (M.pend.length + 1) cap)) g' i { J with P := some ⟨G, 0, none⟩, pc := cap } { M with pend := M.pend ++ [a] } Z a y cy ∧ St w (w1.setCell ⟨J.D, 3, none⟩ (.slice (some ⟨G, 0, none⟩) (M.pend.length + 1) cap)) g g' (fun t => t.of i) := by
  have hDne : some J.D ≠ blk J.P := fun e => by have := h.ds.gP J.D e.symm; rw [h.ds.gD] at this; cases this
  have hD1 : w1.heap[J.D]? = some (.cells (dcells J M) 79 (0, 0)) := by rw [hg.block J.D h.ds.ltD hDne]; exact h.ds.dsk
  obtain ⟨d, x⟩ := h.ds.addPend (t := (a, y, cy)) hl1 hl2 hl3 ⟨h.by', h.ty⟩ ho hg ((unhide hloc).imp id (fun e => Nat.le_of_eq e.symm))
  have e : l.length = M.pend.length := by rw [← hl1]; simp
  rw [e] at d x
  have hZne : some Z ≠ blk J.P := fun e => by have := h.ds.gP Z e.symm; rw [h.tz] at this; cases this
  refine ⟨⟨by rw [cell_of_row w1 J.D 3 _ _ _ hD1]; rfl, frozen_of_row w1 J.D 3 _ _ hD1, by unfold Box; rw [hg.block Z h.box.lt hZne]; exact h.box⟩, _, h.step x (by rintro (e | e) <;> cases e) (by rintro (e | e) <;> cases e) d, x.mono (fun t e => ?_)⟩
  rcases e with e | e <;> (rw [e]; rfl)

theorem perf4 {w w' : World} {g : Nat → Tg} {i : Nat} {J : DJ} {M : Md} {Z : Nat} {c0 c1 c2 c3 : Value} (hd : Hid (DS w' g i J M)) (x : Hid (St w w' g g (fun t => t = .d i ∨ t = .k i))) (hb : Box w Z c0 c1 c2 c3) (tz : g Z = .o) :
    w'.cell? ⟨J.D, 4, none⟩ = some (.map (some J.K)) ∧ w'.cell? ⟨J.D, 2, none⟩ = some (.map (some J.S)) ∧ w'.cell? ⟨Z, 1, none⟩ = some c1 :=
  ⟨(unhide hd).c4, (unhide hd).c2, (hb.st (unhide x) (by rw [tz]; rintro (e | e) <;> cases e)).cells.2.1⟩
theorem perf5 {w v w' : World} {g g3 : Nat → Tg} {i : Nat} {J J3 : DJ} {M' M4 : Md} {n : Nm} {z : Int} (hv : Hid (M' = M4.count n z)) (hd : Hid (DS w' g3 i { J3 with kc := J3.kc + 1 } (M4.count n z))) (x : St w v g g3 (fun t => t.of i)) (y : Hid (St v w' g3 g3 (fun t => t = .d i ∨ t = .k i))) (e1 : J3.D = J.D := by rfl) (e2 : J3.kc = J.kc := by rfl) :
    Hid (DS w' g3 i { J3 with kc := J3.kc + 1 } M') ∧ Hid (St w w' g g3 (fun t => t.of i)) ∧ Hid (({ J3 with kc := J3.kc + 1 } : DJ).D = J.D ∧ ({ J3 with kc := J3.kc + 1 } : DJ).kc = J.kc + 1) := by
  refine ⟨?_, ?_, ?_⟩
  · rw [unhide hv]; exact hd
  · exact x.trans ((unhide y).mono (fun t e => by rcases e with e | e <;> (rw [e]; rfl)))
  · exact ⟨e1, by show J3.kc + 1 = _; rw [e2]⟩
set_option maxRecDepth 20000 in
set_option maxHeartbeats 2000000 in
theorem perform_any (g : Nat → Tg) (i : Nat) (J : DJ) (M : Md) (a : Ac) (K P : Int) (x : Option Addr) (c : Nat) (w : World) (h : DS w g i J M) (HK : Hid (K = (a.k : Int))) (hk : a.k ≤ 2) (hn : a.n.length ≤ 1000) (HP : Hid (P = (a.p : Int))) (hb : Bs w x c a.b)
    (hl : (fget M.seen a.n).length ≤ 1000000000) (hl2 : (fget (doF M.seen a) a.n).length ≤ 1000000000) (hp : a.p ≤ 1000000000) (hbl : a.b.length ≤ 100000000) (hc : M.seenN ≤ 1000000000) (hpl : M.pend.length ≤ 1000000) (hkc : J.kc ≤ 1000000) :
    Calls Tryz.prog 130 #[.pointer (some ⟨J.D, 0, none⟩), .agg #[.int .i64 K, .string (str a.n), .int .i64 P, .slice x a.b.length c]] w fun e w' => e = .returned (.tuple #[]) ∧ ∃ g' J', Hid (DS w' g' i J' (M.perform a)) ∧ Hid (St w w' g g' (fun t => t.of i)) ∧ Hid (J'.D = J.D ∧ J'.kc = J.kc + 1) := by
  obtain rfl : K = (a.k : Int) := unhide HK
  obtain rfl : P = (a.p : Int) := unhide HP
  obtain ⟨w0, hw0⟩ : ∃ w0, w0 = w.alloc (.cells #[.int .i64 (a.k : Int), .string (str a.n), .int .i64 (a.p : Int), .slice x a.b.length c] 98) := ⟨_, rfl⟩
  obtain ⟨Z, hZ⟩ : ∃ Z, Z = w.heap.size := ⟨_, rfl⟩
  have z0 : Box w0 Z (.int .i64 (a.k : Int)) (.string (str a.n)) (.int .i64 (a.p : Int)) (.slice x a.b.length c) := by unfold Box; rw [hw0, hZ]; exact heap_alloc_new w _
  have hB0 : Below w.heap.size w w0 := by rw [hw0]; exact (Below.refl _ _).alloc (Nat.le_refl _) _
  have hs0 : w0.heap.size = w.heap.size + 1 := by rw [hw0]; simp
  have hb0 : Bs w0 x c a.b := hb.below hB0 (Nat.le_refl _)
  have HW := hide hw0
  have HZ := hide hZ
  have HS0 := hide hs0
  have Z0 := hide z0
  clear hw0 hZ hs0 z0
  go_enter Tryz.func130, Tryz.ntmps130
  go_wp2_with fail
  rw [← unhide HW]
  refine (aclone_any (a.k : Int) (a.p : Int) a.n x c a.b w0 hn hb0 hbl).mono ?_
  rintro e w1 ⟨y, cy, rfl, ho1, hb1⟩
  rw [← unhide HZ]
  -- behind the store into the box
  obtain ⟨u1, hu1⟩ : ∃ u1, u1 = (((w1.setCell ⟨Z, 0, none⟩ (.int .i64 (a.k : Int))).setCell ⟨Z, 1, none⟩ (.string (str a.n))).setCell ⟨Z, 2, none⟩ (.int .i64 (a.p : Int))).setCell ⟨Z, 3, none⟩ (.slice y a.b.length cy) := ⟨_, rfl⟩
  have z1 : Box w1 Z (.int .i64 (a.k : Int)) (.string (str a.n)) (.int .i64 (a.p : Int)) (.slice x a.b.length c) := by
    unfold Box
    rw [hb1.block Z (by have := unhide HZ; have := unhide HS0; omega)]
    exact unhide Z0
  obtain ⟨e0, e1, e2, e3⟩ := z1.cells
  have q0 : w1.frozen? ⟨Z, 0, none⟩ = false := frozen_of_row w1 Z 0 _ _ z1
  have q1 : w1.frozen? ⟨Z, 1, none⟩ = false := frozen_of_row w1 Z 1 _ _ z1
  have q2 : w1.frozen? ⟨Z, 2, none⟩ = false := frozen_of_row w1 Z 2 _ _ z1
  have q3 : w1.frozen? ⟨Z, 3, none⟩ = false := frozen_of_row w1 Z 3 _ _ z1
  have HA : Hid (∃ g1, PS u1 g1 i J M Z a y cy ∧ St w u1 g g1 (fun t => t.of i)) := by
    have hzz := unhide HZ
    have hss := unhide HS0
    have hg4 : w1.grownBy u1 (some Z) := by rw [hu1]; exact set4g _ _ _ _ _ _
    have hBw : Below w.heap.size w u1 := (hB0.trans (hb1.mono hB0.size)).grown hg4 (Nat.le_trans hB0.size hb1.size) (fun j hj => by rw [← Option.some.inj hj]; omega)
    have hyl := ho1.lt
    have hyn : ∀ k, blk y = some k → Z < k := fun k hk => by have := (hyl k hk).1; omega
    have hbu : OwnB u1 w0.heap.size y cy a.b := ho1.kept hg4 (by cases hy : blk y with | none => exact .inl rfl | some k => exact .inr (fun e => by have := hyn k hy; have := Option.some.inj e; omega))
    refine ⟨fun k => if k < w.heap.size then g k else if blk y = some k then .a i else .o, ⟨?_, ?_, ?_, hbu.toBs, fun k hk => ⟨(hbu.lt k hk).2, ?_⟩⟩, ?_⟩
    · exact h.st (⟨hBw.os, hBw.tape, hBw.output, hBw.size, fun k hk _ => hBw.block k hk, fun k hk => by simp [hk]⟩ : St w u1 g _ (fun _ => False)) (fun _ _ e => e)
    · unfold Box; rw [hu1]; exact set4 z1 _ _ _ _
    · have : ¬ Z < w.heap.size := by omega
      simp only [this, if_false]
      rw [if_neg (fun e => by have := hyn Z e; omega)]
    · have := hyn k hk
      show (if k < w.heap.size then g k else if blk y = some k then Tg.a i else Tg.o) = .a i
      rw [if_neg (by omega), if_pos hk]
    · exact ⟨hBw.os, hBw.tape, hBw.output, hBw.size, fun k hk _ => hBw.block k hk, fun k hk => by simp [hk]⟩
  have HU := hide hu1
  clear hu1 ho1 hb1 h hb hB0 hb0 z1 Z0
  go_wp2_with fail
  rw [← unhide HU]
  clear e0 e1 e2 e3 q0 q1 q2 q3 HU
  obtain ⟨g1, p1, st1⟩ := unhide HA
  clear HA
  -- d.seen.do(a)
  have pd1 := p1.below (w' := u1.drew) (Below.refl _ _).drew
  have sd1 : St u1 u1.drew g1 g1 (fun t => t.of i) := St.ofBelow g1 _ (Below.refl _ _).drew
  obtain ⟨b0, b1, b2, b3⟩ := pd1.box.cells
  have hS1 := And.intro pd1.ds.c2 (And.intro b0 (And.intro b1 (And.intro b2 b3)))
  have P1 := hide pd1
  have hxt : ∀ k, blk y = some k → g1 k ≠ .sr i a.n := fun k hk e => by have := (pd1.ty k hk).2; rw [e] at this; cases this
  have hby := pd1.by'
  have hfs := pd1.ds.fs
  have htS := pd1.ds.trS
  have hbl' : a.b.length ≤ 1000000000 := by omega
  have ST1 := hide (st1.trans sd1)
  clear p1 st1 sd1 pd1 b0 b1 b2 b3
  go_region_held3 (fun w' => w'.cell? ⟨J.D, 2, none⟩ = some (.map (some J.S)) ∧ w'.cell? ⟨Z, 0, none⟩ = some (.int .i64 (a.k : Int)) ∧ w'.cell? ⟨Z, 1, none⟩ = some (.string (str a.n)) ∧ w'.cell? ⟨Z, 2, none⟩ = some (.int .i64 (a.p : Int)) ∧ w'.cell? ⟨Z, 3, none⟩ = some (.slice y a.b.length cy)) (first | exact hS1 | exact And.intro p2.ds.c2 p2.box.cells) ((go_at_call 43; refine (do_any g1 (.sr i) J.S M.seen M.seenN a (a.k : Int) (a.p : Int) y cy _ hfs htS rfl hk hn rfl hby hxt hl hp hbl' hc).mono ?_; rintro e w2 ⟨rfl, g2, HF, HT⟩; obtain ⟨p2, st2⟩ := perf2 (unhide P1) HF HT))
  have P2 := hide p2
  have ST2 := hide ((unhide ST1).trans st2)
  clear p2 st2 HF HT hxt hby hfs htS hS1 P1 ST1
  go_upto_region 3 with fail
  go_cut [] (fun wx => ∃ (G cap : Nat) (g3 : Nat → Tg), PS wx g3 i { J with P := some ⟨G, 0, none⟩, pc := cap } { M with seen := doF M.seen a, seenN := doN M.seen M.seenN a, pend := M.pend ++ [a] } Z a y cy ∧ St w wx g g3 (fun t => t.of i))
  case first =>
    -- d.pending = append(d.pending, a)
    obtain ⟨v, hv⟩ : ∃ v, v = (w2.alloc (.cells #[.int .i64 (a.k : Int), .string (str a.n), .int .i64 (a.p : Int), .slice y a.b.length cy] 98)).drew := ⟨_, rfl⟩
    have hBv : Below w2.heap.size w2 v := by rw [hv]; exact ((Below.refl _ _).alloc (Nat.le_refl _) _).drew
    have pd2 := (unhide P2).below (w' := w2.drew) (Below.refl _ _).drew
    have pv := (unhide P2).below hBv
    obtain ⟨b0, b1, b2, b3⟩ := pd2.box.cells
    have hS2 := And.intro b0 (And.intro b1 (And.intro b2 b3))
    have hSv := pv.box.cells
    have c3 := pd2.ds.c3
    have c3v := pv.ds.c3
    obtain ⟨l, hl1, hlo, hl3⟩ := pv.ds.pd
    have hsrc : v.heap[w2.heap.size]? = some (.cells (acC (a, y, cy)).toArray 98 (0, 0)) := by rw [hv]; exact heap_alloc_new w2 _
    have HLn : Hid (M.pend.length = l.length) := by
      show _ = _
      have := congrArg List.length hl1
      simpa using this.symm
    have hll : l.length ≤ 1000000 := by have := unhide HLn; omega
    have HL1 := hide hl1
    have HL3 := hide hl3
    have HSR := hide hsrc
    have PV := hide pv
    have stv : St w2 v g2 g2 (fun t => t.of i) := St.ofBelow g2 _ hBv
    have ST3 := hide ((unhide ST2).trans stv)
    simp only at c3 c3v
    clear pd2 pv b0 b1 b2 b3 hl1 hl3 hsrc stv hBv P2 ST2
    subst hv
    have c3w : w2.cell? ⟨J.D, 3, none⟩ = some (.slice J.P M.pend.length J.pc) := c3
    have c3u : (w2.alloc (.cells #[.int .i64 (a.k : Int), .string (str a.n), .int .i64 (a.p : Int), .slice y a.b.length cy] 98)).cell? ⟨J.D, 3, none⟩ = some (.slice J.P M.pend.length J.pc) := c3v
    clear c3 c3v
    have b0 : w2.cell? ⟨Z, 0, none⟩ = some (.int .i64 (a.k : Int)) := hS2.1
    have b1 : w2.cell? ⟨Z, 1, none⟩ = some (.string (str a.n)) := hS2.2.1
    have b2 : w2.cell? ⟨Z, 2, none⟩ = some (.int .i64 (a.p : Int)) := hS2.2.2.1
    have b3 : w2.cell? ⟨Z, 3, none⟩ = some (.slice y a.b.length cy) := hS2.2.2.2
    clear hS2 hSv
    go_region_law (refine stp_appa _ rfl _ _ rfl J.P J.pc l M.pend.length rfl (unhide HLn) hlo w2.heap.size 1 (a, y, cy) rfl (unhide HSR) hll ?_; intro G cap w3 ho3 hg3 hloc3; obtain ⟨k3, g3, p3, st3⟩ := perf3 (unhide PV) (unhide HL1) hlo (unhide HL3) ho3 hg3 hloc3; have k31 := k3.1; have k32 := k3.2.1)
    all_goals (go_wp2_with fail; go_meet; exact ⟨G, cap, g3, p3, (unhide ST3).trans st3⟩)
  case rest =>
    obtain ⟨G, cap, g3, p3, st3⟩ := hcut
    clear P2 ST2
    have pd3 := p3.below (w' := wc.drew) (Below.refl _ _).drew
    have sd3 : St wc wc.drew g3 g3 (fun t => t.of i) := St.ofBelow g3 _ (Below.refl _ _).drew
    have ST4 := hide (st3.trans sd3)
    have D4 := hide pd3.ds
    have hnm : a.n.length ≤ maxLen := by unfold maxLen; omega
    obtain ⟨hwf, pook⟩ := pd3.ds.pk.at a.n hnm
    obtain ⟨xx, cc, _, _, look⟩ := pd3.ds.fs.at a.n hnm
    have hp1 := pook wc.drew rfl
    have hl1 := (look wc.drew rfl).1
    have hS4 := And.intro pd3.ds.c4 (And.intro pd3.ds.c2 pd3.box.cells.2.1)
    have B4 := hide pd3.box
    have T4 := hide pd3.tz
    simp only at hp1 hl1 hS4 hwf
    clear pd3 sd3 st3 p3 pook look
    obtain ⟨X, hX⟩ : ∃ X, X = (if M.peaks a.n < ((fget (doF M.seen a) a.n).length : Int) then ((fget (doF M.seen a) a.n).length : Int) else M.peaks a.n) := ⟨_, rfl⟩
    have HV : Hid (M.perform a = Md.count { M with seen := doF M.seen a, seenN := doN M.seen M.seenN a, pend := M.pend ++ [a] } a.n X) := by show _ = _; unfold Md.perform; rw [← hX]
    have hwX : (Lit.int .i64 X).wf = true := by
      rw [hX]
      split
      · exact wf_i64 (by omega) (by omega)
      · exact hwf
    have hif := hX.symm
    clear hX hwf
    go_wp2_with fail
    go_region_held3 (fun w' => w'.cell? ⟨J.D, 4, none⟩ = some (.map (some J.K)) ∧ w'.cell? ⟨J.D, 2, none⟩ = some (.map (some J.S)) ∧ w'.cell? ⟨Z, 1, none⟩ = some (.string (str a.n))) (first | exact hS4 | (have q4 := perf4 HD HS (unhide B4) (unhide T4); exact q4)) ((go_at_call 73; refine (count_any g3 i { J with P := some ⟨G, 0, none⟩, pc := cap } { M with seen := doF M.seen a, seenN := doN M.seen M.seenN a, pend := M.pend ++ [a] } a.n X _ (unhide D4) hn hwX hkc).mono ?_; rintro e w5 ⟨rfl, HD, HS⟩))
    all_goals (go_wp2; go_end0; have FIN := perf5 (J := J) (J3 := { J with P := some ⟨G, 0, none⟩, pc := cap }) HV HD (unhide ST4) HS; exact ⟨rfl, g3, _, FIN⟩)
#print axioms perform_any
end Go.Proofs.YtmcgghjeocnpnaaGreatDoor
end
section
set_option linter.unusedVariables false
namespace Go.Proofs.YtmcgghjeocnpnaaGreatDoor
open Go.RowKit Go.Maps

/-! ### the plain model's calls -/
def Md.thereE (M : Md) (n : Nm) : Int := if isName n then (if (M.seen n).isSome then 0 else 20) else 6
def Md.writeE (M : Md) (n : Nm) (k : Nat) : Int := if isName n then (if M.room? n k then 0 else 7) else 6
def Md.write (M : Md) (n : Nm) (b : List UInt8) : Md := if M.writeE n b.length = 0 then M.perform ⟨0, n, (fget M.seen n).length, b⟩ else M
def Md.cutE (M : Md) (n : Nm) (z : Int) : Int := if M.thereE n = 0 then (if z < 0 ∨ ((fget M.seen n).length : Int) < z then 1 else 0) else M.thereE n
def Md.cut (M : Md) (n : Nm) (z : Int) : Md := if M.cutE n z = 0 then M.perform ⟨1, n, z.toNat, []⟩ else M
def Md.drop (M : Md) (n : Nm) : Md := if M.thereE n = 0 then M.perform ⟨2, n, 0, []⟩ else M

/-! ### bounds -/
structure MOk (J : DJ) (M : Md) (N : Nat) : Prop where
  r0 : 0 ≤ M.room
  r1 : M.room ≤ 16777216
  ln : M.lastN + M.pend.length ≤ N
  sn : M.seenN ≤ N
  kc : J.kc + M.pend.length ≤ 2 * N
  sl : ∀ n, (fget M.seen n).length ≤ N * 65600
  ll : ∀ n, (fget M.last n).length ≤ N * 65600
  pe : ∀ a ∈ M.pend, a.k ≤ 2 ∧ a.n.length ≤ 24 ∧ a.p + a.b.length ≤ N * 65600
theorem over_len (l : List UInt8) (p : Nat) (b : List UInt8) : (over l p b).length = p + b.length := by
  simp [over]; omega
theorem doF_len {f : Files} {a : Ac} {B : Nat} (h : ∀ n, (fget f n).length ≤ B) (ha : a.p + a.b.length ≤ B) : ∀ n, (fget (doF f a) n).length ≤ B := by
  intro n
  unfold doF
  by_cases hn : n = a.n
  · subst hn
    split
    · simp only [fget, upd_same, Option.getD_some]; rw [over_len]; exact ha
    · split
      · split
        · simp only [fget, upd_same, Option.getD_some]
          rw [List.length_take]
          exact Nat.le_trans (Nat.min_le_right _ _) (h _)
        · exact h _
      · simp [fget, upd_same]
  · split
    · simp only [fget, upd_other _ _ _ _ hn]; exact h n
    · split
      · split
        · simp only [fget, upd_other _ _ _ _ hn]; exact h n
        · exact h n
      · simp only [fget, upd_other _ _ _ _ hn]; exact h n
theorem doN_le (f : Files) (c : Nat) (a : Ac) : doN f c a ≤ c + 1 := by
  unfold doN
  split
  · split <;> omega
  · split
    · omega
    · split <;> omega
theorem MOk.mono {J : DJ} {M : Md} {N N' : Nat} (h : MOk J M N) (hN : N ≤ N') : MOk J M N' := by
  have hm : N * 65600 ≤ N' * 65600 := Nat.mul_le_mul_right _ hN
  exact ⟨h.r0, h.r1, Nat.le_trans h.ln hN, Nat.le_trans h.sn hN, by have := h.kc; omega, fun n => Nat.le_trans (h.sl n) hm, fun n => Nat.le_trans (h.ll n) hm, fun a ha => ⟨(h.pe a ha).1, (h.pe a ha).2.1, Nat.le_trans (h.pe a ha).2.2 hm⟩⟩
theorem MOk.perform {J J' : DJ} {M : Md} {N : Nat} {a : Ac} (h : MOk J M N) (hk : a.k ≤ 2) (hn : a.n.length ≤ 24) (ha : a.p + a.b.length ≤ (N + 1) * 65600) (hJ : J'.kc = J.kc + 1) : MOk J' (M.perform a) (N + 1) := by
  have g := h.mono (Nat.le_succ N)
  refine ⟨h.r0, h.r1, ?_, ?_, ?_, doF_len g.sl ha, g.ll, ?_⟩
  · show M.lastN + (M.pend ++ [a]).length ≤ N + 1
    have := h.ln; simp; omega
  · exact Nat.le_trans (doN_le _ _ _) (by have := h.sn; omega)
  · show J'.kc + (M.pend ++ [a]).length ≤ 2 * (N + 1)
    have := h.kc; simp; omega
  · intro t ht
    rcases List.mem_append.1 ht with h' | h'
    · exact g.pe t h'
    · rw [List.mem_singleton.1 h']; exact ⟨hk, hn, ha⟩

/-- What a call leaves of a disk. -/
def RS (w w' : World) (g : Nat → Tg) (i : Nat) (J : DJ) (M' : Md) (N : Nat) : Prop :=
  ∃ g' J', DS w' g' i J' M' ∧ MOk J' M' N ∧ St w w' g g' (fun t => t.of i) ∧ J'.D = J.D
theorem RS.same {w w' : World} {g : Nat → Tg} {i : Nat} {J : DJ} {M : Md} {N : Nat} (h : DS w g i J M) (ok : MOk J M N) (hb : Below w.heap.size w w') : RS w w' g i J M (N + 1) :=
  ⟨g, J, h.below hb, ok.mono (Nat.le_succ N), St.ofBelow g _ hb, rfl⟩
theorem RS.of {w w1 w' : World} {g g' : Nat → Tg} {i : Nat} {J J' : DJ} {M : Md} {N : Nat} {a : Ac} (hb : Below w.heap.size w w1) (ok : MOk J M N) (hk : a.k ≤ 2) (hn : a.n.length ≤ 24) (ha : a.p + a.b.length ≤ (N + 1) * 65600) (hd : Hid (DS w' g' i J' (M.perform a))) (hs : Hid (St w1 w' g g' (fun t => t.of i))) (hj : Hid (J'.D = J.D ∧ J'.kc = J.kc + 1)) : RS w w' g i J (M.perform a) (N + 1) :=
  ⟨g', J', unhide hd, ok.perform hk hn ha (unhide hj).2, (St.ofBelow g _ hb).trans (unhide hs), (unhide hj).1⟩

set_option maxHeartbeats 1000000 in
theorem there_any (g : Nat → Tg) (i : Nat) (J : DJ) (M : Md) (n : Nm) (w : World) (h : DS w g i J M) (hn : n.length ≤ maxLen) :
    Calls Tryz.prog 119 #[.pointer (some ⟨J.D, 0, none⟩), .string (str n)] w fun e w' => e = .returned (.int .i64 (M.thereE n)) ∧ w' = w := by
  have c2 := h.c2
  cases hb : isName n with
  | false =>
    have HV : Hid (M.thereE n = 6) := by show _ = _; simp [Md.thereE, hb]
    have HR : Hid ((6 : Int) = if isName n then 0 else 6) := by show _ = _; simp [hb]
    clear hb
    go_enter Tryz.func119, Tryz.ntmps119
    go_wp2_with fail
    refine (named_any J.D J.S n 6 w c2 hn HR).mono ?_
    rintro e w' ⟨rfl, rfl⟩
    go_wp2
    go_ret
    exact ⟨by rw [unhide HV]; rfl, rfl⟩
  | true =>
    have HR : Hid ((0 : Int) = if isName n then 0 else 6) := by show _ = _; simp [hb]
    obtain ⟨x, c, _, _, look⟩ := h.fs.at n hn
    have hl1 := (look w rfl).2
    clear look
    cases hs : (M.seen n).isSome with
    | true =>
      rw [hs] at hl1
      have HV : Hid (M.thereE n = 0) := by show _ = _; simp [Md.thereE, hb, hs]
      clear hb hs
      go_enter Tryz.func119, Tryz.ntmps119
      go_wp2_with fail
      refine (named_any J.D J.S n 0 w c2 hn HR).mono ?_
      rintro e w' ⟨rfl, rfl⟩
      go_wp2
      go_ret
      exact ⟨by rw [unhide HV]; rfl, rfl⟩
    | false =>
      rw [hs] at hl1
      have HV : Hid (M.thereE n = 20) := by show _ = _; simp [Md.thereE, hb, hs]
      clear hb hs
      go_enter Tryz.func119, Tryz.ntmps119
      go_wp2_with fail
      refine (named_any J.D J.S n 0 w c2 hn HR).mono ?_
      rintro e w' ⟨rfl, rfl⟩
      go_wp2
      go_ret
      exact ⟨by rw [unhide HV]; rfl, rfl⟩
theorem thereE_cases (M : Md) (n : Nm) : (M.thereE n = 0 ∧ isName n = true ∧ (M.seen n).isSome = true) ∨ M.thereE n = 20 ∨ M.thereE n = 6 := by
  unfold Md.thereE
  cases isName n <;> cases (M.seen n).isSome <;> simp

set_option maxRecDepth 20000 in
set_option maxHeartbeats 2000000 in
theorem write_any (g : Nat → Tg) (i : Nat) (J : DJ) (M : Md) (N : Nat) (n : Nm) (x : Option Addr) (c : Nat) (b : List UInt8) (w : World) (h : DS w g i J M) (ok : MOk J M N) (hN : N ≤ 1400) (hn : n.length ≤ maxLen) (hb : Bs w x c b) (hbl : b.length ≤ 65600) :
    Calls Tryz.prog 96 #[.pointer (some ⟨J.D, 0, none⟩), .string (str n), .slice x b.length c] w fun e w' => e = .returned (.int .i64 (M.writeE n b.length)) ∧ RS w w' g i J (M.write n b) (N + 1) := by
  have c2 := h.c2
  have hsl : (fget M.seen n).length ≤ 91840000 := by have := ok.sl n; omega
  have hseenN : M.seenN ≤ 1000000000 := by have := ok.sn; omega
  have hpl : M.pend.length ≤ 1000000 := by have := ok.ln; omega
  have hkc : J.kc ≤ 1000000 := by have := ok.kc; omega
  cases hnb : isName n with
  | false =>
    have HV : Hid (M.writeE n b.length = 6 ∧ M.write n b = M) := by show _ ∧ _; simp [Md.write, Md.writeE, hnb]
    have HR : Hid ((6 : Int) = if isName n then 0 else 6) := by show _ = _; simp [hnb]
    clear hnb
    go_enter Tryz.func96, Tryz.ntmps96
    go_wp2_with fail
    refine (named_any J.D J.S n 6 w c2 hn HR).mono ?_
    rintro e w' ⟨rfl, rfl⟩
    go_wp2
    go_ret
    exact ⟨by rw [(unhide HV).1]; rfl, by rw [(unhide HV).2]; exact RS.same h ok (Below.refl _ _)⟩
  | true =>
    have HR : Hid ((0 : Int) = if isName n then 0 else 6) := by show _ = _; simp [hnb]
    have hn24 := isName_le hnb
    have hn1 : n.length ≤ 1000 := by omega
    cases hrm : M.room? n b.length with
    | false =>
      have HV : Hid (M.writeE n b.length = 7 ∧ M.write n b = M) := by show _ ∧ _; simp [Md.write, Md.writeE, hnb, hrm]
      have HM := hide hrm
      clear hnb hrm
      go_enter Tryz.func96, Tryz.ntmps96
      go_wp2_with fail
      refine (named_any J.D J.S n 0 w c2 hn HR).mono ?_
      rintro e w' ⟨rfl, rfl⟩
      go_wp2_with fail
      refine (room_any g i J M n b.length _ _ h rfl hn1 (by omega) (by omega) hseenN).mono ?_
      rintro e w1 ⟨rfl, hb1⟩
      rw [unhide HM]
      go_wp2
      go_ret
      exact ⟨by rw [(unhide HV).1]; rfl, by rw [(unhide HV).2]; exact RS.same h ok hb1⟩
    | true =>
      have HV : Hid (M.writeE n b.length = 0 ∧ M.write n b = M.perform ⟨0, n, (fget M.seen n).length, b⟩) := by show _ ∧ _; simp [Md.write, Md.writeE, hnb, hrm]
      have HM := hide hrm
      clear hnb hrm
      go_enter Tryz.func96, Tryz.ntmps96
      go_wp2_with fail
      refine (named_any J.D J.S n 0 w c2 hn HR).mono ?_
      rintro e w' ⟨rfl, rfl⟩
      go_wp2_with fail
      refine (room_any g i J M n b.length _ _ h rfl hn1 (by omega) (by omega) hseenN).mono ?_
      rintro e w1 ⟨rfl, hb1⟩
      rw [unhide HM]
      have h1 := h.below hb1
      have c2' := h1.c2
      obtain ⟨y, cy, _, _, look⟩ := h1.fs.at n hn
      have hl1 := (look w1 rfl).1
      have hbs := hb.below hb1 (Nat.le_refl _)
      clear look
      go_wp2_with fail
      refine (perform_any g i J M ⟨0, n, (fget M.seen n).length, b⟩ 0 _ x c w1 h1 rfl (by show (0 : Nat) ≤ 2; omega) hn1 rfl hbs (by show (fget M.seen n).length ≤ _; omega) (Nat.le_trans (doF_len (B := 100000000) (fun m => by have := ok.sl m; omega) (by show (fget M.seen n).length + b.length ≤ _; omega) n) (by omega)) (by show (fget M.seen n).length ≤ _; omega) (by show b.length ≤ _; omega) hseenN hpl hkc).mono ?_
      rintro e w2 ⟨rfl, g2, J2, HD, HS, HJ⟩
      go_wp2
      go_ret
      exact ⟨by rw [(unhide HV).1]; rfl, by rw [(unhide HV).2]; exact RS.of hb1 ok (by show (0 : Nat) ≤ 2; omega) hn24 (by show (fget M.seen n).length + b.length ≤ _; have := ok.sl n; omega) HD HS HJ⟩
#print axioms write_any
end Go.Proofs.YtmcgghjeocnpnaaGreatDoor
end
section
set_option linter.unusedVariables false
namespace Go.Proofs.YtmcgghjeocnpnaaGreatDoor
open Go.RowKit Go.Maps

theorem bs_nil (w : World) : Bs w none 0 [] := ⟨fun h => absurd rfl h, Nat.le_refl _, by unfold maxLen; omega, fun _ => rfl⟩

set_option maxRecDepth 20000 in
set_option maxHeartbeats 2000000 in
theorem cut_any (g : Nat → Tg) (i : Nat) (J : DJ) (M : Md) (N : Nat) (n : Nm) (z : Int) (w : World) (h : DS w g i J M) (ok : MOk J M N) (hN : N ≤ 1400) (hn : n.length ≤ maxLen) :
    Calls Tryz.prog 104 #[.pointer (some ⟨J.D, 0, none⟩), .string (str n), .int .i64 z] w fun e w' => e = .returned (.int .i64 (M.cutE n z)) ∧ RS w w' g i J (M.cut n z) (N + 1) := by
  have c2 := h.c2
  have hsl : (fget M.seen n).length ≤ 91840000 := by have := ok.sl n; omega
  have hseenN : M.seenN ≤ 1000000000 := by have := ok.sn; omega
  have hpl : M.pend.length ≤ 1000000 := by have := ok.ln; omega
  have hkc : J.kc ≤ 1000000 := by have := ok.kc; omega
  rcases thereE_cases M n with ⟨ht, hnb, hs⟩ | ht | ht
  · have HT := hide ht
    obtain ⟨y, cy, _, _, look⟩ := h.fs.at n hn
    have hl1 := (look w rfl).1
    have hn24 := isName_le hnb
    have hn1 : n.length ≤ 1000 := by omega
    clear look hnb hs
    by_cases h0 : z < 0
    · have HV : Hid (M.cutE n z = 1 ∧ M.cut n z = M) := by show _ ∧ _; simp [Md.cut, Md.cutE, ht, h0]
      clear ht
      go_enter Tryz.func104, Tryz.ntmps104
      go_wp2_with fail
      refine (there_any g i J M n w h hn).mono ?_
      rintro e w' ⟨rfl, rfl⟩
      rw [unhide HT]
      go_wp2
      go_ret
      exact ⟨by rw [(unhide HV).1]; rfl, by rw [(unhide HV).2]; exact RS.same h ok (Below.refl _ _)⟩
    · by_cases h1 : ((fget M.seen n).length : Int) < z
      · have HV : Hid (M.cutE n z = 1 ∧ M.cut n z = M) := by show _ ∧ _; simp [Md.cut, Md.cutE, ht, h1]
        have h0' : 0 ≤ z := by omega
        clear ht h0
        go_enter Tryz.func104, Tryz.ntmps104
        go_wp2_with fail
        refine (there_any g i J M n w h hn).mono ?_
        rintro e w' ⟨rfl, rfl⟩
        rw [unhide HT]
        go_wp2
        go_ret
        exact ⟨by rw [(unhide HV).1]; rfl, by rw [(unhide HV).2]; exact RS.same h ok (Below.refl _ _)⟩
      · have HV : Hid (M.cutE n z = 0 ∧ M.cut n z = M.perform ⟨1, n, z.toNat, []⟩) := by show _ ∧ _; simp [Md.cut, Md.cutE, ht, h0, h1]
        have h0' : 0 ≤ z := by omega
        have h1' : z ≤ ((fget M.seen n).length : Int) := by omega
        have HZ : Hid (z = (z.toNat : Int)) := by show _ = _; omega
        clear ht h0 h1
        go_enter Tryz.func104, Tryz.ntmps104
        go_wp2_with fail
        refine (there_any g i J M n w h hn).mono ?_
        rintro e w' ⟨rfl, rfl⟩
        rw [unhide HT]
        go_wp2_with fail
        refine (perform_any g i J M ⟨1, n, z.toNat, []⟩ 1 z none 0 _ h rfl (by show (1 : Nat) ≤ 2; omega) hn1 HZ (bs_nil _) (by show (fget M.seen n).length ≤ _; omega) (Nat.le_trans (doF_len (B := 100000000) (fun m => by have := ok.sl m; omega) (by show z.toNat + 0 ≤ _; omega) n) (by omega)) (by show z.toNat ≤ _; omega) (by show (0 : Nat) ≤ _; omega) hseenN hpl hkc).mono ?_
        rintro e w2 ⟨rfl, g2, J2, HD, HS, HJ⟩
        go_wp2
        go_ret
        exact ⟨by rw [(unhide HV).1]; rfl, by rw [(unhide HV).2]; exact RS.of (Below.refl _ _) ok (by show (1 : Nat) ≤ 2; omega) hn24 (by show z.toNat + 0 ≤ _; have := ok.sl n; omega) HD HS HJ⟩
  · have HV : Hid (M.cutE n z = 20 ∧ M.cut n z = M) := by show _ ∧ _; simp [Md.cut, Md.cutE, ht]
    have HT := hide ht
    clear ht
    go_enter Tryz.func104, Tryz.ntmps104
    go_wp2_with fail
    refine (there_any g i J M n w h hn).mono ?_
    rintro e w' ⟨rfl, rfl⟩
    rw [unhide HT]
    go_wp2
    go_ret
    exact ⟨by rw [(unhide HV).1]; rfl, by rw [(unhide HV).2]; exact RS.same h ok (Below.refl _ _)⟩
  · have HV : Hid (M.cutE n z = 6 ∧ M.cut n z = M) := by show _ ∧ _; simp [Md.cut, Md.cutE, ht]
    have HT := hide ht
    clear ht
    go_enter Tryz.func104, Tryz.ntmps104
    go_wp2_with fail
    refine (there_any g i J M n w h hn).mono ?_
    rintro e w' ⟨rfl, rfl⟩
    rw [unhide HT]
    go_wp2
    go_ret
    exact ⟨by rw [(unhide HV).1]; rfl, by rw [(unhide HV).2]; exact RS.same h ok (Below.refl _ _)⟩

set_option maxRecDepth 20000 in
set_option maxHeartbeats 2000000 in
theorem drop_any (g : Nat → Tg) (i : Nat) (J : DJ) (M : Md) (N : Nat) (n : Nm) (w : World) (h : DS w g i J M) (ok : MOk J M N) (hN : N ≤ 1400) (hn : n.length ≤ maxLen) :
    Calls Tryz.prog 97 #[.pointer (some ⟨J.D, 0, none⟩), .string (str n)] w fun e w' => e = .returned (.int .i64 (M.thereE n)) ∧ RS w w' g i J (M.drop n) (N + 1) := by
  have c2 := h.c2
  have hsl : (fget M.seen n).length ≤ 91840000 := by have := ok.sl n; omega
  have hseenN : M.seenN ≤ 1000000000 := by have := ok.sn; omega
  have hpl : M.pend.length ≤ 1000000 := by have := ok.ln; omega
  have hkc : J.kc ≤ 1000000 := by have := ok.kc; omega
  rcases thereE_cases M n with ⟨ht, hnb, hs⟩ | ht | ht
  · have HT := hide ht
    have hn24 := isName_le hnb
    have hn1 : n.length ≤ 1000 := by omega
    have HV : Hid (M.drop n = M.perform ⟨2, n, 0, []⟩) := by show _ = _; simp [Md.drop, ht]
    clear ht hnb hs
    go_enter Tryz.func97, Tryz.ntmps97
    go_wp2_with fail
    refine (there_any g i J M n w h hn).mono ?_
    rintro e w' ⟨rfl, rfl⟩
    rw [unhide HT]
    go_wp2_with fail
    refine (perform_any g i J M ⟨2, n, 0, []⟩ 2 0 none 0 _ h rfl (by show (2 : Nat) ≤ 2; omega) hn1 rfl (bs_nil _) (by show (fget M.seen n).length ≤ _; omega) (Nat.le_trans (doF_len (B := 100000000) (fun m => by have := ok.sl m; omega) (by show 0 + 0 ≤ _; omega) n) (by omega)) (by show (0 : Nat) ≤ _; omega) (by show (0 : Nat) ≤ _; omega) hseenN hpl hkc).mono ?_
    rintro e w2 ⟨rfl, g2, J2, HD, HS, HJ⟩
    go_wp2
    go_ret
    exact ⟨by rw [unhide HT]; rfl, by rw [unhide HV]; exact RS.of (Below.refl _ _) ok (by show (2 : Nat) ≤ 2; omega) hn24 (by show 0 + 0 ≤ _; omega) HD HS HJ⟩
  · have HV : Hid (M.drop n = M) := by show _ = _; simp [Md.drop, ht]
    have HT := hide ht
    clear ht
    go_enter Tryz.func97, Tryz.ntmps97
    go_wp2_with fail
    refine (there_any g i J M n w h hn).mono ?_
    rintro e w' ⟨rfl, rfl⟩
    rw [unhide HT]
    go_wp2
    go_ret
    exact ⟨by rw [unhide HT]; rfl, by rw [unhide HV]; exact RS.same h ok (Below.refl _ _)⟩
  · have HV : Hid (M.drop n = M) := by show _ = _; simp [Md.drop, ht]
    have HT := hide ht
    clear ht
    go_enter Tryz.func97, Tryz.ntmps97
    go_wp2_with fail
    refine (there_any g i J M n w h hn).mono ?_
    rintro e w' ⟨rfl, rfl⟩
    rw [unhide HT]
    go_wp2
    go_ret
    exact ⟨by rw [unhide HT]; rfl, by rw [unhide HV]; exact RS.same h ok (Below.refl _ _)⟩

def Md.readB (M : Md) (n : Nm) : List UInt8 := if M.thereE n = 0 then fget M.seen n else []
set_option maxHeartbeats 2000000 in
theorem read_any (g : Nat → Tg) (i : Nat) (J : DJ) (M : Md) (N : Nat) (n : Nm) (w : World) (h : DS w g i J M) (ok : MOk J M N) (hN : N ≤ 1500) (hn : n.length ≤ maxLen) :
    Calls Tryz.prog 102 #[.pointer (some ⟨J.D, 0, none⟩), .string (str n)] w fun e w' => ∃ y cy, e = .returned (.tuple #[.slice y (M.readB n).length cy, .int .i64 (M.thereE n)]) ∧ OwnB w' w.heap.size y cy (M.readB n) ∧ Below w.heap.size w w' := by
  have c2 := h.c2
  have hsl : (fget M.seen n).length ≤ 100000000 := by have := ok.sl n; omega
  rcases thereE_cases M n with ⟨ht, hnb, hs⟩ | ht | ht
  · have HT := hide ht
    obtain ⟨y, cy, oy, _, look⟩ := h.fs.at n hn
    have hl1 := (look w rfl).1
    have HV : Hid (M.readB n = fget M.seen n) := by show _ = _; simp [Md.readB, ht]
    clear ht hnb hs look
    go_enter Tryz.func102, Tryz.ntmps102
    go_wp2_with fail
    refine (there_any g i J M n w h hn).mono ?_
    rintro e w' ⟨rfl, rfl⟩
    rw [unhide HT]
    go_wp2_with fail
    refine (bclone_any (ad y) (fget M.seen n).length cy (fget M.seen n) _ oy.toBs rfl hsl).mono ?_
    rintro e w1 ⟨y1, c1, r, rfl, hr, ho, hb1⟩
    obtain rfl : r = fget M.seen n := unhide hr
    go_wp2
    go_ret2
    exact ⟨y1, c1, by rw [unhide HT, unhide HV]; rfl, by rw [unhide HV]; exact ho, hb1⟩
  · have HV : Hid (M.readB n = []) := by show _ = _; simp [Md.readB, ht]
    have HT := hide ht
    clear ht
    go_enter Tryz.func102, Tryz.ntmps102
    go_wp2_with fail
    refine (there_any g i J M n w h hn).mono ?_
    rintro e w' ⟨rfl, rfl⟩
    rw [unhide HT]
    go_wp2
    go_ret2
    exact ⟨none, 0, by rw [unhide HT, unhide HV]; rfl, by rw [unhide HV]; exact OwnB.nil _ _, Below.refl _ _⟩
  · have HV : Hid (M.readB n = []) := by show _ = _; simp [Md.readB, ht]
    have HT := hide ht
    clear ht
    go_enter Tryz.func102, Tryz.ntmps102
    go_wp2_with fail
    refine (there_any g i J M n w h hn).mono ?_
    rintro e w' ⟨rfl, rfl⟩
    rw [unhide HT]
    go_wp2
    go_ret2
    exact ⟨none, 0, by rw [unhide HT, unhide HV]; rfl, by rw [unhide HV]; exact OwnB.nil _ _, Below.refl _ _⟩
def Md.new (z : Int) : Md := { room := z, last := fun _ => none, lastN := 0, seen := fun _ => none, seenN := 0, pend := [], peaks := fun _ => 0, used := 0 }
set_option maxRecDepth 20000 in
set_option maxHeartbeats 2000000 in
theorem new_any (z : Int) (w : World) (h0 : 0 ≤ z) (h1 : z ≤ 16777216) :
    Calls Tryz.prog 26 #[.int .i64 z] w fun e w' => e = .returned (.tuple #[.pointer (some ⟨w.heap.size + 1 + 1 + 1, 0, none⟩), .int .i64 0]) ∧ w' = (((w.alloc (.map #[] 0)).alloc (.map #[] 0)).alloc (.map #[] 0)).alloc (.cells #[.int .i64 z, .map (some w.heap.size), .map (some (w.heap.size + 1)), .slice none 0 0, .map (some (w.heap.size + 1 + 1)), .int .i64 0] 79) := by
  have hmm := @run_makeMap Tryz.prog
  go_enter Tryz.func26, Tryz.ntmps26
  go_wp2
  go_ret2
  exact ⟨rfl, rfl⟩
#print axioms cut_any
#print axioms new_any
end Go.Proofs.YtmcgghjeocnpnaaGreatDoor
end
section
set_option linter.unusedVariables false
namespace Go.Proofs.YtmcgghjeocnpnaaGreatDoor
open Go.RowKit Go.Maps

/-- An act lasts, and its name is counted anew. -/
def Md.lasts (M : Md) (a : Ac) : Md := { M with last := doF M.last a, lastN := doN M.last M.lastN a }
def Md.land (M : Md) (a : Ac) : Md := (M.lasts a).settle a.n
def Md.flush (M : Md) : Md := { M.pend.foldl Md.land M with pend := [] }
theorem land_pend (l : List Ac) (M : Md) : (l.foldl Md.land M).pend = M.pend ∧ (l.foldl Md.land M).seen = M.seen ∧ (l.foldl Md.land M).seenN = M.seenN ∧ (l.foldl Md.land M).room = M.room := by
  induction l generalizing M with
  | nil => exact ⟨rfl, rfl, rfl, rfl⟩
  | cons a r ih => exact ih (M.land a)
theorem land_last (l : List Ac) (M : Md) : (l.foldl Md.land M).last = l.foldl doF M.last := by
  induction l generalizing M with
  | nil => rfl
  | cons a r ih => exact ih (M.land a)
theorem land_lastN (l : List Ac) (M : Md) : (l.foldl Md.land M).lastN ≤ M.lastN + l.length := by
  induction l generalizing M with
  | nil => simp
  | cons a r ih =>
    have h1 := ih (M.land a)
    have h2 : (M.land a).lastN ≤ M.lastN + 1 := doN_le _ _ _
    simp only [List.foldl_cons, List.length_cons]
    omega
theorem fold_len {B : Nat} : ∀ (l : List Ac) (f : Files), (∀ n, (fget f n).length ≤ B) → (∀ a ∈ l, a.p + a.b.length ≤ B) → ∀ n, (fget (l.foldl doF f) n).length ≤ B
  | [], f, h, _ => h
  | a :: r, f, h, h' => fold_len r (doF f a) (doF_len h (h' a (by simp))) (fun b hb => h' b (by simp [hb]))
theorem take_snoc {α : Type} {l : List α} {k : Nat} {x : α} (h : l[k]? = some x) : l.take (k + 1) = l.take k ++ [x] := by
  rw [List.take_add_one, h]; rfl

theorem perf2L {w w' : World} {g g' : Nat → Tg} {i : Nat} {J : DJ} {M : Md} {Z : Nat} {a : Ac} {y : Option Addr} {cy : Nat} {f : Files} {c : Nat} (h : PS w g i J M Z a y cy) (hf : Hid (FM w' g' (.lr i) J.L f c)) (x : Hid (St w w' g g' (fun t => t = g J.L ∨ t = .lr i a.n))) :
    PS w' g' i J { M with last := f, lastN := c } Z a y cy ∧ St w w' g g' (fun t => t.of i) := by
  have x' := unhide x
  rw [h.ds.gL] at x'
  refine ⟨h.step x' (by rintro (e | e) <;> cases e) (by rintro (e | e) <;> cases e) (h.ds.doLast (unhide hf) x'), x'.mono (fun t e => ?_)⟩
  rcases e with e | e <;> (rw [e]; rfl)
/-- The disk with nothing pending. -/
theorem DS.clr {w : World} {g : Nat → Tg} {i : Nat} {J : DJ} {M : Md} (h : DS w g i J M) : DS (w.setCell ⟨J.D, 3, none⟩ (.slice none 0 0)) g i { J with P := none, pc := 0 } { M with pend := [] } ∧ St w (w.setCell ⟨J.D, 3, none⟩ (.slice none 0 0)) g g (fun t => t.of i) := by
  have x : St w (w.setCell ⟨J.D, 3, none⟩ (.slice none 0 0)) g g (fun t => t = .d i) := St.ofG (grownBy_setCell w ⟨J.D, 3, none⟩ _) (fun k hk => by rw [← Option.some.inj hk]; exact h.gD)
  refine ⟨⟨?_, h.gD, h.gL, h.gS, h.gK, (fun k hk => by cases hk), h.fl.st x ?_ ?_, h.fs.st x ?_ ?_, h.pk.st x ?_, [], rfl, OwnA.nil _, (fun t ht => by simp at ht)⟩, x.mono (fun t e => by rw [e]; rfl)⟩
  · simp only [World.setCell, Array.getElem?_modify]
    rw [if_pos trivial, h.dsk]
    rfl
  · rw [h.gL]; intro e; cases e
  · intro m e; cases e
  · rw [h.gS]; intro e; cases e
  · intro m e; cases e
  · rw [h.gK]; intro e; cases e

/-- A box for an act of a row, laid in a round. -/
theorem box_laid {w : World} {g : Nat → Tg} {i : Nat} {J : DJ} {M : Md} (h : DS w g i J M) (t : At) (ht : Bs w t.2.1 t.2.2 t.1.b ∧ ∀ k, blk t.2.1 = some k → k < w.heap.size ∧ g k = .a i) (u : World) (hB : Below w.heap.size w u) (hbox : Box u w.heap.size (.int .i64 (t.1.k : Int)) (.string (str t.1.n)) (.int .i64 (t.1.p : Int)) (.slice t.2.1 t.1.b.length t.2.2)) :
    ∃ g', PS u g' i J M w.heap.size t.1 t.2.1 t.2.2 ∧ St w u g g' (fun t => t.of i) := by
  have x : ∀ S, St w u g (fun k => if k < w.heap.size then g k else .o) S := fun S => ⟨hB.os, hB.tape, hB.output, hB.size, fun k hk _ => hB.block k hk, fun k hk => by simp [hk]⟩
  refine ⟨fun k => if k < w.heap.size then g k else .o, ⟨h.st (x (fun _ => False)) (fun _ _ e => e), hbox, by simp, ht.1.below hB (Nat.le_refl _), fun k hk => ⟨Nat.lt_of_lt_of_le (ht.2 k hk).1 hB.size, ?_⟩⟩, x _⟩
  simp only [(ht.2 k hk).1, if_true]
  exact (ht.2 k hk).2

theorem MOk.flush {J J' : DJ} {M : Md} {N : Nat} (h : MOk J M N) (hJ : J'.kc = J.kc + M.pend.length) : MOk J' M.flush (N + 1) := by
  have g := h.mono (Nat.le_succ N)
  have e := land_pend M.pend M
  have eN := land_lastN M.pend M
  refine ⟨?_, ?_, ?_, ?_, ?_, ?_, ?_, fun a ha => by simp [Md.flush] at ha⟩
  · show 0 ≤ (M.pend.foldl Md.land M).room; rw [e.2.2.2]; exact h.r0
  · show (M.pend.foldl Md.land M).room ≤ _; rw [e.2.2.2]; exact h.r1
  · show (M.pend.foldl Md.land M).lastN + 0 ≤ N + 1; have := h.ln; omega
  · show (M.pend.foldl Md.land M).seenN ≤ N + 1; rw [e.2.2.1]; exact g.sn
  · show J'.kc + 0 ≤ _; have := h.kc; omega
  · intro n; show (fget (M.pend.foldl Md.land M).seen n).length ≤ _; rw [e.2.1]; exact g.sl n
  · intro n; show (fget (M.pend.foldl Md.land M).last n).length ≤ _; rw [land_last]; exact fold_len _ _ g.ll (fun b hb => (g.pe b hb).2.2) n
def landTo (M : Md) (k : Nat) : Md := (M.pend.take k).foldl Md.land M

set_option maxRecDepth 20000 in
set_option maxHeartbeats 4000000 in
theorem flush_any (g : Nat → Tg) (i : Nat) (J : DJ) (M : Md) (N : Nat) (w : World) (h : DS w g i J M) (ok : MOk J M N) (hN : N ≤ 1400) :
    Calls Tryz.prog 68 #[.pointer (some ⟨J.D, 0, none⟩)] w fun e w' => e = .returned (.int .i64 0) ∧ RS w w' g i J M.flush (N + 1) := by
  have c2 := h.c2
  have c3 := h.c3
  have hpl : M.pend.length ≤ 1400 := by have := ok.ln; omega
  go_enter Tryz.func68, Tryz.ntmps68
  go_wp2_with fail
  refine (unmade_not J.D J.S w c2).mono ?_
  rintro e w' ⟨rfl, rfl⟩
  go_wp2
  go_loopw [12] (fun v wr => ∃ (k : Nat) (gk : Nat → Tg), k ≤ M.pend.length ∧ v = .int .i64 (k : Int) ∧ Hid (DS wr gk i { J with kc := J.kc + k } (landTo M k)) ∧ Hid (St w' wr g gk (fun t => t.of i))) (fun v _ => M.pend.length - (intOf v).toNat)
  case atStart => exact ⟨0, g, Nat.zero_le _, rfl, h, St.refl _ _ _⟩
  case round =>
    obtain ⟨k, gk, hk, rfl, HD, HS⟩ := hrel
    by_cases hlt : k < M.pend.length
    · have hlt2 : (k : Int) < (M.pend.length : Int) := by omega
      obtain ⟨l, hl1, hlo, hl3⟩ := (unhide HD).pd
      simp only at hlo
      have hpe : (landTo M k).pend = M.pend := (land_pend _ _).1
      obtain ⟨t, ht⟩ : ∃ t, l[k]? = some t := by
        have : k < l.length := by have := congrArg List.length hl1; rw [hpe] at this; simp at this; omega
        exact ⟨_, List.getElem?_eq_getElem this⟩
      obtain ⟨G, hG, a0, a1, a2, a3⟩ := hlo.at ht
      have HTk : Hid (M.pend[k]? = some t.1) := by
        show _ = _
        rw [← hpe, ← hl1, List.getElem?_map, ht]; rfl
      have HT3 := hide (hl3 t (List.mem_of_getElem? ht))
      clear hl1 hlo hl3 hpe ht
      have c3' : Hid (J.P = some ⟨G, 0, none⟩) := hG
      obtain ⟨u, hu⟩ : ∃ u, u = wr.alloc (.cells #[.int .i64 (t.1.k : Int), .string (str t.1.n), .int .i64 (t.1.p : Int), .slice t.2.1 t.1.b.length t.2.2] 98) := ⟨_, rfl⟩
      have hBu : Below wr.heap.size wr u.drew := by rw [hu]; exact ((Below.refl _ _).alloc (Nat.le_refl _) _).drew
      have hbx : Box u.drew wr.heap.size (.int .i64 (t.1.k : Int)) (.string (str t.1.n)) (.int .i64 (t.1.p : Int)) (.slice t.2.1 t.1.b.length t.2.2) := by unfold Box; rw [hu]; exact heap_alloc_new wr _
      obtain ⟨g1, p1, st1⟩ := box_laid (unhide HD) t (unhide HT3) u.drew hBu hbx
      have P1 := hide p1
      have ST1 := hide ((unhide HS).trans st1)
      have hS1 := And.intro p1.ds.c1 p1.box.cells
      have hby := p1.by'
      have hfl := p1.ds.fl
      have htL := p1.ds.trL
      have hxt : ∀ j, blk t.2.1 = some j → g1 j ≠ .lr i t.1.n := fun j hj e => by have := (p1.ty j hj).2; rw [e] at this; cases this
      obtain ⟨hk2, hn24, hpb⟩ := ok.pe t.1 (List.mem_of_getElem? (unhide HTk))
      have hl0 : ∀ n, (fget (landTo M k).last n).length ≤ N * 65600 := by
        intro n
        unfold landTo
        rw [land_last]
        exact fold_len _ _ ok.ll (fun b hb => (ok.pe b (List.mem_of_mem_take hb)).2.2) n
      have hlN : (landTo M k).lastN ≤ 1400 := by
        have h1 := land_lastN (M.pend.take k) M
        have h2 := ok.ln
        unfold landTo
        simp at h1
        omega
      have hl' : (fget (landTo M k).last t.1.n).length ≤ 1000000000 := by have := hl0 t.1.n; omega
      have hsl' : (fget (landTo M k).seen t.1.n).length ≤ 1000000000 := by
        have h1 : (landTo M k).seen = M.seen := (land_pend _ _).2.1
        rw [h1]
        have := ok.sl t.1.n
        omega
      have hn1 : t.1.n.length ≤ 1000 := by omega
      have hp1 : t.1.p ≤ 1000000000 := by omega
      have hb1 : t.1.b.length ≤ 1000000000 := by omega
      have hc1 : (landTo M k).lastN ≤ 1000000000 := by omega
      have hkc : J.kc + k ≤ 1000000 := by have := ok.kc; omega
      have HU := hide hu
      simp only at hS1
      clear hu hBu hbx p1 st1 hl0 hlN hpb
      go_wp2_with fail
      rw [← unhide HU, ← unhide c3']
      clear hG a0 a1 a2 a3 HU
      go_upto_region 6 with fail
      go_cut [] (fun wx => ∃ g2, PS wx g2 i { J with kc := J.kc + k } ((landTo M k).lasts t.1) wr.heap.size t.1 t.2.1 t.2.2 ∧ St w' wx g g2 (fun t => t.of i))
      case first =>
        go_region_held3 (fun w' => w'.cell? ⟨J.D, 1, none⟩ = some (.map (some J.L)) ∧ w'.cell? ⟨wr.heap.size, 0, none⟩ = some (.int .i64 (t.1.k : Int)) ∧ w'.cell? ⟨wr.heap.size, 1, none⟩ = some (.string (str t.1.n)) ∧ w'.cell? ⟨wr.heap.size, 2, none⟩ = some (.int .i64 (t.1.p : Int)) ∧ w'.cell? ⟨wr.heap.size, 3, none⟩ = some (.slice t.2.1 t.1.b.length t.2.2)) (first | exact hS1 | exact And.intro p2.ds.c1 p2.box.cells) ((go_at_call 43; refine (do_any g1 (.lr i) J.L (landTo M k).last (landTo M k).lastN t.1 (t.1.k : Int) (t.1.p : Int) t.2.1 t.2.2 _ hfl htL rfl hk2 hn1 rfl hby hxt hl' hp1 hb1 hc1).mono ?_; rintro e w2 ⟨rfl, g2, HF, HT⟩; obtain ⟨p2, st2⟩ := perf2L (unhide P1) HF HT))
        all_goals (go_wp2_with fail; go_meet; exact ⟨g2, p2, (unhide ST1).trans st2⟩)
      case rest =>
        obtain ⟨g2, p2, st2⟩ := hcut
        have b1 := p2.box.cells.2.1
        have D2 := hide p2.ds
        have ST2 := hide st2
        clear p2 st2 hS1 hby hfl htL hxt P1 ST1
        go_wp2_with fail
        refine (settle_any g2 i { J with kc := J.kc + k } ((landTo M k).lasts t.1) t.1.n _ (unhide D2) hn1 hkc hsl').mono ?_
        rintro e w3 ⟨rfl, HD3, HS3⟩
        have HF3 : Hid (DS w3 g2 i { J with kc := J.kc + (k + 1) } (landTo M (k + 1))) := by
          have e : landTo M (k + 1) = ((landTo M k).lasts t.1).settle t.1.n := by
            unfold landTo
            rw [take_snoc (unhide HTk), List.foldl_append]
            rfl
          rw [e]
          exact HD3
        have HS4 : Hid (St w' w3 g g2 (fun t => t.of i)) := (unhide ST2).trans ((unhide HS3).mono (fun t e => by rcases e with e | e <;> (rw [e]; rfl)))
        clear HD3 HS3 ST2 D2
        go_wp2
        go_roundw
        case rel => exact ⟨k + 1, g2, by omega, by go_num, HF3, HS4⟩
        case measure => simp [intOf]; omega
    · obtain rfl : k = M.pend.length := by omega
      have HF : Hid (landTo M M.pend.length = M.pend.foldl Md.land M) := by show _ = _; unfold landTo; rw [List.take_length]
      have hcl := (unhide HD).clr
      have q3 := (unhide HD).c3
      have f3 := (unhide HD).fr 3
      simp only at q3 f3
      have HC := hide hcl
      clear hcl
      go_wp2
      go_ret
      refine ⟨rfl, gk, { J with P := none, pc := 0, kc := J.kc + M.pend.length }, ?_, ok.flush rfl, (unhide HS).trans (unhide HC).2, rfl⟩
      · show DS _ _ _ _ _
        have := (unhide HC).1
        rw [unhide HF] at this
        exact this
#print axioms flush_any
end Go.Proofs.YtmcgghjeocnpnaaGreatDoor
end
section
set_option linter.unusedVariables false
namespace Go.Proofs.YtmcgghjeocnpnaaGreatDoor
open Go.RowKit Go.Maps

def Ac.torn (a : Ac) (z : Int) : Ac := if a.k = 0 then { a with b := a.b.take (a.b.length - min z.toNat a.b.length) } else a

set_option maxRecDepth 20000 in
set_option maxHeartbeats 1000000 in
theorem torn_any (a : Ac) (K : Int) (p z : Int) (x : Option Addr) (c : Nat) (w : World) (HK : Hid (K = (a.k : Int))) (hb : Bs w x c a.b) (hbl : a.b.length ≤ 1000000000) :
    Calls Tryz.prog 71 #[.agg #[.int .i64 K, .string (str a.n), .int .i64 p, .slice x a.b.length c], .int .i64 z] w fun e w' => ∃ y, e = .returned (.agg #[.int .i64 K, .string (str a.n), .int .i64 p, .slice y (a.torn z).b.length c]) ∧ (∀ W, Bs W x c a.b → Bs W y c (a.torn z).b) ∧ blk y = blk x ∧ Below w.heap.size w w' := by
  have hB : ∀ o1 o2, Below w.heap.size w ((w.alloc o1).alloc o2) := fun o1 o2 => ((Below.refl _ _).alloc (Nat.le_refl _) _).alloc (by simp) _
  by_cases h0 : a.k = 0
  · obtain rfl : K = 0 := by rw [unhide HK, h0]; rfl
    obtain ⟨T, hT⟩ : ∃ T, T = min z.toNat a.b.length := ⟨_, rfl⟩
    have hTl : T ≤ a.b.length := by omega
    have HE : Hid (a.torn z = { a with b := a.b.take (a.b.length - T) }) := by show _ = _; unfold Ac.torn; rw [if_pos h0, hT]
    obtain ⟨y, hcut, hBy, hblk⟩ := cut_head x a.b.length c (a.b.length - T) a.b (by omega) hb.le (fun h => by obtain ⟨b, off, e, _⟩ := hb.row h; exact ⟨b, off, e⟩)
    have hlen : (a.b.take (a.b.length - T)).length = a.b.length - T := by simp
    obtain ⟨Z0, hZ0⟩ : ∃ Z0, Z0 = (if z < 0 then 0 else z) := ⟨_, rfl⟩
    have hZ1 : Z0 = max z 0 := by rw [hZ0]; split <;> omega
    have hif : (if (a.b.length : Int) < Z0 then (a.b.length : Int) else Z0) = (T : Int) := by rw [hT, hZ1]; split <;> omega
    have hmx := hZ0.symm
    have hz0 : 0 ≤ Z0 := by omega
    have hTi : (T : Int) ≤ (a.b.length : Int) := by omega
    clear hZ0 hZ1
    have hcut' := fun W => hcut W
    have hcast : (((a.b.length - T : Nat) : Int)) = (a.b.length : Int) - (T : Int) := by omega
    rw [hcast] at hcut'
    have HT := hide hT
    have HL := hide hlen
    clear hT hcut hlen hcast h0
    go_enter Tryz.func71, Tryz.ntmps71
    go_wp2
    refine bodyPost_ret (v := .agg #[.int .i64 0, .string (str a.n), .int .i64 p, .slice y (a.b.length - T) c]) (by simp [results, Tryz.results71, go_sem]) rfl ⟨y, ?_, fun W hW => ?_, hblk, hB _ _⟩
    · rw [unhide HE]
      show _ = Ending.returned (.agg #[.int .i64 0, .string (str a.n), .int .i64 p, .slice y (a.b.take (a.b.length - T)).length c])
      rw [unhide HL]
    · rw [unhide HE]; exact hBy W hW
  · have hK0 : (K == 0) = false := by
      have := unhide HK
      simp only [beq_eq_false_iff_ne, ne_eq]
      omega
    have HE : Hid (a.torn z = a) := by show _ = _; unfold Ac.torn; rw [if_neg h0]
    clear h0
    go_enter Tryz.func71, Tryz.ntmps71
    go_wp2
    refine bodyPost_ret (v := .agg #[.int .i64 K, .string (str a.n), .int .i64 p, .slice x a.b.length c]) (by simp [results, Tryz.results71, go_sem]) rfl ⟨x, ?_, fun W hW => ?_, rfl, hB _ _⟩
    · rw [unhide HE]
    · rw [unhide HE]; exact hW

/-! ### a row of bools that is read -/
def BRow (w : World) (a : Option Addr) (l : List Bool) : Prop :=
  l ≠ [] → ∃ b off, a = some ⟨b, off, none⟩ ∧ ∀ i, i < l.length → w.cell? ⟨b, off + i, none⟩ = some (.bool (l.getD i false))
theorem BRow.below {w w' : World} {B : Nat} {a : Option Addr} {l : List Bool} (h : BRow w a l) (hb : Below B w w') (hB : w.heap.size ≤ B) : BRow w' a l := by
  intro hne
  obtain ⟨b, off, rfl, hc⟩ := h hne
  refine ⟨b, off, rfl, fun i hi => ?_⟩
  have := hc i hi
  have hlt := World.block_lt_of_cell? w _ this
  simp only at hlt
  rw [hb.cell (by simp only; omega)]
  exact this
/-- The acts that are kept. -/
def keptL {α : Type} : List α → List Bool → List α
  | [], _ => []
  | a :: r, k => (if k.headD false then [a] else []) ++ keptL r k.tail
theorem keptL_snoc {α : Type} : ∀ (l : List α) (a : α) (k : List Bool), keptL (l ++ [a]) k = keptL l k ++ (if k.getD l.length false then [a] else [])
  | [], a, k => by cases k <;> simp [keptL]
  | b :: r, a, k => by
    show (if k.headD false then [b] else []) ++ keptL (r ++ [a]) k.tail = _
    rw [keptL_snoc r a k.tail]
    cases k <;> simp [keptL]
theorem keptL_map {α β : Type} (f : α → β) : ∀ (l : List α) (k : List Bool), keptL (l.map f) k = (keptL l k).map f
  | [], _ => rfl
  | a :: r, k => by
    show (if k.headD false then [f a] else []) ++ keptL (r.map f) k.tail = _
    rw [keptL_map f r k.tail]
    show _ = ((if k.headD false then [a] else []) ++ keptL r k.tail).map f
    cases k.headD false <;> simp
theorem keptL_mem {α : Type} : ∀ (l : List α) (k : List Bool) (x : α), x ∈ keptL l k → x ∈ l
  | [], _, x, h => h
  | a :: r, k, x, h => by
    rcases List.mem_append.1 h with h' | h'
    · cases hk : k.headD false
      · rw [hk] at h'; simp at h'
      · rw [hk] at h'; simp at h'; simp [h']
    · exact List.mem_cons_of_mem _ (keptL_mem r k.tail x h')
theorem keptL_len {α : Type} : ∀ (l : List α) (k : List Bool), (keptL l k).length ≤ l.length
  | [], _ => Nat.le_refl _
  | a :: r, k => by
    have := keptL_len r k.tail
    show ((if k.headD false then [a] else []) ++ keptL r k.tail).length ≤ _
    cases k.headD false <;> simp <;> omega
/-- .. the last of them torn. -/
def tornLast (l : List Ac) (z : Int) : List Ac := l.dropLast ++ (l.getLast?.map (·.torn z)).toList
theorem tornLast_snoc (l : List Ac) (a : Ac) (z : Int) : tornLast (l ++ [a]) z = l ++ [a.torn z] := by simp [tornLast]
theorem tornLast_nil (z : Int) : tornLast [] z = [] := rfl

theorem list_set4 {α : Type} (L : List α) (m : Nat) (v0 v1 v2 v3 : α) (h : m + 4 ≤ L.length) (A : List α) (hA : L.take m = A) :
    ((((L.set m v0).set (m + 1) v1).set (m + 2) v2).set (m + 3) v3).take (m + 4) = A ++ [v0, v1, v2, v3] := by
  apply List.ext_getElem?
  intro j
  have hAl : A.length = m := by rw [← hA]; simp; omega
  by_cases hj : j < m + 4
  · rw [List.getElem?_take, if_pos hj]
    by_cases hm : j < m
    · rw [List.getElem?_append_left (by omega), ← hA, List.getElem?_take, if_pos hm]
      rw [List.getElem?_set_ne (by omega), List.getElem?_set_ne (by omega), List.getElem?_set_ne (by omega), List.getElem?_set_ne (by omega)]
    · rw [List.getElem?_append_right (by omega), hAl]
      rcases (by omega : j = m ∨ j = m + 1 ∨ j = m + 2 ∨ j = m + 3) with rfl | rfl | rfl | rfl
      · rw [List.getElem?_set_ne (by omega), List.getElem?_set_ne (by omega), List.getElem?_set_ne (by omega), List.getElem?_set_self (by omega)]; simp
      · rw [List.getElem?_set_ne (by omega), List.getElem?_set_ne (by omega), List.getElem?_set_self (by simp; omega)]; simp
      · rw [List.getElem?_set_ne (by omega), List.getElem?_set_self (by simp; omega)]; simp
      · rw [List.getElem?_set_self (by simp; omega)]; simp
  · rw [List.getElem?_take, if_neg hj, List.getElem?_eq_none (by simp; omega)]
/-- The last act of a row is written anew. -/
theorem OwnA.setLast {w : World} {G cap : Nat} {l : List At} {t : At} (h : OwnA w (some ⟨G, 0, none⟩) cap (l ++ [t])) (u : At) :
    OwnA ((((w.setCell ⟨G, l.length * 4, none⟩ (.int .i64 (u.1.k : Int))).setCell ⟨G, l.length * 4 + 1, none⟩ (.string (str u.1.n))).setCell ⟨G, l.length * 4 + 2, none⟩ (.int .i64 (u.1.p : Int))).setCell ⟨G, l.length * 4 + 3, none⟩ (.slice u.2.1 u.1.b.length u.2.2)) (some ⟨G, 0, none⟩) cap (l ++ [u]) := by
  rcases h.cases with ⟨e, _⟩ | ⟨g, cur, e, hg, hle, hm, hs, ht⟩
  · cases e
  · obtain rfl : G = g := by simpa using e
    have hlen : (l ++ [t]).length = l.length + 1 := by simp
    have hlen' : (l ++ [u]).length = l.length + 1 := by simp
    rw [hlen] at hle ht
    refine ⟨acs_length _, .inr ⟨G, cap, (((cur.set! (l.length * 4) (.int .i64 (u.1.k : Int))).set! (l.length * 4 + 1) (.string (str u.1.n))).set! (l.length * 4 + 2) (.int .i64 (u.1.p : Int))).set! (l.length * 4 + 3) (.slice u.2.1 u.1.b.length u.2.2), rfl, Nat.zero_le _, ?_, by rw [hlen']; exact hle, hm, by simpa using hs, ?_⟩⟩
    · simp only [World.setCell, Array.getElem?_modify]
      rw [if_pos trivial, if_pos trivial, if_pos trivial, if_pos trivial, hg]
      rfl
    · rw [hlen', acs_append]
      have e1 : acs [u] = acC u := by simp [acs]
      rw [e1]
      have hA : cur.toList.take (l.length * 4) = acs l := by
        have h2 : (cur.toList.take ((l.length + 1) * 4)).take (l.length * 4) = (acs (l ++ [t])).take (l.length * 4) := by rw [ht]
        rw [List.take_take, Nat.min_eq_left (by omega), acs_append, ← acs_length l, List.take_left] at h2
        rw [acs_length] at h2
        exact h2
      have h9 := Nat.mul_le_mul_right 4 hle
      have e9 : cur.toList.length = cap * 4 := by rw [Array.length_toList]; exact hs
      have := list_set4 cur.toList (l.length * 4) (.int .i64 (u.1.k : Int)) (.string (str u.1.n)) (.int .i64 (u.1.p : Int)) (.slice u.2.1 u.1.b.length u.2.2) (by omega) _ hA
      rw [show (l.length + 1) * 4 = l.length * 4 + 4 by omega]
      unfold acC
      simpa using this
#print axioms torn_any
end Go.Proofs.YtmcgghjeocnpnaaGreatDoor
end
section
set_option linter.unusedVariables false
namespace Go.Proofs.YtmcgghjeocnpnaaGreatDoor
open Go.RowKit Go.Maps

theorem torn_k (a : Ac) (z : Int) : (a.torn z).k = a.k := by unfold Ac.torn; split <;> rfl
theorem torn_n (a : Ac) (z : Int) : (a.torn z).n = a.n := by unfold Ac.torn; split <;> rfl
theorem torn_p (a : Ac) (z : Int) : (a.torn z).p = a.p := by unfold Ac.torn; split <;> rfl
theorem torn_b (a : Ac) (z : Int) : (a.torn z).b.length ≤ a.b.length := by unfold Ac.torn; split <;> simp <;> omega
theorem BRow.at {w : World} {a : Option Addr} {l : List Bool} (h : BRow w a l) {i : Nat} (hi : i < l.length) : ∃ b off, a = some ⟨b, off, none⟩ ∧ w.cell? ⟨b, off + i, none⟩ = some (.bool (l.getD i false)) := by
  obtain ⟨b, off, e, hc⟩ := h (by intro e; subst e; simp at hi)
  exact ⟨b, off, e, hc i hi⟩

set_option maxRecDepth 20000 in
set_option maxHeartbeats 4000000 in
theorem kept_any (P : Option Addr) (pc : Nat) (l : List At) (kp : Option Addr) (kl : List Bool) (kc : Nat) (z : Int) (L KL : Nat) (w : World) (HL : Hid (L = l.length)) (HKL : Hid (KL = kl.length)) (ho : OwnA w P pc l) (hk : BRow w kp kl) (hl : L ≤ 1000000) (hkm : KL ≤ maxLen) (h3 : ∀ t ∈ l, Bs w t.2.1 t.2.2 t.1.b ∧ t.1.b.length ≤ 1000000000) :
    Calls Tryz.prog 42 #[.slice P L pc, .slice kp KL kc, .int .i64 z] w fun e w' => ∃ Q qc lo, e = .returned (.slice Q lo.length qc) ∧ OwnA w' Q qc lo ∧ Hid (lo.map (·.1) = tornLast (keptL (l.map (·.1)) kl) z) ∧ Hid (∀ t ∈ lo, ∃ u ∈ l, blk t.2.1 = blk u.2.1 ∧ ∀ W, Bs W u.2.1 u.2.2 u.1.b → Bs W t.2.1 t.2.2 t.1.b) ∧ Hid (∀ k, blk Q = some k → w.heap.size ≤ k) ∧ Below w.heap.size w w' := by
  unfold maxLen at hkm
  have H3 := hide h3
  clear h3
  go_enter Tryz.func42, Tryz.ntmps42
  go_wp2
  go_loopw [7, 13] (fun s v wr => ∃ (k : Nat) (Q : Option Addr) (qc : Nat) (lo : List At) (n : Nat), k ≤ L ∧ v = .int .i64 (k : Int) ∧ s = .slice Q n qc ∧ Hid (n = lo.length) ∧ n ≤ k ∧ Hid (lo = keptL (l.take k) kl) ∧ Hid (OwnA wr Q qc lo) ∧ Hid (∀ j, blk Q = some j → w.heap.size ≤ j) ∧ Hid (Below w.heap.size w wr)) (fun _ v _ => L - (intOf v).toNat)
  case atStart => exact ⟨0, none, 0, [], 0, Nat.zero_le _, rfl, rfl, rfl, Nat.le_refl _, rfl, OwnA.nil _, (fun j hj => by cases hj), Below.refl _ _⟩
  case round =>
    obtain ⟨k, Q, qc, lo, n, hkL, rfl, rfl, HN, hnk, HLo, HO, HQ, HB⟩ := hrel
    by_cases hlt : k < L
    · have hlt2 : (k : Int) < (L : Int) := by omega
      have hlw := ho.below (unhide HB)
      obtain ⟨t, ht⟩ : ∃ t, l[k]? = some t := ⟨_, List.getElem?_eq_getElem (by have := unhide HL; omega)⟩
      obtain ⟨G, hG, a0, a1, a2, a3⟩ := hlw.at ht
      have HT := hide ht
      have HG := hide hG
      have hkw := hk.below (unhide HB) (Nat.le_refl _)
      clear hlw ht
      by_cases hkk : k < KL
      · have hkk2 : (k : Int) < (KL : Int) := by omega
        obtain ⟨b1, o1, hkp, hc1⟩ := hkw.at (i := k) (by have := unhide HKL; omega)
        have hc2 : ∀ o, (wr.alloc o).cell? ⟨b1, o1 + k, none⟩ = some (.bool (kl.getD k false)) := fun o => by
          rw [((Below.refl wr.heap.size wr).alloc (Nat.le_refl _) o).cell (World.block_lt_of_cell? _ _ hc1)]; exact hc1
        have HKP := hide hkp
        cases hb : kl.getD k false with
        | true =>
          rw [hb] at hc1 hc2
          have HBt := hide hb
          clear hb hkw
          have hown := ((unhide HO).below (w' := wr.alloc (.cells (acC t).toArray 98)) ((Below.refl _ _).alloc (Nat.le_refl _) _)).below (w' := (wr.alloc (.cells (acC t).toArray 98)).alloc (.cells (acC t).toArray 98)) ((Below.refl _ _).alloc (Nat.le_refl _) _)
          have hsrc : ((wr.alloc (.cells (acC t).toArray 98)).alloc (.cells (acC t).toArray 98)).heap[wr.heap.size + 1]? = some (.cells (acC t).toArray 98 (0, 0)) := by
            have := heap_alloc_new (wr.alloc (.cells (acC t).toArray 98)) (.cells (acC t).toArray 98)
            simpa using this
          have hnl : lo.length ≤ 1000000 := by have := unhide HN; omega
          go_wp2_with (at_builtin; refine wp_appa _ rfl _ _ rfl Q qc lo n rfl (unhide HN) hown (wr.heap.size + 1) 1 t rfl hsrc hnl ?_)
          intro G2 cap2 w2 ho2 hg2 hloc2
          rw [← unhide HG, ← unhide HKP]
          clear hG hkp hc1 hc2 a0 a1 a2 a3 hown hsrc
          have HB2 : Hid (Below w.heap.size w w2) := by
            have hb0 := unhide HB
            have := ((hb0.alloc hb0.size (.cells (acC t).toArray 98)).alloc (by simp; have := hb0.size; omega) (.cells (acC t).toArray 98))
            exact this.grown hg2 (by simp; have := hb0.size; omega) (fun j hj => unhide HQ j hj)
          have HQ2 : Hid (∀ j, blk (some ⟨G2, 0, none⟩) = some j → w.heap.size ≤ j) := by
            intro j hj
            obtain rfl : G2 = j := by simpa [blk] using hj
            rcases unhide hloc2 with e | e
            · exact unhide HQ G2 e
            · have := (unhide HB).size
              first | omega | (simp at e; omega)
          have HLo2 : Hid (lo ++ [t] = keptL (l.take (k + 1)) kl) := by
            show _ = _
            rw [take_snoc (unhide HT), keptL_snoc, unhide HLo, List.length_take, Nat.min_eq_left (by have := unhide HL; omega), unhide HBt]
            rfl
          have HN2 : Hid (n + 1 = (lo ++ [t]).length) := by show _ = _; rw [unhide HN]; simp
          go_wp2
          go_roundw
          case rel => exact ⟨k + 1, _, _, lo ++ [t], n + 1, by omega, by go_num, rfl, HN2, by omega, HLo2, ho2, HQ2, HB2⟩
          case measure => simp [intOf]; omega
        | false =>
          rw [hb] at hc1 hc2
          have HBt := hide hb
          clear hb hkw
          have HO2 : Hid (OwnA (wr.alloc (.cells (acC t).toArray 98)) Q qc lo) := (unhide HO).below ((Below.refl _ _).alloc (Nat.le_refl _) _)
          have HB2 : Hid (Below w.heap.size w (wr.alloc (.cells (acC t).toArray 98))) := (unhide HB).alloc (unhide HB).size _
          have HLo2 : Hid (lo = keptL (l.take (k + 1)) kl) := by
            show _ = _
            rw [take_snoc (unhide HT), keptL_snoc, ← unhide HLo, List.length_take, Nat.min_eq_left (by have := unhide HL; omega), unhide HBt]
            simp
          go_wp2
          exact ⟨⟨k + 1, Q, qc, lo, n, by omega, by go_num, rfl, HN, by omega, HLo2, HO2, HQ, HB2⟩, by simp [intOf]; omega⟩
      · have hkk2 : (KL : Int) ≤ (k : Int) := by omega
        have HO2 : Hid (OwnA (wr.alloc (.cells (acC t).toArray 98)) Q qc lo) := (unhide HO).below ((Below.refl _ _).alloc (Nat.le_refl _) _)
        have HB2 : Hid (Below w.heap.size w (wr.alloc (.cells (acC t).toArray 98))) := (unhide HB).alloc (unhide HB).size _
        have HLo2 : Hid (lo = keptL (l.take (k + 1)) kl) := by
          show _ = _
          have hnone : kl.getD k false = false := by rw [List.getD_eq_getElem?_getD, List.getElem?_eq_none (by have := unhide HKL; omega)]; rfl
          rw [take_snoc (unhide HT), keptL_snoc, ← unhide HLo, List.length_take, Nat.min_eq_left (by have := unhide HL; omega), hnone]
          simp
        clear hkk hkw
        go_wp2_with fail
        rw [← unhide HG]
        clear hG a0 a1 a2 a3
        go_wp2
        go_roundw
        case rel => exact ⟨k + 1, Q, qc, lo, n, by omega, by go_num, rfl, HN, by omega, HLo2, HO2, HQ, HB2⟩
        case measure => simp [intOf]; omega
    · obtain rfl : k = L := by omega
      have HLo2 : Hid (lo = keptL l kl) := by show _ = _; rw [unhide HLo, List.take_of_length_le (by have := unhide HL; omega)]
      clear HLo
      by_cases hn0 : n = 0
      · subst hn0
        have HE : Hid (lo = []) := by show _ = _; exact List.eq_nil_of_length_eq_zero (unhide HN).symm
        go_wp2
        go_ret
        refine ⟨Q, qc, lo, by rw [unhide HE]; rfl, unhide HO, ?_, ?_, HQ, unhide HB⟩
        · show _ = _
          rw [keptL_map, ← unhide HLo2, unhide HE]; rfl
        · intro t ht
          rw [unhide HE] at ht
          simp at ht
      · obtain ⟨r, t, hrt⟩ : ∃ r t, lo = r ++ [t] := by
          rcases List.eq_nil_or_concat lo with e | ⟨r, t, e⟩
          · exact absurd (by rw [unhide HN, e]; rfl) hn0
          · exact ⟨r, t, by rw [e, List.concat_eq_append]⟩
        subst hrt
        obtain ⟨R, hR⟩ : ∃ R, R = r.length := ⟨_, rfl⟩
        obtain rfl : n = R + 1 := by rw [unhide HN, hR]; simp
        have hown := unhide HO
        obtain ⟨G, hG, a0, a1, a2, a3⟩ := hown.at (i := r.length) (t := t) (by simp)
        subst hG
        rw [← hR] at a0 a1 a2 a3
        have hu : t ∈ l := keptL_mem _ _ _ (by rw [← unhide HLo2]; simp)
        have hbt := unhide H3 t hu
        have hbw := hbt.1.below (unhide HB) (Nat.le_refl _)
        have HR := hide hR
        have HUt := hide hu
        have HBt := hide hbt
        have hbl9 := hbt.2
        clear hR hn0 hu hown hbt
        go_wp2_with fail
        refine (torn_any t.1 (t.1.k : Int) (t.1.p : Int) z t.2.1 t.2.2 wr rfl hbw hbl9).mono ?_
        rintro e w2 ⟨y, rfl, hy1, hy2, hb2⟩
        have hown2 := (unhide HO).below hb2
        obtain ⟨G', hG', q0, q1, q2, q3⟩ := hown2.at (i := r.length) (t := t) (by simp)
        obtain rfl : G = G' := by simpa using hG'
        rw [← unhide HR] at q0 q1 q2 q3
        have hfz : ∀ j, w2.frozen? ⟨G, j, none⟩ = false := by
          rcases hown2.cases with ⟨e, _⟩ | ⟨g, cur, e, hg, _⟩
          · cases e
          · obtain rfl : G = g := by simpa using e
            exact fun j => frozen_of_row w2 G j _ _ hg
        have f0 := hfz (R * 4)
        have f1 := hfz (R * 4 + 1)
        have f2 := hfz (R * 4 + 2)
        have f3 := hfz (R * 4 + 3)
        have hset := hown2.setLast (t.1.torn z, y, t.2.2)
        simp only [torn_k, torn_n, torn_p] at hset
        rw [← unhide HR] at hset
        have HSet := hide hset
        have hgG : ∀ (v : World) (j : Nat) (u : Value), v.grownBy (v.setCell ⟨G, j, none⟩ u) (some G) := fun v j u => grownBy_setCell v ⟨G, j, none⟩ u
        have HB3 : Hid (Below w.heap.size w ((((w2.setCell ⟨G, R * 4, none⟩ (.int .i64 (t.1.k : Int))).setCell ⟨G, R * 4 + 1, none⟩ (.string (str t.1.n))).setCell ⟨G, R * 4 + 2, none⟩ (.int .i64 (t.1.p : Int))).setCell ⟨G, R * 4 + 3, none⟩ (.slice y (t.1.torn z).b.length t.2.2))) := by
          have hbb := (unhide HB).trans (hb2.mono (unhide HB).size)
          exact hbb.grown ((((hgG _ _ _).trans (hgG _ _ _)).trans (hgG _ _ _)).trans (hgG _ _ _)) (Nat.le_trans (Nat.le_refl _) hbb.size) (fun j hj => unhide HQ j hj)
        have HY := hide (And.intro hy1 hy2)
        clear hset hgG hown2 hfz hy1 hy2 hG' a0 a1 a2 a3 hb2
        go_wp2
        go_ret
        refine ⟨some ⟨G, 0, none⟩, qc, r ++ [(t.1.torn z, y, t.2.2)], ?_, unhide HSet, ?_, ?_, HQ, unhide HB3⟩
        · rw [show (r ++ [(t.1.torn z, y, t.2.2)]).length = R + 1 by rw [unhide HR]; simp]
          rfl
        · show _ = _
          rw [keptL_map, ← unhide HLo2, List.map_append, List.map_append]
          show _ = tornLast (r.map (·.1) ++ [t.1]) z
          rw [tornLast_snoc]
          rfl
        · intro s hs
          rcases List.mem_append.1 hs with h' | h'
          · exact ⟨s, keptL_mem _ _ _ (by rw [← unhide HLo2]; exact List.mem_append_left _ h'), rfl, fun W hW => hW⟩
          · rw [List.mem_singleton.1 h']
            exact ⟨t, unhide HUt, (unhide HY).2, (unhide HY).1⟩
#print axioms kept_any
end Go.Proofs.YtmcgghjeocnpnaaGreatDoor
end
