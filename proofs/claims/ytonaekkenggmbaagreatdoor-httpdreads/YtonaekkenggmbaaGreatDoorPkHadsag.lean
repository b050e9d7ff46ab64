/-
  httpd's reader in memory: its block, what takes the next byte, what comes then; the calls that make them.; httpd's reader: a chunk begins; what comes then.; httpd's reader: a byte of a text that must stand there.
-/
import Derived.Test.YtonaekkenggmbaaGreatDoorPkHadsae
import Derived.Test.YtonaekkenggmbaaGreatDoorPkHadsaf
import Derived.Test.YtonaekkenggmbaaGreatDoorPkHadsac
section
set_option linter.unusedVariables false
set_option maxRecDepth 1000000
namespace Go.Proofs.YtonaekkenggmbaaGreatDoor
open Go.RowKit

/-- What stays: all but the blocks of S. -/
structure Kp (w w' : World) (S : Nat → Prop) : Prop where
  os : w'.os = w.os
  tape : w'.tape = w.tape
  output : w'.output = w.output
  size : w.heap.size ≤ w'.heap.size
  block : ∀ k, k < w.heap.size → ¬ S k → w'.heap[k]? = w.heap[k]?
theorem Kp.of {w w' : World} {S : Nat → Prop} (h : Below w.heap.size w w') : Kp w w' S := ⟨h.os, h.tape, h.output, h.size, fun k hk _ => h.block k hk⟩
theorem Kp.ofG {w w' : World} {S : Nat → Prop} {row : Option Nat} (h : w.grownBy w' row) (hr : ∀ k, row = some k → S k) : Kp w w' S :=
  ⟨h.os, h.tape, h.output, h.size, fun k hk hs => h.block k hk (fun e => hs (hr k e.symm))⟩
theorem Kp.trans {a b c : World} {S : Nat → Prop} (h : Kp a b S) (k : Kp b c S) : Kp a c S :=
  ⟨k.os.trans h.os, k.tape.trans h.tape, k.output.trans h.output, Nat.le_trans h.size k.size, fun i hi hs => (k.block i (Nat.lt_of_lt_of_le hi h.size) hs).trans (h.block i hi hs)⟩
/-- The second may also change what came since. -/
theorem Kp.trans' {a b c : World} {S S' : Nat → Prop} (h : Kp a b S) (k : Kp b c S') (hs : ∀ i, i < a.heap.size → S' i → S i) : Kp a c S :=
  ⟨k.os.trans h.os, k.tape.trans h.tape, k.output.trans h.output, Nat.le_trans h.size k.size, fun i hi hn => (k.block i (Nat.lt_of_lt_of_le hi h.size) (fun e => hn (hs i hi e))).trans (h.block i hi hn)⟩
theorem Kp.below {w0 w w' : World} {S : Nat → Prop} {B : Nat} (h : Below B w0 w) (k : Kp w w' S) (hB : B ≤ w.heap.size) (hS : ∀ j, S j → B ≤ j) : Below B w0 w' :=
  ⟨k.os.trans h.os, k.tape.trans h.tape, k.output.trans h.output, Nat.le_trans h.size k.size, fun i hi => (k.block i (by omega) (fun hs => by have := hS i hs; omega)).trans (h.block i hi)⟩
theorem Kp.mono {w w' : World} {S S' : Nat → Prop} (h : Kp w w' S) (hs : ∀ k, S k → S' k) : Kp w w' S' := ⟨h.os, h.tape, h.output, h.size, fun k hk hn => h.block k hk (fun e => hn (hs k e))⟩
theorem Kp.bs {w w' : World} {S : Nat → Prop} (k : Kp w w' S) {a : Option Addr} {cap : Nat} {l : List UInt8} (h : Bs w a cap l) (hs : ∀ g, blk a = some g → ¬ S g) : Bs w' a cap l := by
  refine ⟨fun hne => ?_, h.le, h.most, h.nz⟩
  obtain ⟨b, off, e, hc⟩ := h.row hne
  refine ⟨b, off, e, fun i hi => ?_⟩
  have hlt : b < w.heap.size := World.block_lt_of_cell? w _ (hc i hi)
  rw [← hc i hi]
  simp only [World.cell?, k.block b hlt (hs b (by rw [e]; rfl))]

/-- A box. -/
def Bx (w : World) (k : Nat) (v : Value) : Prop := ∃ T, w.heap[k]? = some (.cells #[v] T (0, 0))
theorem Bx.lt {w : World} {k : Nat} {v : Value} (h : Bx w k v) : k < w.heap.size := by obtain ⟨T, h⟩ := h; exact (Array.getElem?_eq_some_iff.1 h).1
theorem Bx.cell {w : World} {k : Nat} {v : Value} (h : Bx w k v) : w.cell? ⟨k, 0, none⟩ = some v := by obtain ⟨T, h⟩ := h; rw [cell_of_row w k 0 _ _ _ h]; rfl
theorem Bx.fz {w : World} {k : Nat} {v : Value} (h : Bx w k v) : w.frozen? ⟨k, 0, none⟩ = false := by obtain ⟨T, h⟩ := h; exact frozen_of_row w k 0 _ _ h
theorem Bx.of {w w' : World} {k : Nat} {v : Value} (h : Bx w k v) (e : w'.heap[k]? = w.heap[k]?) : Bx w' k v := by obtain ⟨T, h⟩ := h; exact ⟨T, e.trans h⟩
theorem Bx.set {w : World} {k : Nat} {v : Value} (h : Bx w k v) (u : Value) : Bx (w.setCell ⟨k, 0, none⟩ u) k u := by
  obtain ⟨T, h⟩ := h
  exact ⟨T, by rw [heap_setCell_same w k 0 _ _ _ h]; rfl⟩
theorem Bx.new (w : World) (v : Value) (T : TypeId) : Bx (w.alloc (.cells #[v] T)) w.heap.size v := ⟨T, heap_alloc_new w _⟩

abbrev pt (r : Nat) : Value := .pointer (some ⟨r, 0, none⟩)
/-- The function that comes then. -/
def thV (g : Nat → Nat) (w : World) (r : Nat) (t : Th) (v : Value) : Prop :=
  match t with
  | .fin => v = .func (.func 122) #[pt r] #[]
  | .chk => v = .func (.func 120) #[pt r] #[]
  | .cb n => ∃ a b, v = .func (.func 148) #[] #[pt a, pt b] ∧ Bx w a (pt r) ∧ g a = 6 ∧ Bx w b (.int .u32 (n : Int)) ∧ g b = 6 ∧ n < 4294967296
  | .tl => ∃ a, v = .func (.func 171) #[] #[pt a] ∧ Bx w a (pt r) ∧ g a = 6
/-- The function that takes the next byte. -/
def stV (g : Nat → Nat) (w : World) (r : Nat) (S : St) (v : Value) : Prop :=
  match S with
  | .head h => ∃ a b x c, v = .func (.func 97) #[] #[pt a, pt b] ∧ Bx w a (.slice x h.length c) ∧ g a = 2 ∧ OwnB w 0 x c h ∧ (∀ k, blk x = some k → g k = 3) ∧ Bx w b (pt r) ∧ g b = 6 ∧ h.length < 8196
  | .bytes n t => ∃ a b c tv, v = .func (.func 150) #[] #[pt a, pt b, pt c] ∧ Bx w a (pt r) ∧ g a = 6 ∧ Bx w b (.int .i64 (n : Int)) ∧ g b = 2 ∧ Bx w c tv ∧ g c = 6 ∧ thV g w r t tv ∧ 0 < n ∧ n ≤ 4294967296
  | .text u i t => ∃ a b c tv, v = .func (.func 170) #[] #[pt a, pt b, pt c] ∧ Bx w a (.string (str u)) ∧ g a = 6 ∧ Bx w b (.int .i64 (i : Int)) ∧ g b = 2 ∧ Bx w c tv ∧ g c = 6 ∧ thV g w r t tv ∧ i < u.length ∧ u.length ≤ 1000
  | .chunk n d => ∃ a b c, v = .func (.func 145) #[] #[pt a, pt b, pt c] ∧ Bx w a (.int .i64 (d : Int)) ∧ g a = 2 ∧ Bx w b (.int .u32 (n : Int)) ∧ g b = 7 ∧ Bx w c (pt r) ∧ g c = 6 ∧ n < 16 ^ d ∧ d ≤ 8
/-- The reader's block, whatever takes the next byte. -/
structure RdB (w : World) (g : Nat → Nat) (r : Nat) (tk : Value) (Q : Rq) (hp : Option Addr) (hc : Nat) (bp : Option Addr) (bc : Nat) : Prop where
  inb : ∀ k, g k ≠ 0 → k < w.heap.size
  tag : g r = 1
  row : w.heap[r]? = some (.cells #[tk, .string (str Q.m), .string (str Q.p), .slice hp Q.h.length hc, .slice bp Q.b.length bc] 82 (0, 0))
  hdr : HdR w hp Q.h
  ht : ∀ k, blk hp = some k → g k = 4
  body : OwnB w 0 bp bc Q.b
  bt : ∀ k, blk bp = some k → g k = 5
  few : Q.b.length ≤ 1000000
def Rd (w : World) (g : Nat → Nat) (r : Nat) (S : St) (Q : Rq) : Prop := ∃ tk hp hc bp bc, RdB w g r tk Q hp hc bp bc ∧ stV g w r S tk

theorem HdR.same {w w' : World} {p : Option Addr} {H : List Hd} (h : HdR w p H) (e : ∀ k, blk p = some k → k < w.heap.size → w'.heap[k]? = w.heap[k]?) : HdR w' p H := by
  refine ⟨fun hne => ?_, h.le⟩
  obtain ⟨b, off, rfl, hc⟩ := h.mem hne
  refine ⟨b, off, rfl, fun t x hx => ?_⟩
  obtain ⟨c0, c1⟩ := hc t x hx
  have hlt : b < w.heap.size := World.block_lt_of_cell? w _ c0
  have hb := e b rfl hlt
  exact ⟨by rw [← c0]; simp only [World.cell?, hb], by rw [← c1]; simp only [World.cell?, hb]⟩
theorem OwnB.same {w w' : World} {base : Nat} {a : Option Addr} {cap : Nat} {l : List UInt8} (h : OwnB w base a cap l) (e : ∀ k, blk a = Option.some k → w'.heap[k]? = w.heap[k]?) : OwnB w' base a cap l := by
  refine ⟨h.1, ?_⟩
  rcases h.2 with hn | ⟨g, cap', cur, hv, hbb, hgg, rest⟩
  · exact .inl hn
  · refine .inr ⟨g, cap', cur, hv, hbb, ?_, rest⟩
    simp only [Value.slice.injEq] at hv
    rw [e g (by rw [hv.1]; rfl)]
    exact hgg

theorem thV.same {g g' : Nat → Nat} {w w' : World} {r : Nat} {t : Th} {v : Value} (h : thV g w r t v) (e : ∀ k, g k = 6 → k < w.heap.size → w'.heap[k]? = w.heap[k]? ∧ g' k = 6) : thV g' w' r t v := by
  cases t with
  | fin => exact h
  | chk => exact h
  | cb n =>
    obtain ⟨a, b, h1, h2, h3, h4, h5, h6⟩ := h
    exact ⟨a, b, h1, h2.of (e a h3 h2.lt).1, (e a h3 h2.lt).2, h4.of (e b h5 h4.lt).1, (e b h5 h4.lt).2, h6⟩
  | tl =>
    obtain ⟨a, h1, h2, h3⟩ := h
    exact ⟨a, h1, h2.of (e a h3 h2.lt).1, (e a h3 h2.lt).2⟩
theorem thV.fn {g : Nat → Nat} {w : World} {r : Nat} {t : Th} {v : Value} (h : thV g w r t v) : ∃ f b c, v = .func f b c := by
  cases t with
  | fin => exact ⟨_, _, _, h⟩
  | chk => exact ⟨_, _, _, h⟩
  | cb n => obtain ⟨a, b, h1, _⟩ := h; exact ⟨_, _, _, h1⟩
  | tl => obtain ⟨a, h1, _⟩ := h; exact ⟨_, _, _, h1⟩
/-- Blocks of the reader stay, and their tags. -/
theorem RdB.same {w w' : World} {g g' : Nat → Nat} {r : Nat} {tk : Value} {Q : Rq} {hp : Option Addr} {hc : Nat} {bp : Option Addr} {bc : Nat} (h : RdB w g r tk Q hp hc bp bc) (hi : ∀ k, g' k ≠ 0 → k < w'.heap.size)
    (e : ∀ k, g k = 1 ∨ g k = 4 ∨ g k = 5 → w'.heap[k]? = w.heap[k]? ∧ g' k = g k) : RdB w' g' r tk Q hp hc bp bc :=
  ⟨hi, (e r (.inl h.tag)).2.trans h.tag, (e r (.inl h.tag)).1.trans h.row, h.hdr.same (fun k hk _ => (e k (.inr (.inl (h.ht k hk)))).1), fun k hk => (e k (.inr (.inl (h.ht k hk)))).2.trans (h.ht k hk),
    h.body.same (fun k hk => (e k (.inr (.inr (h.bt k hk)))).1), fun k hk => (e k (.inr (.inr (h.bt k hk)))).2.trans (h.bt k hk), h.few⟩
theorem RdB.below {w w' : World} {g : Nat → Nat} {r : Nat} {tk : Value} {Q : Rq} {hp : Option Addr} {hc : Nat} {bp : Option Addr} {bc : Nat} (h : RdB w g r tk Q hp hc bp bc) (hb : Below w.heap.size w w') : RdB w' g r tk Q hp hc bp bc :=
  h.same (fun k hk => Nat.lt_of_lt_of_le (h.inb k hk) hb.size) (fun k hk => ⟨hb.block k (h.inb k (by rcases hk with e | e | e <;> omega)), rfl⟩)
theorem thV.below {w w' : World} {g : Nat → Nat} {r : Nat} {t : Th} {v : Value} (h : thV g w r t v) (hb : Below w.heap.size w w') : thV g w' r t v := h.same (fun k hk hl => ⟨hb.block k hl, hk⟩)
/-- Another function takes the next byte. -/
theorem RdB.take {w : World} {g : Nat → Nat} {r : Nat} {tk : Value} {Q : Rq} {hp : Option Addr} {hc : Nat} {bp : Option Addr} {bc : Nat} (h : RdB w g r tk Q hp hc bp bc) (v : Value) : RdB (w.setCell ⟨r, 0, none⟩ v) g r v Q hp hc bp bc := by
  have ne : ∀ k, k ≠ r → (w.setCell ⟨r, 0, none⟩ v).heap[k]? = w.heap[k]? := fun k hk => Below.heap_setCell w ⟨r, 0, none⟩ v k hk
  refine ⟨fun k hk => by simp [World.setCell]; exact h.inb k hk, h.tag, ?_, h.hdr.same (fun k hk _ => ne k ?_), h.ht, h.body.same (fun k hk => ne k ?_), h.bt, h.few⟩
  · rw [heap_setCell_same w r 0 _ _ _ h.row]; rfl
  · intro e; have := h.ht k hk; rw [e, h.tag] at this; cases this
  · intro e; have := h.bt k hk; rw [e, h.tag] at this; cases this
theorem RdB.lt {w : World} {g : Nat → Nat} {r : Nat} {tk : Value} {Q : Rq} {hp : Option Addr} {hc : Nat} {bp : Option Addr} {bc : Nat} (h : RdB w g r tk Q hp hc bp bc) : r < w.heap.size := (Array.getElem?_eq_some_iff.1 h.row).1

theorem goOn_any (w : World) (g : Nat → Nat) (r : Nat) (tk : Value) (vf : Fn) (vb vc : Array Value) (Q : Rq) (hp : Option Addr) (hc : Nat) (bp : Option Addr) (bc : Nat) (h : RdB w g r tk Q hp hc bp bc) :
    Calls Tryz.prog 96 #[pt r, .func vf vb vc] w fun e w' => e = .returned (.int .i64 1) ∧ w' = w.setCell ⟨r, 0, none⟩ (.func vf vb vc) := by
  have c0 : w.cell? ⟨r, 0, none⟩ = some tk := by rw [cell_of_row w r 0 _ _ _ h.row]; rfl
  have f0 := frozen_of_row w r 0 _ _ h.row
  have ks : (store ⟨r, 0, none⟩ (.func vf vb vc)).run Tryz.prog w = .ok () (w.setCell ⟨r, 0, none⟩ (.func vf vb vc)) := by rw [run_store Tryz.prog w _ _ _ rfl, c0, f0]; rfl
  clear h
  go_enter Tryz.func96, Tryz.ntmps96
  go_wp2
  go_ret
  exact ⟨rfl, rfl⟩
#print axioms goOn_any

/-- What a call leaves that may set what takes the next byte. -/
def Rsx (w : World) (g : Nat → Nat) (r : Nat) (x : Nat × St) (Q : Rq) (hp : Option Addr) (hc : Nat) (bp : Option Addr) (bc : Nat) (w' : World) : Prop :=
  ∃ g' tk', RdB w' g' r tk' Q hp hc bp bc ∧ (x.1 = 1 → stV g' w' r x.2 tk') ∧ Kp w w' (fun k => g k ≠ 0) ∧ ∀ k, k < w.heap.size → g k = 0 → g' k = 0
def Res (w : World) (g : Nat → Nat) (r : Nat) (x : Nat × St) (Q : Rq) (hp : Option Addr) (hc : Nat) (bp : Option Addr) (bc : Nat) (e : Ending) (w' : World) : Prop :=
  e = .returned (.int .i64 (x.1 : Int)) ∧ Hid (Rsx w g r x Q hp hc bp bc w')

/-- New boxes: their tags. -/
def tagN (g : Nat → Nat) (n : Nat) (ts : List Nat) : Nat → Nat := fun k => if k < n then g k else ts.getD (k - n) 0
theorem tagN_old (g : Nat → Nat) (n : Nat) (ts : List Nat) (k : Nat) (h : k < n) : tagN g n ts k = g k := by unfold tagN; rw [if_pos h]
theorem tagN_new (g : Nat → Nat) (n : Nat) (ts : List Nat) (i : Nat) : tagN g n ts (n + i) = ts.getD i 0 := by unfold tagN; rw [if_neg (by omega), Nat.add_sub_cancel_left]
theorem tagN_inb (g : Nat → Nat) (n m : Nat) (ts : List Nat) (hm : n + ts.length ≤ m) (k : Nat) (h : tagN g n ts k ≠ 0) : k < m := by
  unfold tagN at h
  split at h
  · omega
  · by_cases hk : k - n < ts.length
    · omega
    · rw [List.getD_eq_getElem?_getD, List.getElem?_eq_none (by omega)] at h
      exact absurd rfl h

theorem text_end (w V : World) (g : Nat → Nat) (r : Nat) (tk tv : Value) (t : Th) (u : List UInt8) (Q : Rq) (hp : Option Addr) (hc : Nat) (bp : Option Addr) (bc : Nat) (h : RdB w g r tk Q hp hc bp bc) (ht : thV g w r t tv) (hu : 0 < u.length) (hl : u.length ≤ 1000)
    (hb : Below w.heap.size w V) (hs : w.heap.size + 3 ≤ V.heap.size) (b0 : Bx V w.heap.size (.string (str u))) (b1 : Bx V (w.heap.size + 1 + 1) (.int .i64 0)) (b2 : Bx V (w.heap.size + 1) tv) :
    ∃ g' tk', RdB (V.setCell ⟨r, 0, none⟩ (.func (.func 170) #[] #[pt w.heap.size, pt (w.heap.size + 1 + 1), pt (w.heap.size + 1)])) g' r tk' Q hp hc bp bc ∧
      stV g' (V.setCell ⟨r, 0, none⟩ (.func (.func 170) #[] #[pt w.heap.size, pt (w.heap.size + 1 + 1), pt (w.heap.size + 1)])) r (.text u 0 t) tk' ∧
      Kp w (V.setCell ⟨r, 0, none⟩ (.func (.func 170) #[] #[pt w.heap.size, pt (w.heap.size + 1 + 1), pt (w.heap.size + 1)])) (fun k => g k ≠ 0) ∧ ∀ k, k < w.heap.size → g k = 0 → g' k = 0 := by
  have hr := h.lt
  have h0 : RdB V (tagN g w.heap.size [6, 6, 2]) r tk Q hp hc bp bc := (h.below hb).same (tagN_inb g _ _ _ hs) (fun k hk => ⟨rfl, tagN_old _ _ _ _ (h.inb k (by rcases hk with e | e | e <;> omega))⟩)
  have hth : thV (tagN g w.heap.size [6, 6, 2]) V r t tv := ht.same (fun k hk hl => ⟨hb.block k hl, by rw [tagN_old _ _ _ _ hl]; exact hk⟩)
  obtain ⟨v, hv⟩ : ∃ v, v = (Value.func (.func 170) #[] #[pt w.heap.size, pt (w.heap.size + 1 + 1), pt (w.heap.size + 1)]) := ⟨_, rfl⟩
  rw [← hv]
  have ne : ∀ k, k ≠ r → (V.setCell ⟨r, 0, none⟩ v).heap[k]? = V.heap[k]? := fun k hk => Below.heap_setCell V ⟨r, 0, none⟩ v k hk
  have n0 := tagN_new g w.heap.size [6, 6, 2] 0
  have n1 := tagN_new g w.heap.size [6, 6, 2] 1
  have n2 := tagN_new g w.heap.size [6, 6, 2] 2
  refine ⟨_, v, h0.take v, ⟨w.heap.size, w.heap.size + 2, w.heap.size + 1, tv, hv, b0.of (ne _ (by omega)), n0, b1.of (ne _ (by omega)), n2, b2.of (ne _ (by omega)), n1, ?_, hu, hl⟩, ?_, fun k hk h0 => by rw [tagN_old _ _ _ _ hk]; exact h0⟩
  · exact hth.same (fun k hk _ => ⟨ne k (by intro e; rw [e, h0.tag] at hk; omega), hk⟩)
  · exact (Kp.of hb : Kp w V _).trans (Kp.ofG (gsc V ⟨r, 0, none⟩ v) (fun k hk => by cases hk; rw [h.tag]; decide))
set_option maxHeartbeats 1000000 in
theorem text_any (w : World) (g : Nat → Nat) (r : Nat) (tk tv : Value) (t : Th) (u : List UInt8) (Q : Rq) (hp : Option Addr) (hc : Nat) (bp : Option Addr) (bc : Nat) (h : RdB w g r tk Q hp hc bp bc) (ht : thV g w r t tv) (hu : 0 < u.length) (hl : u.length ≤ 1000) :
    Calls Tryz.prog 147 #[pt r, .string (str u), tv] w fun e w' => Res w g r (1, .text u 0 t) Q hp hc bp bc e w' := by
  obtain ⟨tf, tb, tc, rfl⟩ := ht.fn
  obtain ⟨tv, htv⟩ : ∃ tv, tv = Value.func tf tb tc := ⟨_, rfl⟩
  have HH := hide h
  have HT := hide ht
  rw [← htv] at HT
  clear h ht
  obtain ⟨V, hV⟩ : ∃ V, V = (((w.alloc (.cells #[.string (str u)] 9)).alloc (.cells #[tv] 45)).alloc (.cells #[.int .i64 0] 3)) := ⟨_, rfl⟩
  have hb : Below w.heap.size w V := by rw [hV]; exact (((Below.refl _ _).alloc (Nat.le_refl _) _).alloc (by simp) _).alloc (by simp; omega) _
  have hs : V.heap.size = w.heap.size + 3 := by rw [hV]; simp
  have b0 : Bx V w.heap.size (.string (str u)) := (Bx.new w _ _).of (by rw [hV, Below.heap_alloc _ _ _ (by simp; omega), Below.heap_alloc _ _ _ (by simp)])
  have b2 : Bx V (w.heap.size + 1) tv := by
    have := Bx.new (w.alloc (.cells #[.string (str u)] 9)) tv 45
    rw [show (w.alloc (.cells #[.string (str u)] 9)).heap.size = w.heap.size + 1 by simp] at this
    exact this.of (by rw [hV, Below.heap_alloc _ _ _ (by simp)])
  have b1 : Bx V (w.heap.size + 1 + 1) (.int .i64 0) := by
    have := Bx.new ((w.alloc (.cells #[.string (str u)] 9)).alloc (.cells #[tv] 45)) (.int .i64 0) 3
    rw [show ((w.alloc (.cells #[.string (str u)] 9)).alloc (.cells #[tv] 45)).heap.size = w.heap.size + 2 by simp] at this
    rw [hV]; exact this
  have HG := hide (goOn_any V g r tk (.func 170) #[] #[pt w.heap.size, pt (w.heap.size + 1 + 1), pt (w.heap.size + 1)] Q hp hc bp bc ((unhide HH).below hb))
  have HE := hide (text_end w V g r tk tv t u Q hp hc bp bc (unhide HH) (unhide HT) hu hl hb (by omega) b0 b1 b2)
  clear b0 b1 b2 hb
  subst htv
  go_enter Tryz.func147, Tryz.ntmps147
  go_upto_region 2 with fail
  rw [← hV]
  clear hV
  go_wp2_with (go_at_call 96; refine (unhide HG).mono ?_; rintro e w2 ⟨rfl, rfl⟩)
  go_ret
  obtain ⟨g', tk', k1, k2, k3, k4⟩ := unhide HE
  exact ⟨rfl, g', tk', k1, fun _ => k2, k3, k4⟩
#print axioms text_any

theorem chunk_end (w V : World) (g : Nat → Nat) (r : Nat) (tk : Value) (Q : Rq) (hp : Option Addr) (hc : Nat) (bp : Option Addr) (bc : Nat) (h : RdB w g r tk Q hp hc bp bc)
    (hb : Below w.heap.size w V) (hs : w.heap.size + 3 ≤ V.heap.size) (b0 : Bx V w.heap.size (pt r)) (b1 : Bx V (w.heap.size + 1) (.int .u32 0)) (b2 : Bx V (w.heap.size + 1 + 1) (.int .i64 0)) :
    ∃ g' tk', RdB (V.setCell ⟨r, 0, none⟩ (.func (.func 145) #[] #[pt (w.heap.size + 1 + 1), pt (w.heap.size + 1), pt w.heap.size])) g' r tk' Q hp hc bp bc ∧
      stV g' (V.setCell ⟨r, 0, none⟩ (.func (.func 145) #[] #[pt (w.heap.size + 1 + 1), pt (w.heap.size + 1), pt w.heap.size])) r (.chunk 0 0) tk' ∧
      Kp w (V.setCell ⟨r, 0, none⟩ (.func (.func 145) #[] #[pt (w.heap.size + 1 + 1), pt (w.heap.size + 1), pt w.heap.size])) (fun k => g k ≠ 0) ∧ ∀ k, k < w.heap.size → g k = 0 → g' k = 0 := by
  have hr := h.lt
  have h0 : RdB V (tagN g w.heap.size [6, 7, 2]) r tk Q hp hc bp bc := (h.below hb).same (tagN_inb g _ _ _ hs) (fun k hk => ⟨rfl, tagN_old _ _ _ _ (h.inb k (by rcases hk with e | e | e <;> omega))⟩)
  obtain ⟨v, hv⟩ : ∃ v, v = (Value.func (.func 145) #[] #[pt (w.heap.size + 1 + 1), pt (w.heap.size + 1), pt w.heap.size]) := ⟨_, rfl⟩
  rw [← hv]
  have ne : ∀ k, k ≠ r → (V.setCell ⟨r, 0, none⟩ v).heap[k]? = V.heap[k]? := fun k hk => Below.heap_setCell V ⟨r, 0, none⟩ v k hk
  have n0 := tagN_new g w.heap.size [6, 7, 2] 0
  have n1 := tagN_new g w.heap.size [6, 7, 2] 1
  have n2 := tagN_new g w.heap.size [6, 7, 2] 2
  refine ⟨_, v, h0.take v, ⟨w.heap.size + 1 + 1, w.heap.size + 1, w.heap.size, hv, b2.of (ne _ (by omega)), n2, b1.of (ne _ (by omega)), n1, b0.of (ne _ (by omega)), n0, by decide, by decide⟩, ?_, fun k hk h0 => by rw [tagN_old _ _ _ _ hk]; exact h0⟩
  exact (Kp.of hb : Kp w V _).trans (Kp.ofG (gsc V ⟨r, 0, none⟩ v) (fun k hk => by cases hk; rw [h.tag]; decide))
theorem three (w : World) (a b c : Value) (A B C : TypeId) : ∃ V, V = (((w.alloc (.cells #[a] A)).alloc (.cells #[b] B)).alloc (.cells #[c] C)) ∧ Below w.heap.size w V ∧ V.heap.size = w.heap.size + 3 ∧ Bx V w.heap.size a ∧ Bx V (w.heap.size + 1) b ∧ Bx V (w.heap.size + 1 + 1) c := by
  refine ⟨_, rfl, (((Below.refl _ _).alloc (Nat.le_refl _) _).alloc (by simp) _).alloc (by simp; omega) _, by simp, ?_, ?_, ?_⟩
  · exact (Bx.new w a A).of (by rw [Below.heap_alloc _ _ _ (by simp; omega), Below.heap_alloc _ _ _ (by simp)])
  · have := Bx.new (w.alloc (.cells #[a] A)) b B
    rw [show (w.alloc (.cells #[a] A)).heap.size = w.heap.size + 1 by simp] at this
    exact this.of (by rw [Below.heap_alloc _ _ _ (by simp)])
  · have := Bx.new ((w.alloc (.cells #[a] A)).alloc (.cells #[b] B)) c C
    rw [show ((w.alloc (.cells #[a] A)).alloc (.cells #[b] B)).heap.size = w.heap.size + 1 + 1 by simp] at this
    exact this
set_option maxHeartbeats 1000000 in
theorem chunk_any (w : World) (g : Nat → Nat) (r : Nat) (tk : Value) (Q : Rq) (hp : Option Addr) (hc : Nat) (bp : Option Addr) (bc : Nat) (h : RdB w g r tk Q hp hc bp bc) :
    Calls Tryz.prog 120 #[pt r] w fun e w' => Res w g r (1, .chunk 0 0) Q hp hc bp bc e w' := by
  obtain ⟨V, hV, hb, hs, b0, b1, b2⟩ := three w (pt r) (.int .u32 0) (.int .i64 0) 74 147 3
  have HG := hide (goOn_any V g r tk (.func 145) #[] #[pt (w.heap.size + 1 + 1), pt (w.heap.size + 1), pt w.heap.size] Q hp hc bp bc (h.below hb))
  have HE := hide (chunk_end w V g r tk Q hp hc bp bc h hb (by omega) b0 b1 b2)
  have c0 := b0.cell
  clear b0 b1 b2 hb h
  go_enter Tryz.func120, Tryz.ntmps120
  go_upto_region 2 with fail
  rw [← hV]
  clear hV
  go_wp2_with (go_at_call 96; refine (unhide HG).mono ?_; rintro e w2 ⟨rfl, rfl⟩)
  go_ret
  obtain ⟨g', tk', k1, k2, k3, k4⟩ := unhide HE
  exact ⟨rfl, g', tk', k1, fun _ => k2, k3, k4⟩
#print axioms chunk_any
theorem bytes_end (w V : World) (g : Nat → Nat) (r : Nat) (tk tv : Value) (t : Th) (n : Nat) (Q : Rq) (hp : Option Addr) (hc : Nat) (bp : Option Addr) (bc : Nat) (h : RdB w g r tk Q hp hc bp bc) (ht : thV g w r t tv) (hn : 0 < n) (hl : n ≤ 4294967296)
    (hb : Below w.heap.size w V) (hs : w.heap.size + 3 ≤ V.heap.size) (b0 : Bx V w.heap.size (pt r)) (b1 : Bx V (w.heap.size + 1) (.int .i64 (n : Int))) (b2 : Bx V (w.heap.size + 1 + 1) tv) :
    ∃ g' tk', RdB (V.setCell ⟨r, 0, none⟩ (.func (.func 150) #[] #[pt w.heap.size, pt (w.heap.size + 1), pt (w.heap.size + 1 + 1)])) g' r tk' Q hp hc bp bc ∧
      stV g' (V.setCell ⟨r, 0, none⟩ (.func (.func 150) #[] #[pt w.heap.size, pt (w.heap.size + 1), pt (w.heap.size + 1 + 1)])) r (.bytes n t) tk' ∧
      Kp w (V.setCell ⟨r, 0, none⟩ (.func (.func 150) #[] #[pt w.heap.size, pt (w.heap.size + 1), pt (w.heap.size + 1 + 1)])) (fun k => g k ≠ 0) ∧ ∀ k, k < w.heap.size → g k = 0 → g' k = 0 := by
  have hr := h.lt
  have h0 : RdB V (tagN g w.heap.size [6, 2, 6]) r tk Q hp hc bp bc := (h.below hb).same (tagN_inb g _ _ _ hs) (fun k hk => ⟨rfl, tagN_old _ _ _ _ (h.inb k (by rcases hk with e | e | e <;> omega))⟩)
  have hth : thV (tagN g w.heap.size [6, 2, 6]) V r t tv := ht.same (fun k hk hl => ⟨hb.block k hl, by rw [tagN_old _ _ _ _ hl]; exact hk⟩)
  obtain ⟨v, hv⟩ : ∃ v, v = (Value.func (.func 150) #[] #[pt w.heap.size, pt (w.heap.size + 1), pt (w.heap.size + 1 + 1)]) := ⟨_, rfl⟩
  rw [← hv]
  have ne : ∀ k, k ≠ r → (V.setCell ⟨r, 0, none⟩ v).heap[k]? = V.heap[k]? := fun k hk => Below.heap_setCell V ⟨r, 0, none⟩ v k hk
  have n0 := tagN_new g w.heap.size [6, 2, 6] 0
  have n1 := tagN_new g w.heap.size [6, 2, 6] 1
  have n2 := tagN_new g w.heap.size [6, 2, 6] 2
  refine ⟨_, v, h0.take v, ⟨w.heap.size, w.heap.size + 1, w.heap.size + 1 + 1, tv, hv, b0.of (ne _ (by omega)), n0, b1.of (ne _ (by omega)), n1, b2.of (ne _ (by omega)), n2, ?_, hn, hl⟩, ?_, fun k hk h0 => by rw [tagN_old _ _ _ _ hk]; exact h0⟩
  · exact hth.same (fun k hk _ => ⟨ne k (by intro e; rw [e, h0.tag] at hk; omega), hk⟩)
  · exact (Kp.of hb : Kp w V _).trans (Kp.ofG (gsc V ⟨r, 0, none⟩ v) (fun k hk => by cases hk; rw [h.tag]; decide))
set_option maxHeartbeats 1000000 in
theorem bytes_any (w : World) (g : Nat → Nat) (r : Nat) (tk tv : Value) (t : Th) (n : Nat) (Q : Rq) (hp : Option Addr) (hc : Nat) (bp : Option Addr) (bc : Nat) (h : RdB w g r tk Q hp hc bp bc) (ht : thV g w r t tv) (hn : 0 < n) (hl : n ≤ 4294967296) :
    Calls Tryz.prog 121 #[pt r, .int .i64 (n : Int), tv] w fun e w' => Res w g r (1, .bytes n t) Q hp hc bp bc e w' := by
  obtain ⟨tf, tb, tc, rfl⟩ := ht.fn
  obtain ⟨V, hV, hb, hs, b0, b1, b2⟩ := three w (pt r) (.int .i64 (n : Int)) (.func tf tb tc) 74 3 45
  have HG := hide (goOn_any V g r tk (.func 150) #[] #[pt w.heap.size, pt (w.heap.size + 1), pt (w.heap.size + 1 + 1)] Q hp hc bp bc (h.below hb))
  have HE := hide (bytes_end w V g r tk _ t n Q hp hc bp bc h ht hn hl hb (by omega) b0 b1 b2)
  have c0 := b0.cell
  have c1 := b1.cell
  have hn0 : ((n : Int) == 0) = false := by rw [beq_eq_false_iff_ne]; omega
  clear b0 b1 b2 hb h ht
  go_enter Tryz.func121, Tryz.ntmps121
  go_upto_region 1 with fail
  rw [← hV]
  clear hV
  go_wp2_with (go_at_call 96; refine (unhide HG).mono ?_; rintro e w2 ⟨rfl, rfl⟩)
  go_ret
  obtain ⟨g', tk', k1, k2, k3, k4⟩ := unhide HE
  exact ⟨rfl, g', tk', k1, fun _ => k2, k3, k4⟩
#print axioms bytes_any
theorem end_any (w : World) (r : Nat) : Calls Tryz.prog 122 #[pt r] w fun e w' => e = .returned (.int .i64 0) ∧ w' = w := by
  go_enter Tryz.func122, Tryz.ntmps122
  go_wp2
  go_ret
  exact ⟨rfl, rfl⟩
/-- Nothing is set. -/
theorem Res.none {w w' : World} {g : Nat → Nat} {r : Nat} {tk : Value} {Q : Rq} {hp : Option Addr} {hc : Nat} {bp : Option Addr} {bc : Nat} (h : RdB w g r tk Q hp hc bp bc) (hb : Below w.heap.size w w') (n : Nat) (S : St) (hn : n ≠ 1) :
    Res w g r (n, S) Q hp hc bp bc (.returned (.int .i64 (n : Int))) w' :=
  ⟨rfl, g, tk, h.below hb, fun e => absurd e hn, Kp.of hb, fun _ _ h => h⟩
/-- A call behind new boxes. -/
theorem Res.behind {w V w' : World} {g : Nat → Nat} {r : Nat} {x : Nat × St} {Q : Rq} {hp : Option Addr} {hc : Nat} {bp : Option Addr} {bc : Nat} {e : Ending} (hb : Below w.heap.size w V) {g1 : Nat → Nat} (h1 : ∀ k, k < w.heap.size → g1 k = g k) (h : Res V g1 r x Q hp hc bp bc e w') :
    Res w g r x Q hp hc bp bc e w' := by
  obtain ⟨he, g', tk', k1, k2, k3, k4⟩ := h
  exact ⟨he, g', tk', k1, k2, (Kp.of hb : Kp w V (fun k => g k ≠ 0)).trans' k3 (fun i hi hs => by rw [h1 i hi] at hs; exact hs), fun k hk h0 => k4 k (Nat.lt_of_lt_of_le hk hb.size) (by rw [h1 k hk]; exact h0)⟩
end Go.Proofs.YtonaekkenggmbaaGreatDoor
end
section
set_option linter.unusedVariables false
set_option maxRecDepth 1000000
namespace Go.Proofs.YtonaekkenggmbaaGreatDoor
open Go.RowKit

theorem one (w : World) (a : Value) (A : TypeId) : ∃ V, V = (w.alloc (.cells #[a] A)) ∧ Below w.heap.size w V ∧ V.heap.size = w.heap.size + 1 ∧ Bx V w.heap.size a :=
  ⟨_, rfl, (Below.refl _ _).alloc (Nat.le_refl _) _, by simp, Bx.new w a A⟩
theorem RdB.bodyCell {w : World} {g : Nat → Nat} {r : Nat} {tk : Value} {Q : Rq} {hp : Option Addr} {hc : Nat} {bp : Option Addr} {bc : Nat} (h : RdB w g r tk Q hp hc bp bc) : w.cell? ⟨r, 4, none⟩ = some (.slice bp Q.b.length bc) := by rw [cell_of_row w r 4 _ _ _ h.row]; rfl
set_option maxHeartbeats 2000000 in
theorem chunkBytes_any (w : World) (g : Nat → Nat) (r : Nat) (tk : Value) (n : Nat) (Q : Rq) (hp : Option Addr) (hc : Nat) (bp : Option Addr) (bc : Nat) (h : RdB w g r tk Q hp hc bp bc) (hn : n < 4294967296) (hq : Q.b.length ≤ 32768) :
    Calls Tryz.prog 149 #[pt r, .int .u32 (n : Int)] w fun e w' => Res w g r (cbM n Q) Q hp hc bp bc e w' := by
  obtain ⟨V, hV, hb, hs, b0⟩ := one w (pt r) 74
  have c0 := b0.cell
  have c4 := (h.below hb).bodyCell
  have HH := hide h
  have HB := hide hb
  have HX := hide b0
  have HG0 : Hid (RdB V g r tk Q hp hc bp bc) := h.below hb
  obtain ⟨L, hL⟩ : ∃ L, Q.b.length = L := ⟨_, rfl⟩
  have hsub : (32768 : Int) - (L : Int) = ((32768 - L : Nat) : Int) := by omega
  have HC : Hid (cbM n Q = if n > 32768 - L then (413, St.chunk 0 0) else if n = 0 then (1, .text crlf 0 .fin) else (1, .bytes n .tl)) := by show _ = _; unfold cbM; rw [hL]
  obtain ⟨M, hM⟩ : ∃ M, 32768 - L = M := ⟨_, rfl⟩
  rw [hL] at c4 hq
  rw [hM] at hsub HC
  have hMl : M ≤ 32768 := by omega
  have hwr : IntKind.u32.wrap (M : Int) = (M : Int) := by rw [show IntKind.u32.wrap (M : Int) = (M : Int) % 4294967296 from rfl]; omega
  clear h hb b0 hM
  by_cases h1 : n > M
  · have h1' : (M : Int) < (n : Int) := by omega
    have HR : Hid (cbM n Q = (413, St.chunk 0 0)) := by show _ = _; rw [unhide HC, if_pos h1]
    clear h1 hL
    go_enter Tryz.func149, Tryz.ntmps149
    go_upto_region 1 with fail
    rw [← hV]
    clear hV
    go_wp2
    go_ret
    rw [unhide HR]
    exact Res.none (unhide HH) (unhide HB) 413 _ (by decide)
  · have h1' : ¬ (M : Int) < (n : Int) := by omega
    by_cases h0 : n = 0
    · have HR : Hid (cbM n Q = (1, .text crlf 0 .fin)) := by show _ = _; rw [unhide HC, if_neg h1, if_pos h0]
      have HT := hide (text_any V g r tk (.func (.func 122) #[pt r] #[]) .fin crlf Q hp hc bp bc (unhide HG0) rfl (by decide) (by decide))
      subst h0
      clear h1 hL
      go_enter Tryz.func149, Tryz.ntmps149
      go_upto_region 1 with fail
      rw [← hV]
      clear hV
      go_wp2_with (go_at_call 147; refine (unhide HT).mono ?_; rintro e w2 ⟨rfl, hr2⟩)
      go_ret
      rw [unhide HR]
      exact Res.behind (unhide HB) (fun _ _ => rfl) ⟨rfl, hr2⟩
    · have h0' : ((n : Int) == 0) = false := by rw [beq_eq_false_iff_ne]; omega
      have HR : Hid (cbM n Q = (1, .bytes n .tl)) := by show _ = _; rw [unhide HC, if_neg h1, if_neg h0]
      have n0 := tagN_new g w.heap.size [6] 0
      have hG1 : RdB V (tagN g w.heap.size [6]) r tk Q hp hc bp bc := (unhide HG0).same (tagN_inb g _ _ _ (by simp; omega)) (fun k hk => ⟨rfl, tagN_old _ _ _ _ ((unhide HH).inb k (by rcases hk with e | e | e <;> omega))⟩)
      have HT := hide (bytes_any V (tagN g w.heap.size [6]) r tk (.func (.func 171) #[] #[pt w.heap.size]) .tl n Q hp hc bp bc hG1 ⟨w.heap.size, rfl, unhide HX, n0⟩ (by omega) (by omega))
      clear h1 h0 hG1 n0 hL
      go_enter Tryz.func149, Tryz.ntmps149
      go_upto_region 1 with fail
      rw [← hV]
      clear hV
      go_wp2_with (go_at_call 121; refine (unhide HT).mono ?_; rintro e w2 ⟨rfl, hr2⟩)
      go_ret
      rw [unhide HR]
      exact Res.behind (unhide HB) (fun k hk => tagN_old _ _ _ _ hk) ⟨rfl, hr2⟩
#print axioms chunkBytes_any
set_option maxHeartbeats 1000000 in
theorem then_cb (w : World) (g : Nat → Nat) (r a b : Nat) (tk : Value) (n : Nat) (Q : Rq) (hp : Option Addr) (hc : Nat) (bp : Option Addr) (bc : Nat) (h : RdB w g r tk Q hp hc bp bc) (h1 : Bx w a (pt r)) (h2 : Bx w b (.int .u32 (n : Int))) (hn : n < 4294967296) (hq : Q.b.length ≤ 32768) :
    Calls Tryz.prog 148 #[pt a, pt b] w fun e w' => Res w g r (cbM n Q) Q hp hc bp bc e w' := by
  have c1 := h1.cell
  have c2 := h2.cell
  have HC := hide (chunkBytes_any w g r tk n Q hp hc bp bc h hn hq)
  clear h h1 h2
  go_enter Tryz.func148, Tryz.ntmps148
  go_wp2_with (go_at_call 149; refine (unhide HC).mono ?_; rintro e w2 ⟨rfl, hr2⟩)
  go_ret
  exact ⟨rfl, hr2⟩
set_option maxHeartbeats 1000000 in
theorem then_tl (w : World) (g : Nat → Nat) (r a : Nat) (tk : Value) (Q : Rq) (hp : Option Addr) (hc : Nat) (bp : Option Addr) (bc : Nat) (h : RdB w g r tk Q hp hc bp bc) (h1 : Bx w a (pt r)) :
    Calls Tryz.prog 171 #[pt a] w fun e w' => Res w g r (1, .text crlf 0 .chk) Q hp hc bp bc e w' := by
  have c1 := h1.cell
  have HC := hide (text_any w g r tk (.func (.func 120) #[pt r] #[]) .chk crlf Q hp hc bp bc h rfl (by decide) (by decide))
  clear h h1
  go_enter Tryz.func171, Tryz.ntmps171
  go_wp2_with (go_at_call 147; refine (unhide HC).mono ?_; rintro e w2 ⟨rfl, hr2⟩)
  go_ret
  exact ⟨rfl, hr2⟩
#print axioms then_tl

/-- A byte that is taken: what comes of it. -/
def Rtx (w : World) (g : Nat → Nat) (r : Nat) (x : Nat × St × Rq) (w' : World) : Prop :=
  ∃ g' tk' hp hc bp bc, RdB w' g' r tk' x.2.2 hp hc bp bc ∧ (x.1 = 1 → stV g' w' r x.2.1 tk') ∧ Kp w w' (fun k => g k ≠ 0) ∧ ∀ k, k < w.heap.size → g k = 0 → g' k = 0
def Ret (w : World) (g : Nat → Nat) (r : Nat) (x : Nat × St × Rq) (e : Ending) (w' : World) : Prop :=
  e = .returned (.int .i64 (x.1 : Int)) ∧ Hid (Rtx w g r x w')
theorem Res.ret {w : World} {g : Nat → Nat} {r : Nat} {x : Nat × St} {Q : Rq} {hp : Option Addr} {hc : Nat} {bp : Option Addr} {bc : Nat} {e : Ending} {w' : World} (h : Res w g r x Q hp hc bp bc e w') : Ret w g r (x.1, x.2, Q) e w' := by
  obtain ⟨he, g', tk', k1, k2, k3, k4⟩ := h
  exact ⟨he, g', tk', hp, hc, bp, bc, k1, k2, k3, k4⟩
/-- Behind a change of blocks of the reader's own. -/
theorem Ret.behind {w V w' : World} {g g1 : Nat → Nat} {r : Nat} {x : Nat × St × Rq} {e : Ending} (hk : Kp w V (fun k => g k ≠ 0)) (h1 : ∀ k, k < w.heap.size → g k = 0 → g1 k = 0) (h : Ret V g1 r x e w') : Ret w g r x e w' := by
  obtain ⟨he, g', tk', hp, hc, bp, bc, k1, k2, k3, k4⟩ := h
  exact ⟨he, g', tk', hp, hc, bp, bc, k1, k2, hk.trans' k3 (fun i hi hs hz => hs (h1 i hi hz)), fun k hl h0 => k4 k (Nat.lt_of_lt_of_le hl hk.size) (h1 k hl h0)⟩
end Go.Proofs.YtonaekkenggmbaaGreatDoor
end
section
set_option linter.unusedVariables false
set_option maxRecDepth 1000000
namespace Go.Proofs.YtonaekkenggmbaaGreatDoor
open Go.RowKit

theorem run_ixs (w : World) (l : List UInt8) (k : Nat) (h : k < l.length) : (Instr.index 9 (.string (str l)) (.int .i64 (k : Int))).run Tryz.prog w = .ok (.int .u8 ((l.getD k 0).toNat : Int)) w := by
  rw [run_index_string w 9 (str l) .i64 (k : Int) Tryz.underlying9]
  have hs : (str l).size = l.length := str_size l
  rw [dif_pos (by rw [hs]; omega)]
  have e2 : ((str l)[(k : Int).toNat]'(by rw [hs]; omega)) = l.getD k 0 := by
    have : (l.toArray[k]'(by simpa using h)) = l.getD k 0 := by simp [h]
    exact this
  rw [e2]
theorem RdB.setBox {w : World} {g : Nat → Nat} {r : Nat} {tk : Value} {Q : Rq} {hp : Option Addr} {hc : Nat} {bp : Option Addr} {bc : Nat} (h : RdB w g r tk Q hp hc bp bc) (b : Nat) (v : Value) (hb : g b = 2 ∨ g b = 7) : RdB (w.setCell ⟨b, 0, none⟩ v) g r tk Q hp hc bp bc :=
  h.same (fun k hk => by simp [World.setCell]; exact h.inb k hk) (fun k hk => ⟨Below.heap_setCell w ⟨b, 0, none⟩ v k (by rintro rfl; omega), rfl⟩)
theorem thV.setBox {w : World} {g : Nat → Nat} {r : Nat} {t : Th} {tv : Value} (h : thV g w r t tv) (b : Nat) (v : Value) (hb : g b = 2 ∨ g b = 7) : thV g (w.setCell ⟨b, 0, none⟩ v) r t tv :=
  h.same (fun k hk _ => ⟨Below.heap_setCell w ⟨b, 0, none⟩ v k (by rintro rfl; omega), hk⟩)
theorem Bx.setOther {w : World} {k b : Nat} {v u : Value} (h : Bx w k v) (hn : k ≠ b) : Bx (w.setCell ⟨b, 0, none⟩ u) k v := h.of (Below.heap_setCell w ⟨b, 0, none⟩ u k hn)
theorem kp_box (w : World) (g : Nat → Nat) (b : Nat) (v : Value) (hb : g b ≠ 0) : Kp w (w.setCell ⟨b, 0, none⟩ v) (fun k => g k ≠ 0) := Kp.ofG (gsc w ⟨b, 0, none⟩ v) (fun k hk => by cases hk; exact hb)
theorem u8_ne (c x : UInt8) : ((c.toNat : Int) != (x.toNat : Int)) = decide (c ≠ x) := by
  by_cases h : c = x
  · subst h; simp
  · rw [decide_eq_true h]
    have : c.toNat ≠ x.toNat := fun e => h (UInt8.toNat_inj.1 e)
    simp; omega

set_option maxHeartbeats 4000000 in
theorem take_text (R : HdM) (w : World) (g : Nat → Nat) (r : Nat) (tk : Value) (u : List UInt8) (i : Nat) (t : Th) (Q : Rq) (hp : Option Addr) (hc : Nat) (bp : Option Addr) (bc : Nat) (c : UInt8) (a b d : Nat) (tv : Value)
    (h : RdB w g r tk Q hp hc bp bc) (h1 : Bx w a (.string (str u))) (g1 : g a = 6) (h2 : Bx w b (.int .i64 (i : Int))) (g2 : g b = 2) (h3 : Bx w d tv) (g3 : g d = 6) (ht : thV g w r t tv) (hi : i < u.length) (hu : u.length ≤ 1000) (hq : Q.b.length ≤ 32768)
    (htk : tk = .func (.func 170) #[] #[pt a, pt b, pt d]) :
    Calls Tryz.prog 170 #[.int .u8 (c.toNat : Int), pt a, pt b, pt d] w fun e w' => Ret w g r (stepM R (.text u i t) Q c) e w' := by
  have c1 := h1.cell
  have c2 := h2.cell
  have f2 := h2.fz
  have hsz : (str u).size = u.length := str_size u
  have hix : ∀ w, (Instr.index 9 (.string (str u)) (.int .i64 (i : Int))).run Tryz.prog w = .ok (.int .u8 ((u.getD i 0).toNat : Int)) w := fun w => run_ixs w u i hi
  obtain ⟨x, hx⟩ : ∃ x, u.getD i 0 = x := ⟨_, rfl⟩
  rw [hx] at hix
  have hne := u8_ne c x
  have HH := hide h
  by_cases hcx : c = x
  · rw [decide_eq_false (by simpa using hcx)] at hne
    obtain ⟨V, hV⟩ : ∃ V, V = w.setCell ⟨b, 0, none⟩ (.int .i64 ((i : Int) + 1)) := ⟨_, rfl⟩
    have hK : Kp w V (fun k => g k ≠ 0) := by rw [hV]; exact kp_box w g b _ (by omega)
    have hR : RdB V g r tk Q hp hc bp bc := by rw [hV]; exact h.setBox b _ (.inl g2)
    have hT : thV g V r t tv := by rw [hV]; exact ht.setBox b _ (.inl g2)
    have v1 : Bx V a (.string (str u)) := by rw [hV]; exact h1.setOther (by rintro rfl; omega)
    have v2 : Bx V b (.int .i64 (((i + 1 : Nat)) : Int)) := by rw [hV]; exact h2.set _
    have v3 : Bx V d tv := by rw [hV]; exact h3.setOther (by rintro rfl; omega)
    have k1 := v1.cell
    have k2 : V.cell? ⟨b, 0, none⟩ = some (.int .i64 ((i : Int) + 1)) := v2.cell
    have k3 := v3.cell
    have HK := hide hK
    have HR := hide hR
    have HT := hide hT
    have hL1 : (i : Int) + 1 ≤ 1000 := by omega
    by_cases hl : i + 1 < u.length
    · have hl' : (i : Int) + 1 < (u.length : Int) := by omega
      have HS : Hid (stepM R (.text u i t) Q c = (1, .text u (i + 1) t, Q)) := by
        show _ = _
        unfold stepM
        simp only [hx, hcx, ne_eq, not_true_eq_false, if_false, if_pos hl]
      have HX : Hid (stV g V r (.text u (i + 1) t) tk) := ⟨a, b, d, tv, htk, v1, g1, v2, g2, v3, g3, hT, hl, hu⟩
      clear h h1 h2 h3 ht hR hT hK v1 v2 v3 hx hcx hl htk
      go_enter Tryz.func170, Tryz.ntmps170
      go_upto_region 4 with fail
      rw [← hV]
      clear hV
      go_wp2
      go_ret
      rw [unhide HS]
      exact ⟨rfl, g, tk, hp, hc, bp, bc, unhide HR, fun _ => unhide HX, unhide HK, fun _ _ h => h⟩
    · have hl' : ¬ (i : Int) + 1 < (u.length : Int) := by omega
      have HS : Hid (stepM R (.text u i t) Q c = ((thM t (.text u i t) Q).1, (thM t (.text u i t) Q).2, Q)) := by
        show _ = _
        unfold stepM
        simp only [hx, hcx, ne_eq, not_true_eq_false, if_false, if_neg hl]
      cases t with
      | fin =>
        obtain rfl : tv = _ := hT
        clear h h1 h2 h3 ht hR hK v1 v2 v3 hx hcx hl htk HT
        go_enter Tryz.func170, Tryz.ntmps170
        go_upto_region 4 with fail
        rw [← hV]
        clear hV
        go_wp2_with (go_at_call 122; refine (end_any V r).mono ?_; rintro e w2 ⟨rfl, rfl⟩)
        go_ret
        rw [unhide HS]
        exact ⟨rfl, g, tk, hp, hc, bp, bc, unhide HR, fun e => (by cases e), unhide HK, fun _ _ h => h⟩
      | chk =>
        obtain rfl : tv = _ := hT
        have HC := hide (chunk_any V g r tk Q hp hc bp bc hR)
        clear h h1 h2 h3 ht hR hK v1 v2 v3 hx hcx hl htk HT
        go_enter Tryz.func170, Tryz.ntmps170
        go_upto_region 4 with fail
        rw [← hV]
        clear hV
        go_wp2_with (go_at_call 120; refine (unhide HC).mono ?_; rintro e w2 ⟨rfl, hr2⟩)
        go_ret
        rw [unhide HS]
        exact Ret.behind (unhide HK) (fun _ _ h => h) (Res.ret (x := (1, .chunk 0 0)) ⟨rfl, hr2⟩)
      | cb n =>
        obtain ⟨p, q, rfl, p1, p2, p3, p4, p5⟩ := hT
        have HC := hide (then_cb V g r p q tk n Q hp hc bp bc hR p1 p3 p5 hq)
        clear h h1 h2 h3 ht hR hK v1 v2 v3 hx hcx hl htk HT p1 p2 p3 p4 p5
        go_enter Tryz.func170, Tryz.ntmps170
        go_upto_region 4 with fail
        rw [← hV]
        clear hV
        go_wp2_with (go_at_call 148; refine (unhide HC).mono ?_; rintro e w2 ⟨rfl, hr2⟩)
        go_ret
        rw [unhide HS]
        exact Ret.behind (unhide HK) (fun _ _ h => h) (Res.ret (x := cbM n Q) ⟨rfl, hr2⟩)
      | tl =>
        obtain ⟨p, rfl, p1, p2⟩ := hT
        have HC := hide (then_tl V g r p tk Q hp hc bp bc hR p1)
        clear h h1 h2 h3 ht hR hK v1 v2 v3 hx hcx hl htk HT p1 p2
        go_enter Tryz.func170, Tryz.ntmps170
        go_upto_region 4 with fail
        rw [← hV]
        clear hV
        go_wp2_with (go_at_call 171; refine (unhide HC).mono ?_; rintro e w2 ⟨rfl, hr2⟩)
        go_ret
        rw [unhide HS]
        exact Ret.behind (unhide HK) (fun _ _ h => h) (Res.ret (x := (1, .text crlf 0 .chk)) ⟨rfl, hr2⟩)
  · rw [decide_eq_true hcx] at hne
    have HS : Hid (stepM R (.text u i t) Q c = (400, .text u i t, Q)) := by
      show _ = _
      unfold stepM
      simp only [hx, if_pos hcx]
    clear h h1 h2 h3 ht hx hcx htk
    go_enter Tryz.func170, Tryz.ntmps170
    go_wp2
    go_ret
    rw [unhide HS]
    exact ⟨rfl, g, tk, hp, hc, bp, bc, unhide HH, fun e => (by cases e), Kp.of (Below.refl _ _), fun _ _ h => h⟩
#print axioms take_text
end Go.Proofs.YtonaekkenggmbaaGreatDoor
end
