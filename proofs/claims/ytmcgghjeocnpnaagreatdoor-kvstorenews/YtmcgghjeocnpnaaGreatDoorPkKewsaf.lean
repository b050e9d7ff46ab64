/-
  disk's files in memory: the plain model; whose a block is; maps of files, of peaks; what stays.
-/
import Derived.Test.YtmcgghjeocnpnaaGreatDoorPkKewsad
import Derived.Test.YtmcgghjeocnpnaaGreatDoorPkKewsae
import Derived.WalkSpells
import Derived.WalkLawsBesides
import Derived.Deep.QuietTactic
import Derived.BigQuiet
import Derived.BigRegion
import Derived.Maps.OwnSet
import Derived.Maps.OwnOps
import Derived.Maps.Ext
import Derived.Maps.RangeWalk
import Derived.Sort.MapsRangeIn
section
set_option linter.unusedVariables false
namespace Go.Proofs.YtmcgghjeocnpnaaGreatDoor
open Go.RowKit Go.Maps

/-! ### the plain model -/
abbrev Nm := List UInt8
abbrev Files := Nm → Option (List UInt8)
/-- An act: 0 a write of b at p, 1 a cut to p, 2 a drop. -/
structure Ac where
  k : Nat
  n : Nm
  p : Nat
  b : List UInt8
def upd {α : Type} (f : Nm → α) (n : Nm) (x : α) : Nm → α := fun m => if m = n then x else f m
theorem upd_same {α : Type} (f : Nm → α) (n : Nm) (x : α) : upd f n x n = x := by simp [upd]
theorem upd_other {α : Type} (f : Nm → α) (n m : Nm) (x : α) (h : m ≠ n) : upd f n x m = f m := by simp [upd, h]
def fget (f : Files) (n : Nm) : List UInt8 := (f n).getD []
def over (l : List UInt8) (p : Nat) (b : List UInt8) : List UInt8 := l.take p ++ List.replicate (p - l.length) 0 ++ b
def doF (f : Files) (a : Ac) : Files :=
  if a.k = 0 then upd f a.n (some (over (fget f a.n) a.p a.b))
  else if a.k = 1 then (if a.p < (fget f a.n).length then upd f a.n (some ((fget f a.n).take a.p)) else f)
  else upd f a.n none
def doN (f : Files) (c : Nat) (a : Ac) : Nat :=
  if a.k = 0 then (if (f a.n).isSome then c else c + 1)
  else if a.k = 1 then c
  else (if (f a.n).isSome then c - 1 else c)

/-! ### whose a block is -/
inductive Tg where
  | o | d (i : Nat) | l (i : Nat) | s (i : Nat) | k (i : Nat) | p (i : Nat) | a (i : Nat) | lr (i : Nat) (n : Nm) | sr (i : Nat) (n : Nm)
def Tg.of : Tg → Nat → Prop
  | .o, _ => False
  | .d j, i => j = i
  | .l j, i => j = i
  | .s j, i => j = i
  | .k j, i => j = i
  | .p j, i => j = i
  | .a j, i => j = i
  | .lr j _, i => j = i
  | .sr j _, i => j = i

/-- All blocks stay but those whose tag is in S; tags stay. -/
structure St (w w' : World) (g g' : Nat → Tg) (S : Tg → Prop) : Prop where
  os : w'.os = w.os
  tape : w'.tape = w.tape
  output : w'.output = w.output
  size : w.heap.size ≤ w'.heap.size
  block : ∀ k, k < w.heap.size → ¬ S (g k) → w'.heap[k]? = w.heap[k]?
  ag : ∀ k, k < w.heap.size → g' k = g k
theorem St.refl (w : World) (g : Nat → Tg) (S : Tg → Prop) : St w w g g S := ⟨rfl, rfl, rfl, Nat.le_refl _, fun _ _ _ => rfl, fun _ _ => rfl⟩
theorem St.trans {a b c : World} {f g h : Nat → Tg} {S : Tg → Prop} (x : St a b f g S) (y : St b c g h S) : St a c f h S :=
  ⟨y.os.trans x.os, y.tape.trans x.tape, y.output.trans x.output, Nat.le_trans x.size y.size,
   fun k hk hs => (y.block k (Nat.lt_of_lt_of_le hk x.size) (by rw [x.ag k hk]; exact hs)).trans (x.block k hk hs),
   fun k hk => (y.ag k (Nat.lt_of_lt_of_le hk x.size)).trans (x.ag k hk)⟩
theorem St.mono {a b : World} {f g : Nat → Tg} {S T : Tg → Prop} (x : St a b f g S) (h : ∀ t, S t → T t) : St a b f g T :=
  ⟨x.os, x.tape, x.output, x.size, fun k hk hs => x.block k hk (fun e => hs (h _ e)), x.ag⟩
theorem St.ofBelow {w w' : World} (g : Nat → Tg) (S : Tg → Prop) (h : Below w.heap.size w w') : St w w' g g S := ⟨h.os, h.tape, h.output, h.size, fun k hk _ => h.block k hk, fun _ _ => rfl⟩
theorem St.ofG {w w' : World} {g : Nat → Tg} {S : Tg → Prop} {row : Option Nat} (h : w.grownBy w' row) (hr : ∀ k, row = some k → S (g k)) : St w w' g g S :=
  ⟨h.os, h.tape, h.output, h.size, fun k hk hs => h.block k hk (fun e => hs (hr k e.symm)), fun _ _ => rfl⟩
/-- Tags of blocks that are not there yet may be chosen. -/
theorem St.tag {w w' : World} {g g' h : Nat → Tg} {S : Tg → Prop} (x : St w w' g g' S) (e : ∀ k, k < w.heap.size → h k = g' k) : St w w' g h S :=
  ⟨x.os, x.tape, x.output, x.size, x.block, fun k hk => (e k hk).trans (x.ag k hk)⟩
theorem St.below {w0 w w' : World} {g g' : Nat → Tg} {S : Tg → Prop} {B : Nat} (x : St w w' g g' S) (h : Below B w0 w) (hB : B ≤ w.heap.size) (hS : ∀ k, k < B → ¬ S (g k)) : Below B w0 w' :=
  ⟨x.os.trans h.os, x.tape.trans h.tape, x.output.trans h.output, Nat.le_trans h.size x.size, fun k hk => (x.block k (by omega) (hS k hk)).trans (h.block k hk)⟩
theorem St.heap {w w' : World} {g g' : Nat → Tg} {S : Tg → Prop} (x : St w w' g g' S) {k : Nat} {o : Obj} (h : w.heap[k]? = some o) (hs : ¬ S (g k)) : w'.heap[k]? = some o := by
  rw [x.block k (Array.getElem?_eq_some_iff.1 h).1 hs]; exact h
theorem St.cell {w w' : World} {g g' : Nat → Tg} {S : Tg → Prop} (x : St w w' g g' S) {p : Addr} {v : Value} (h : w.cell? p = some v) (hs : ¬ S (g p.block)) : w'.cell? p = some v := by
  rw [World.cell?_of_block (w := w) (x.block p.block (World.block_lt_of_cell? w _ h) hs)]; exact h
theorem OwnB.st {w w' : World} {g g' : Nat → Tg} {S : Tg → Prop} {base : Nat} {a : Option Addr} {cap : Nat} {l : List UInt8} (h : OwnB w base a cap l) (x : St w w' g g' S) (hs : ∀ k, blk a = Option.some k → ¬ S (g k)) : OwnB w' base a cap l := by
  refine ⟨h.1, ?_⟩
  rcases h.2 with hn | ⟨b, cap, cur, hv, hbb, hgg, rest⟩
  · exact .inl hn
  · refine .inr ⟨b, cap, cur, hv, hbb, ?_, rest⟩
    have e : blk a = Option.some b := by simp only [Value.slice.injEq] at hv; rw [hv.1]; rfl
    exact x.heap hgg (hs b e)
theorem Bs.st {w w' : World} {g g' : Nat → Tg} {S : Tg → Prop} {a : Option Addr} {cap : Nat} {l : List UInt8} (h : Bs w a cap l) (x : St w w' g g' S) (hs : ∀ k, blk a = some k → ¬ S (g k)) : Bs w' a cap l := by
  refine ⟨fun hne => ?_, h.le, h.most, h.nz⟩
  obtain ⟨b, off, rfl, hc⟩ := h.row hne
  exact ⟨b, off, rfl, fun i hi => x.cell (hc i hi) (hs b rfl)⟩
theorem ownsMap_st {w w' : World} {g g' : Nat → Tg} {S : Tg → Prop} {k : TypeId} {R : Value → Option (DataW Unit × List MemPlace)} {bm n : Nat} {D : DataW Unit} (h : w.ownsMap Tryz.prog k R bm n D) (x : St w w' g g' S) (hs : ¬ S (g bm)) : w'.ownsMap Tryz.prog k R bm n D := by
  obtain ⟨es, clock, h1, h2⟩ := h
  exact ⟨es, clock, x.heap h1 hs, h2⟩
theorem ownsMap_same {w w' : World} {k : TypeId} {R : Value → Option (DataW Unit × List MemPlace)} {bm n : Nat} {D : DataW Unit} (h : w.ownsMap Tryz.prog k R bm n D) (x : w'.heap[bm]? = w.heap[bm]?) : w'.ownsMap Tryz.prog k R bm n D := by
  obtain ⟨es, clock, h1, h2⟩ := h
  exact ⟨es, clock, x.trans h1, h2⟩
theorem ownsMap_fit {w : World} {k : TypeId} {R : Value → Option (DataW Unit × List MemPlace)} {bm n : Nat} {D : DataW Unit} (h : w.ownsMap Tryz.prog k R bm n D) : w.ownsMap Tryz.prog k R bm (Maps.size D) D := by
  obtain ⟨es, clock, h1, h2, h3, rfl⟩ := h
  exact ⟨es, clock, h1, h2, by simp [Maps.size, length_sorted], rfl⟩

/-! ### a map of files -/
def ad (x : Option Nat) : Option Addr := x.map fun g => ⟨g, 0, none⟩
theorem blk_ad (x : Option Nat) : blk (ad x) = x := by cases x <;> rfl
def enS (x : Option Nat) (n c : Nat) : DataW Unit := .agg [.lit (.int .i64 (match x with | none => -1 | some g => (g : Int))), .lit (.int .i64 (n : Int)), .lit (.int .i64 (c : Int))]
def slE : Value → Option (DataW Unit × List MemPlace)
  | .slice none n c => some (enS none n c, [])
  | .slice (some ⟨g, 0, none⟩) n c => some (enS (some g) n c, [])
  | _ => none
theorem slE_mk (x : Option Nat) (n c : Nat) : slE (.slice (ad x) n c) = some (enS x n c, []) := by cases x <;> rfl
theorem enS_inj {x y : Option Nat} {n c m d : Nat} (h : enS x n c = enS y m d) : x = y ∧ n = m ∧ c = d := by
  unfold enS at h
  simp only [DataW.agg.injEq, List.cons.injEq, DataW.lit.injEq, Lit.int.injEq, true_and, and_true] at h
  obtain ⟨h1, h2, h3⟩ := h
  refine ⟨?_, by omega, by omega⟩
  cases x <;> cases y <;> simp only at h1
  · rfl
  · omega
  · omega
  · congr 1; omega
theorem slE_form {v : Value} {y : DataW Unit × List MemPlace} (h : slE v = some y) : ∃ x n c, v = .slice (ad x) n c ∧ y = (enS x n c, []) := by
  unfold slE at h
  split at h
  · rename_i n c; exact ⟨none, n, c, rfl, (Option.some.inj h).symm⟩
  · rename_i g n c; exact ⟨some g, n, c, rfl, (Option.some.inj h).symm⟩
  · cases h
theorem slE_inv {v : Value} {x : Option Nat} {n c : Nat} {ps : List MemPlace} (h : slE v = some (enS x n c, ps)) : v = .slice (ad x) n c := by
  obtain ⟨x', n', c', rfl, e⟩ := slE_form h
  simp only [Prod.mk.injEq] at e
  obtain ⟨rfl, rfl, rfl⟩ := enS_inj e.1
  rfl
theorem law : Keyed Tryz.prog 9 := string_keyed Tryz.underlying9
theorem zeroB (w : World) : (zeroValue 86).run Tryz.prog w = .ok (.slice none 0 0) w := by kernel_rfl
theorem zeroI (w : World) : (zeroValue 3).run Tryz.prog w = .ok (.int .i64 0) w := by kernel_rfl
theorem key_str (n : Nm) (h : n.length ≤ maxLen) : keyOf Tryz.prog 9 (.string (str n)) = some (.string n) := WideMaps.keyOf_string_mk Tryz.underlying9 (by rw [str_size]; exact h)

/-- What a map says of a name: there is none, or a row of bytes of its own. -/
def FE (w : World) (g : Nat → Tg) (t : Tg) (D : DataW Unit) (n : Nm) (o : Option (List UInt8)) : Prop :=
  (o = none ∧ Maps.has D (.string n) = false) ∨ ∃ l x c, o = some l ∧ Maps.has D (.string n) = true ∧ (∀ z, D.atKey (.string n) z = enS x l.length c) ∧ OwnB w 0 (ad x) c l ∧ ∀ b, x = some b → g b = t
/-- Block bm is a map that has these files, cnt of them; the rows of each are its own (tag tr name). -/
def FM (w : World) (g : Nat → Tg) (tr : Nm → Tg) (bm : Nat) (f : Files) (cnt : Nat) : Prop :=
  ∃ D, w.ownsMap Tryz.prog 9 slE bm cnt D ∧ Maps.size D = cnt ∧ ∀ n, FE w g (tr n) D n (f n)
theorem FE.st {w w' : World} {g g' : Nat → Tg} {S : Tg → Prop} {t : Tg} {D : DataW Unit} {n : Nm} {o : Option (List UInt8)} (h : FE w g t D n o) (x : St w w' g g' S) (hs : ¬ S t) : FE w' g' t D n o := by
  rcases h with h | ⟨l, y, c, h1, h2, h3, h4, h5⟩
  · exact .inl h
  · refine .inr ⟨l, y, c, h1, h2, h3, h4.st x (fun k hk => ?_), fun b hb => ?_⟩
    · rw [blk_ad] at hk; rw [h5 k hk]; exact hs
    · rw [x.ag b (h4.lt b (by rw [blk_ad]; exact hb)).2]; exact h5 b hb
theorem FM.st {w w' : World} {g g' : Nat → Tg} {S : Tg → Prop} {tr : Nm → Tg} {bm cnt : Nat} {f : Files} (h : FM w g tr bm f cnt) (x : St w w' g g' S) (hb : ¬ S (g bm)) (hs : ∀ n, ¬ S (tr n)) : FM w' g' tr bm f cnt := by
  obtain ⟨D, h1, h2, h3⟩ := h
  exact ⟨D, ownsMap_st h1 x hb, h2, fun n => (h3 n).st x (hs n)⟩
theorem FM.lt {w : World} {g : Nat → Tg} {tr : Nm → Tg} {bm cnt : Nat} {f : Files} (h : FM w g tr bm f cnt) : bm < w.heap.size := by
  obtain ⟨D, h1, _⟩ := h
  exact h1.lt
theorem FM.made (w : World) (g : Nat → Tg) (tr : Nm → Tg) : FM (w.alloc (.map #[] 0)) g tr w.heap.size (fun _ => none) 0 :=
  ⟨.map [], World.ownsMap_made _ _ _ _, rfl, fun n => .inl ⟨rfl, rfl⟩⟩

/-- The row of a name, and what a look-up answers, as long as the map's block is what it is. -/
theorem FM.at {w : World} {g : Nat → Tg} {tr : Nm → Tg} {bm cnt : Nat} {f : Files} (h : FM w g tr bm f cnt) (n : Nm) (hn : n.length ≤ maxLen) :
    ∃ x c, OwnB w 0 (ad x) c (fget f n) ∧ (∀ b, x = some b → g b = tr n) ∧ ∀ w', w'.heap[bm]? = w.heap[bm]? →
      (Instr.lookup 75 (.map (some bm)) (.string (str n)) false).run Tryz.prog w' = .ok (.slice (ad x) (fget f n).length c) w' ∧
      (Instr.lookup 75 (.map (some bm)) (.string (str n)) true).run Tryz.prog w' = .ok (.tuple #[.slice (ad x) (fget f n).length c, .bool (f n).isSome]) w' := by
  obtain ⟨D, h1, h2, h3⟩ := h
  have hk := key_str n hn
  rcases h3 n with ⟨e1, e2⟩ | ⟨l, x, c, e1, e2, e3, e4, e5⟩
  · refine ⟨none, 0, ?_, (fun b hb => by cases hb), fun w' hw => ?_⟩
    · rw [show fget f n = [] by simp [fget, e1]]; exact OwnB.nil _ _
    · have h1' := ownsMap_same h1 hw
      obtain ⟨v, ps, r1, r2⟩ := h1'.lookup law Tryz.underlying75 (zeroB w') (slE_mk none 0 0) hk
      obtain ⟨v', ps', s1, s2⟩ := h1'.look_ok law Tryz.underlying75 (zeroB w') (slE_mk none 0 0) hk
      rw [Maps.atKey_of_not_has e2] at r2 s2
      rw [slE_inv r2] at r1
      rw [slE_inv s2, e2] at s1
      rw [show fget f n = [] by simp [fget, e1], e1]
      exact ⟨r1, s1⟩
  · refine ⟨x, c, ?_, e5, fun w' hw => ?_⟩
    · rw [show fget f n = l by simp [fget, e1]]; exact e4
    · have h1' := ownsMap_same h1 hw
      obtain ⟨v, ps, r1, r2⟩ := h1'.lookup law Tryz.underlying75 (zeroB w') (slE_mk none 0 0) hk
      obtain ⟨v', ps', s1, s2⟩ := h1'.look_ok law Tryz.underlying75 (zeroB w') (slE_mk none 0 0) hk
      rw [e3] at r2 s2
      rw [slE_inv r2] at r1
      rw [slE_inv s2, e2] at s1
      rw [show fget f n = l by simp [fget, e1], e1]
      exact ⟨r1, s1⟩

/-- 'm[name] = row', in a world in which that name's old row may have been written. -/
theorem FM.put {w w1 : World} {g g1 : Nat → Tg} {S : Tg → Prop} {tr : Nm → Tg} {bm cnt : Nat} {f : Files} (h : FM w g tr bm f cnt) (n : Nm) (hn : n.length ≤ maxLen) (x : St w w1 g g1 S) (hb : ¬ S (g bm)) (hs : ∀ m, m ≠ n → ¬ S (tr m)) (hc : cnt < maxLen)
    {y : Option Nat} {c : Nat} {l : List UInt8} (ho : OwnB w1 0 (ad y) c l) (hy : ∀ b, y = some b → g1 b = tr n) :
    ∃ w2, (Instr.mapUpdate 75 (.map (some bm)) (.string (str n)) (.slice (ad y) l.length c)).run Tryz.prog w1 = .ok () w2 ∧ FM w2 g1 tr bm (upd f n (some l)) (if (f n).isSome then cnt else cnt + 1) ∧ w1.grownBy w2 (some bm) := by
  obtain ⟨D, h1, h2, h3⟩ := h
  have hk := key_str n hn
  have h1' := ownsMap_st h1 x hb
  obtain ⟨w2, r1, r2, r3⟩ := h1'.store law Tryz.underlying75 hc hk (slE_mk y l.length c)
  have hg := r3.grown
  have hisM := h1'.isMap
  have hhas : Maps.has D (.string n) = (f n).isSome := by
    rcases h3 n with ⟨e1, e2⟩ | ⟨l', x', c', e1, e2, _⟩
    · rw [e2, e1]; rfl
    · rw [e2, e1]; rfl
  have hsz : Maps.size (D.put (.string n) (enS y l.length c)) = if (f n).isSome then cnt else cnt + 1 := by
    rw [Maps.size_put (h1'.tidy law), hhas, h2]
  have hrow : ∀ (z : Option Nat) (c' : Nat) (l' : List UInt8), OwnB w1 0 (ad z) c' l' → OwnB w2 0 (ad z) c' l' := by
    intro z c' l' hz
    refine hz.kept hg ?_
    rw [blk_ad]
    cases z with
    | none => exact .inl rfl
    | some b =>
      right
      intro e
      obtain rfl := Option.some.inj e
      rcases hz.cases with ⟨e', _⟩ | ⟨g', cur, e', _, e2, _⟩
      · cases e'
      · obtain rfl : b = g' := by simpa [ad] using e'
        obtain ⟨es, clock, e3, _⟩ := h1'
        rw [e2] at e3
        cases e3
  refine ⟨w2, r1, ⟨_, ?_, hsz, fun m => ?_⟩, hg⟩
  · have := ownsMap_fit r2
    rw [hsz] at this
    exact this
  · by_cases hm : m = n
    · subst hm
      rw [upd_same]
      exact .inr ⟨l, y, c, rfl, Maps.has_put_same hisM (by trivial) _, fun z => Maps.atKey_put_same hisM (by trivial) _ z, hrow _ _ _ ho, hy⟩
    · have hne : (Lit.string m) ≠ (Lit.string n) := fun e => hm (by simpa using e)
      rw [upd_other _ _ _ _ hm]
      rcases (h3 m).st x (hs m hm) with ⟨e1, e2⟩ | ⟨l', x', c', e1, e2, e3, e4, e5⟩
      · exact .inl ⟨e1, by rw [Maps.has_put_other hne]; exact e2⟩
      · exact .inr ⟨l', x', c', e1, by rw [Maps.has_put_other hne]; exact e2, fun z => by rw [Maps.atKey_put_other hne]; exact e3 z, hrow _ _ _ e4, e5⟩

/-- 'delete(m, name)'. -/
theorem FM.del {w : World} {g : Nat → Tg} {tr : Nm → Tg} {bm cnt : Nat} {f : Files} (h : FM w g tr bm f cnt) (n : Nm) (hn : n.length ≤ maxLen) (ty : TypeId) :
    ∃ w2, (Builtin.delete_ #[75, 9] ty #[.map (some bm), .string (str n)]).run Tryz.prog w = .ok (.tuple #[]) w2 ∧ FM w2 g tr bm (upd f n none) (if (f n).isSome then cnt - 1 else cnt) ∧ w.grownBy w2 (some bm) := by
  obtain ⟨D, h1, h2, h3⟩ := h
  have hk := key_str n hn
  obtain ⟨w2, r1, r2, r3⟩ := h1.drop law Tryz.underlying75 hk ty
  have hg := r3.grown
  have hhas : Maps.has D (.string n) = (f n).isSome := by
    rcases h3 n with ⟨e1, e2⟩ | ⟨l', x', c', e1, e2, _⟩
    · rw [e2, e1]; rfl
    · rw [e2, e1]; rfl
  have hsz : Maps.size (D.del (.string n)) = if (f n).isSome then cnt - 1 else cnt := by
    have := Maps.size_del (k := .string n) (h1.tidy law)
    rw [hhas, h2] at this
    cases hf : (f n).isSome
    · rw [hf] at this; simpa using this
    · rw [hf] at this; simp at this ⊢; omega
  have hrow : ∀ (z : Option Nat) (c' : Nat) (l' : List UInt8), OwnB w 0 (ad z) c' l' → OwnB w2 0 (ad z) c' l' := by
    intro z c' l' hz
    refine hz.kept hg ?_
    rw [blk_ad]
    cases z with
    | none => exact .inl rfl
    | some b =>
      right
      intro e
      obtain rfl := Option.some.inj e
      rcases hz.cases with ⟨e', _⟩ | ⟨g', cur, e', _, e2, _⟩
      · cases e'
      · obtain rfl : b = g' := by simpa [ad] using e'
        obtain ⟨es, clock, e3, _⟩ := h1
        rw [e2] at e3
        cases e3
  refine ⟨w2, r1, ⟨_, ?_, hsz, fun m => ?_⟩, hg⟩
  · have := ownsMap_fit r2
    rw [hsz] at this
    exact this
  · by_cases hm : m = n
    · subst hm
      rw [upd_same]
      exact .inl ⟨rfl, Maps.has_del_same⟩
    · have hne : (Lit.string m) ≠ (Lit.string n) := fun e => hm (by simpa using e)
      rw [upd_other _ _ _ _ hm]
      rcases h3 m with ⟨e1, e2⟩ | ⟨l', x', c', e1, e2, e3, e4, e5⟩
      · exact .inl ⟨e1, by rw [Maps.has_del_other hne]; exact e2⟩
      · exact .inr ⟨l', x', c', e1, by rw [Maps.has_del_other hne]; exact e2, fun z => by rw [Maps.atKey_del_other hne]; exact e3 z, hrow _ _ _ e4, e5⟩

/-! ### the map of peaks -/
def i64d (z : Int) : DataW Unit := .lit (.int .i64 z)
/-- Block bm is a map of at most cnt numbers, which has these (0 where there is none). -/
def PK (w : World) (bm : Nat) (f : Nm → Int) (cnt : Nat) : Prop :=
  ∃ D, w.ownsMap Tryz.prog 9 (plainElem Tryz.prog 3) bm cnt D ∧ ∀ n, D.atKey (.string n) (i64d 0) = i64d (f n)
theorem PK.st {w w' : World} {g g' : Nat → Tg} {S : Tg → Prop} {bm cnt : Nat} {f : Nm → Int} (h : PK w bm f cnt) (x : St w w' g g' S) (hb : ¬ S (g bm)) : PK w' bm f cnt := by
  obtain ⟨D, h1, h2⟩ := h
  exact ⟨D, ownsMap_st h1 x hb, h2⟩
theorem PK.lt {w : World} {bm cnt : Nat} {f : Nm → Int} (h : PK w bm f cnt) : bm < w.heap.size := by
  obtain ⟨D, h1, _⟩ := h
  exact h1.lt
theorem PK.made (w : World) : PK (w.alloc (.map #[] 0)) w.heap.size (fun _ => 0) 0 :=
  ⟨.map [], World.ownsMap_made _ _ _ _, fun n => rfl⟩
theorem PK.at {w : World} {bm cnt : Nat} {f : Nm → Int} (h : PK w bm f cnt) (n : Nm) (hn : n.length ≤ maxLen) :
    (Lit.int .i64 (f n)).wf = true ∧ ∀ w', w'.heap[bm]? = w.heap[bm]? → (Instr.lookup 77 (.map (some bm)) (.string (str n)) false).run Tryz.prog w' = .ok (.int .i64 (f n)) w' := by
  obtain ⟨D, h1, h2⟩ := h
  have key : ∀ w', w'.heap[bm]? = w.heap[bm]? → (Lit.int .i64 (f n)).wf = true ∧ (Instr.lookup 77 (.map (some bm)) (.string (str n)) false).run Tryz.prog w' = .ok (.int .i64 (f n)) w' := by
    intro w' hw
    obtain ⟨c, r1, r2, r3⟩ := (ownsMap_same h1 hw).lookup_int law Tryz.underlying77 Tryz.underlying3 (zeroI w') (key_str n hn)
    have e : c = f n := by
      have := (h2 n).symm.trans r2
      simpa [i64d] using this.symm
    subst e
    exact ⟨r3, r1⟩
  exact ⟨(key w rfl).1, fun w' hw => (key w' hw).2⟩
theorem PK.put {w : World} {bm cnt : Nat} {f : Nm → Int} (h : PK w bm f cnt) (n : Nm) (hn : n.length ≤ maxLen) (hc : cnt < maxLen) (z : Int) (hz : (Lit.int .i64 z).wf = true) :
    ∃ w2, (Instr.mapUpdate 77 (.map (some bm)) (.string (str n)) (.int .i64 z)).run Tryz.prog w = .ok () w2 ∧ PK w2 bm (upd f n z) (cnt + 1) ∧ w.grownBy w2 (some bm) := by
  obtain ⟨D, h1, h2⟩ := h
  obtain ⟨w2, r1, r2, r3⟩ := h1.store law Tryz.underlying77 hc (key_str n hn) (plainElem_int Tryz.underlying3 hz)
  refine ⟨w2, r1, ⟨_, r2, fun m => ?_⟩, r3.grown⟩
  by_cases hm : m = n
  · subst hm
    rw [upd_same, Maps.atKey_put_same h1.isMap (by trivial)]; rfl
  · rw [upd_other _ _ _ _ hm, Maps.atKey_put_other (fun e => hm (by simpa using e))]; exact h2 m
theorem PK.del {w : World} {bm cnt : Nat} {f : Nm → Int} (h : PK w bm f cnt) (n : Nm) (hn : n.length ≤ maxLen) (ty : TypeId) :
    ∃ w2, (Builtin.delete_ #[77, 9] ty #[.map (some bm), .string (str n)]).run Tryz.prog w = .ok (.tuple #[]) w2 ∧ PK w2 bm (upd f n 0) cnt ∧ w.grownBy w2 (some bm) := by
  obtain ⟨D, h1, h2⟩ := h
  obtain ⟨w2, r1, r2, r3⟩ := h1.drop law Tryz.underlying77 (key_str n hn) ty
  refine ⟨w2, r1, ⟨_, r2, fun m => ?_⟩, r3.grown⟩
  by_cases hm : m = n
  · subst hm
    rw [upd_same, Maps.atKey_del_same]
  · rw [upd_other _ _ _ _ hm, Maps.atKey_del_other (fun e => hm (by simpa using e))]; exact h2 m
#print axioms FM.put
#print axioms PK.del
end Go.Proofs.YtmcgghjeocnpnaaGreatDoor
end
