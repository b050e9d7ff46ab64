/-
  jsonx: values in memory.; jsonx: a list or an object in the midst of being read.; jsonx: members.; jsonx: list$1: an item more.; jsonx: list.
-/
import Derived.Test.YtmpjeahibfdehaaGreatDoorPkMtesaf
import Derived.Deep.AppendLies
section
set_option linter.unusedVariables false
set_option maxRecDepth 1000000
namespace Go.Proofs.YtmpjeahibfdehaaGreatDoor
open Go.RowKit

/-- Names that are read, in blocks of S. -/
def NsF (w : World) (S : Nat → Prop) (a : Option Addr) (l : List (List UInt8)) : Prop := l ≠ [] → ∃ b off, a = some ⟨b, off, none⟩ ∧ S b ∧ ∀ i s, l[i]? = some s → w.cell? ⟨b, off + i, none⟩ = some (.string (str s))
mutual
/-- A value in memory, all of whose rows lie in blocks of S. -/
def JV (w : World) (S : Nat → Prop) (v : Value) : Js → Prop
 | .mk k n t ns is => ∃ a1 c1 a2 c2, v = .agg #[.int .i64 k, .int .i64 n, .string (str t), .slice a1 ns.length c1, .slice a2 is.length c2] ∧ NsF w S a1 ns ∧ ns.length ≤ c1 ∧ c1 ≤ maxLen ∧ (a1 = none → c1 = 0) ∧ is.length ≤ c2 ∧ c2 ≤ maxLen ∧ (a2 = none → c2 = 0) ∧ JVs w S a2 0 is
/-- The values of a row, from the i-th on. -/
def JVs (w : World) (S : Nat → Prop) (a : Option Addr) (i : Nat) : List Js → Prop
 | [] => True
 | j :: js => (∃ b off v0 v1 v2 v3 v4, a = some ⟨b, off, none⟩ ∧ S b ∧ w.cell? ⟨b, off + i * 5, none⟩ = some v0 ∧ w.cell? ⟨b, off + i * 5 + 1, none⟩ = some v1 ∧ w.cell? ⟨b, off + i * 5 + 2, none⟩ = some v2 ∧ w.cell? ⟨b, off + i * 5 + 3, none⟩ = some v3 ∧ w.cell? ⟨b, off + i * 5 + 4, none⟩ = some v4 ∧ JV w S (.agg #[v0, v1, v2, v3, v4]) j) ∧ JVs w S a (i + 1) js
end
/-- One value of a row. -/
def JEl (w : World) (S : Nat → Prop) (a : Option Addr) (i : Nat) (j : Js) : Prop := ∃ b off v0 v1 v2 v3 v4, a = some ⟨b, off, none⟩ ∧ S b ∧ w.cell? ⟨b, off + i * 5, none⟩ = some v0 ∧ w.cell? ⟨b, off + i * 5 + 1, none⟩ = some v1 ∧ w.cell? ⟨b, off + i * 5 + 2, none⟩ = some v2 ∧ w.cell? ⟨b, off + i * 5 + 3, none⟩ = some v3 ∧ w.cell? ⟨b, off + i * 5 + 4, none⟩ = some v4 ∧ JV w S (.agg #[v0, v1, v2, v3, v4]) j
theorem jvs_iff (w : World) (S : Nat → Prop) (a : Option Addr) : ∀ (is : List Js) (i : Nat), JVs w S a i is ↔ ∀ m j, is[m]? = some j → JEl w S a (i + m) j
 | [], i => by simp [JVs]
 | j :: js, i => by
  have ih := jvs_iff w S a js (i + 1)
  simp only [JVs]
  constructor
  ·rintro ⟨h1, h2⟩ m x hx
   cases m with
   | zero => simp at hx; subst hx; exact h1
   | succ m =>
    have := ih.1 h2 m x (by simpa using hx)
    rw [show i + (m + 1) = i + 1 + m by omega]; exact this
  ·intro h
   refine ⟨h 0 j rfl, ih.2 (fun m x hx => ?_)⟩
   rw [show i + 1 + m = i + (m + 1) by omega]
   exact h (m + 1) x (by simpa using hx)
theorem cell_keep {w w' : World} {b o : Nat} {v : Value} (e : w'.heap[b]? = w.heap[b]?) (h : w.cell? ⟨b, o, none⟩ = some v) : w'.cell? ⟨b, o, none⟩ = some v := by rw [← h]; simp only [World.cell?, e]
theorem NsF.keep {w w' : World} {S S' : Nat → Prop} {a : Option Addr} {l : List (List UInt8)} (h : NsF w S a l) (e : ∀ k, S k → S' k ∧ w'.heap[k]? = w.heap[k]?) : NsF w' S' a l := by
 intro hne
 obtain ⟨b, off, h1, h2, h3⟩ := h hne
 exact ⟨b, off, h1, (e b h2).1, fun i s hs => cell_keep (e b h2).2 (h3 i s hs)⟩
mutual
/-- What S's blocks hold alone matters. -/
theorem JV.keep {w w' : World} {S S' : Nat → Prop} (e : ∀ k, S k → S' k ∧ w'.heap[k]? = w.heap[k]?) : ∀ (j : Js) (v : Value), JV w S v j → JV w' S' v j
 | .mk k n t ns is, v, h => by
  simp only [JV] at h ⊢
  obtain ⟨a1, c1, a2, c2, h1, h2, h3, h4, h5, h6, h7, h8, h9⟩ := h
  exact ⟨a1, c1, a2, c2, h1, h2.keep e, h3, h4, h5, h6, h7, h8, JVs.keep e is a2 0 h9⟩
theorem JVs.keep {w w' : World} {S S' : Nat → Prop} (e : ∀ k, S k → S' k ∧ w'.heap[k]? = w.heap[k]?) : ∀ (js : List Js) (a : Option Addr) (i : Nat), JVs w S a i js → JVs w' S' a i js
 | [], a, i, h => trivial
 | j :: js, a, i, h => by
  simp only [JVs] at h ⊢
  obtain ⟨⟨b, off, v0, v1, v2, v3, v4, h1, h2, g0, g1, g2, g3, g4, hj⟩, hs⟩ := h
  have eb := (e b h2).2
  exact ⟨⟨b, off, v0, v1, v2, v3, v4, h1, (e b h2).1, cell_keep eb g0, cell_keep eb g1, cell_keep eb g2, cell_keep eb g3, cell_keep eb g4, JV.keep e j _ hj⟩, JVs.keep e js a (i + 1) hs⟩
end
theorem JEl.keep {w w' : World} {S S' : Nat → Prop} (e : ∀ k, S k → S' k ∧ w'.heap[k]? = w.heap[k]?) {a : Option Addr} {i : Nat} {j : Js} (h : JEl w S a i j) : JEl w' S' a i j := by
 obtain ⟨b, off, v0, v1, v2, v3, v4, h1, h2, g0, g1, g2, g3, g4, hj⟩ := h
 have eb := (e b h2).2
 exact ⟨b, off, v0, v1, v2, v3, v4, h1, (e b h2).1, cell_keep eb g0, cell_keep eb g1, cell_keep eb g2, cell_keep eb g3, cell_keep eb g4, JV.keep e j _ hj⟩
theorem JV.flat (w : World) (S : Nat → Prop) (k n : Int) (t : List UInt8) : JV w S (.agg #[.int .i64 k, .int .i64 n, .string (str t), .slice none 0 0, .slice none 0 0]) (.mk k n t [] []) := by
 simp only [JV]
 exact ⟨none, 0, none, 0, rfl, fun h => absurd rfl h, Nat.le_refl _, by unfold maxLen; omega, fun _ => rfl, Nat.le_refl _, by unfold maxLen; omega, fun _ => rfl, trivial⟩
/-! ### Rows of one's own -/
def nsv (l : List (List UInt8)) : List Value := l.map fun s => .string (str s)
theorem nsv_get (l : List (List UInt8)) (i : Nat) (s : List UInt8) (h : l[i]? = some s) : (nsv l)[i]? = some (.string (str s)) := by simp [nsv, h]
theorem nsv_one (l : List (List UInt8)) : ∀ u ∈ nsv l, u.oneCell' = true := by
 intro u hu
 obtain ⟨_, _, rfl⟩ := List.mem_map.1 hu
 rfl
/-- A row of names. -/
def OwnT (w : World) (base : Nat) (a : Option Addr) (cap : Nat) (l : List (List UInt8)) : Prop := w.ownsRow base 9 1 (.slice a l.length cap) l.length (nsv l)
/-- A row of values: so many, cell by cell. -/
def OwnJ (w : World) (base : Nat) (a : Option Addr) (cap n : Nat) (xs : List Value) : Prop := w.ownsRow base 44 5 (.slice a n cap) n xs
theorem owns_cases {w : World} {base : Nat} {ty : TypeId} {z : Nat} {a : Option Addr} {cap n : Nat} {xs : List Value} (h : w.ownsRow base ty z (.slice a n cap) n xs) :
  (a = none ∧ cap = 0 ∧ n = 0 ∧ xs = []) ∨ ∃ g cur, a = some ⟨g, 0, none⟩ ∧ base ≤ g ∧ w.heap[g]? = some (.cells cur ty (0, 0)) ∧ n ≤ cap ∧ cap ≤ maxLen ∧ cur.size = cap * z ∧ cur.toList.take (n * z) = xs ∧ xs.length = n * z := by
 have hl := h.1
 rcases h.2 with ⟨hv, hn⟩ | ⟨g, cap', cur, hv, hb, hg, hle, hm, hs, ht⟩
 ·simp only [Value.slice.injEq] at hv
  subst hn
  exact .inl ⟨hv.1, hv.2.2, rfl, List.eq_nil_of_length_eq_zero (by rw [hl]; simp)⟩
 ·simp only [Value.slice.injEq, true_and] at hv
  obtain ⟨rfl, rfl⟩ := hv
  exact .inr ⟨g, cur, rfl, hb, hg, hle, hm, hs, ht, hl⟩
theorem owns_lt {w : World} {base : Nat} {ty : TypeId} {z : Nat} {a : Option Addr} {cap n : Nat} {xs : List Value} (h : w.ownsRow base ty z (.slice a n cap) n xs) : ∀ k, blk a = some k → base ≤ k ∧ k < w.heap.size := by
 intro k hk
 rcases owns_cases h with ⟨rfl, _⟩ | ⟨g, cur, rfl, hb, hg, _⟩
 ·simp [blk] at hk
 ·simp [blk] at hk
  subst hk
  exact ⟨hb, (aI hg).1⟩
theorem owns_same {w w' : World} {base : Nat} {ty : TypeId} {z : Nat} {a : Option Addr} {cap n : Nat} {xs : List Value} (h : w.ownsRow base ty z (.slice a n cap) n xs) (e : ∀ k, blk a = some k → w'.heap[k]? = w.heap[k]?) : w'.ownsRow base ty z (.slice a n cap) n xs := by
 refine ⟨h.1, ?_⟩
 rcases h.2 with hn | ⟨b, cap, cur, hv, hbb, hgg, rest⟩
 ·exact .inl hn
 ·refine .inr ⟨b, cap, cur, hv, hbb, ?_, rest⟩
  have e2 : blk a = some b := by simp only [Value.slice.injEq] at hv; rw [hv.1]; rfl
  exact (e b e2).trans hgg
theorem owns_cell {w : World} {base : Nat} {ty : TypeId} {z : Nat} {g cap n : Nat} {xs : List Value} (h : w.ownsRow base ty z (.slice (some ⟨g, 0, none⟩) n cap) n xs) (p : Nat) (v : Value) (hp : xs[p]? = some v) : w.cell? ⟨g, p, none⟩ = some v ∧ w.frozen? ⟨g, p, none⟩ = false := by
 rcases owns_cases h with ⟨h0, _⟩ | ⟨g', cur, h0, hb, hg, hle, hm, hs, ht, hl⟩
 ·cases h0
 ·simp only [Option.some.injEq, Addr.mk.injEq, and_true] at h0
  subst h0
  refine ⟨?_, frozen_of_row w g p _ _ hg⟩
  have hlt := (List.getElem?_eq_some_iff.1 hp).1
  rw [cell_of_row w g p cur _ (0, 0) hg, ← hp, ← ht, List.getElem?_take, if_pos (by omega)]
  simp
theorem owns_set {w : World} {base : Nat} {ty : TypeId} {z : Nat} {g cap n : Nat} {xs : List Value} (h : w.ownsRow base ty z (.slice (some ⟨g, 0, none⟩) n cap) n xs) (p : Nat) (v : Value) (hp : p < xs.length) : (w.setCell ⟨g, p, none⟩ v).ownsRow base ty z (.slice (some ⟨g, 0, none⟩) n cap) n (xs.set p v) := by
 have hl := h.1
 rcases h.2 with ⟨hv, hn⟩ | ⟨b, cap', cur, hv, hbb, hgg, hle, hm, hs, ht⟩
 ·cases hv
 ·simp only [Value.slice.injEq, Option.some.injEq, Addr.mk.injEq, and_true, true_and] at hv
  obtain ⟨rfl, rfl⟩ := hv
  refine ⟨by rw [List.length_set]; exact hl, .inr ⟨g, cap, cur.setIfInBounds p v, rfl, hbb, ?_, hle, hm, by simp [hs], ?_⟩⟩
  ·rw [hS6 hgg]
  ·rw [← ht, Array.toList_setIfInBounds, List.take_set]
theorem Tryz.infoJ : (Tryz.prog.info? 44).map (fun i => (i.zero, i.size, i.bytes)) = some (some (.agg #[.int .i64 0, .int .i64 0, .string ByteArray.empty, .slice none 0 0, .slice none 0 0]), 5, 80) := by kernel_rfl
theorem Tryz.infoT4 : (Tryz.prog.info? 9).map (fun i => (i.zero, i.size, i.bytes)) = some (some (.string ByteArray.empty), 1, 16) := by kernel_rfl
end Go.Proofs.YtmpjeahibfdehaaGreatDoor
end
section
set_option linter.unusedVariables false
set_option maxRecDepth 1000000
namespace Go.Proofs.YtmpjeahibfdehaaGreatDoor
open Go.RowKit

/-- Blocks that were made between two worlds. -/
def Nw (w w' : World) (k : Nat) : Prop := w.heap.size ≤ k ∧ k < w'.heap.size
/-- Blocks of the items: none of those that change. -/
def Fp (lo hi V : Nat) (a1 a2 : Option Addr) (k : Nat) : Prop := lo ≤ k ∧ k < hi ∧ k ≠ V ∧ blk a1 ≠ some k ∧ blk a2 ≠ some k
def zJ : List Value := [.int .i64 0, .int .i64 0, .string ⟨#[]⟩, .slice none 0 0, .slice none 0 0]
/-- The five cells of the m-th item. -/
def At5 (xs : List Value) (m : Nat) (v : Value) : Prop := ∃ v0 v1 v2 v3 v4, v = .agg #[v0, v1, v2, v3, v4] ∧ xs[m * 5]? = some v0 ∧ xs[m * 5 + 1]? = some v1 ∧ xs[m * 5 + 2]? = some v2 ∧ xs[m * 5 + 3]? = some v3 ∧ xs[m * 5 + 4]? = some v4
structure Bv (w : World) (V lo : Nat) (k : Int) (ns : List (List UInt8)) (is : List Js) (a1 : Option Addr) (c1 : Nat) (a2 : Option Addr) (c2 : Nat) (xs : List Value) : Prop where
 row : w.heap[V]? = some (.cells #[.int .i64 k, .int .i64 0, .string ⟨#[]⟩, .slice a1 ns.length c1, .slice a2 is.length c2] 44 (0, 0))
 nm : OwnT w lo a1 c1 ns
 it : OwnJ w lo a2 c2 is.length xs
 el : ∀ m j, is[m]? = some j → ∃ v, At5 xs m v ∧ JV w (Fp lo w.heap.size V a1 a2) v j
 v1 : blk a1 ≠ some V
 v2 : blk a2 ≠ some V
 v3 : ∀ k, blk a1 = some k → blk a2 ≠ some k
theorem Bv.lt {w : World} {V lo : Nat} {k : Int} {ns : List (List UInt8)} {is : List Js} {a1 : Option Addr} {c1 : Nat} {a2 : Option Addr} {c2 : Nat} {xs : List Value} (h : Bv w V lo k ns is a1 c1 a2 c2 xs) : V < w.heap.size := (aI h.row).1
theorem Bv.cells {w : World} {V lo : Nat} {k : Int} {ns : List (List UInt8)} {is : List Js} {a1 : Option Addr} {c1 : Nat} {a2 : Option Addr} {c2 : Nat} {xs : List Value} (h : Bv w V lo k ns is a1 c1 a2 c2 xs) : w.cell? ⟨V, 3, none⟩ = some (.slice a1 ns.length c1) ∧ w.cell? ⟨V, 4, none⟩ = some (.slice a2 is.length c2) ∧ (∀ j, w.frozen? ⟨V, j, none⟩ = false) :=
 ⟨cR6 h.row, cR6 h.row, fun j => frozen_of_row _ _ _ _ _ h.row⟩
/-- All from lo on stays. -/
theorem Bv.keep {w w' : World} {V lo : Nat} {k : Int} {ns : List (List UInt8)} {is : List Js} {a1 : Option Addr} {c1 : Nat} {a2 : Option Addr} {c2 : Nat} {xs : List Value} (h : Bv w V lo k ns is a1 c1 a2 c2 xs) (e : ∀ k, lo ≤ k ∨ k = V → k < w.heap.size → w'.heap[k]? = w.heap[k]?) (hs : w.heap.size ≤ w'.heap.size) : Bv w' V lo k ns is a1 c1 a2 c2 xs :=
 { h with
  row := (e V (.inr rfl) h.lt).trans h.row
  nm := owns_same h.nm (fun k hk => e k (.inl (owns_lt h.nm k hk).1) (owns_lt h.nm k hk).2)
  it := owns_same h.it (fun k hk => e k (.inl (owns_lt h.it k hk).1) (owns_lt h.it k hk).2)
  el := fun m j hj => by
   obtain ⟨v, h1, h2⟩ := h.el m j hj
   exact ⟨v, h1, JV.keep (fun k hk => ⟨⟨hk.1, by have := hk.2.1; omega, hk.2.2⟩, e k (.inl hk.1) hk.2.1⟩) j v h2⟩ }
theorem Bv.mv {w w' : World} {V lo P : Nat} {k : Int} {ns : List (List UInt8)} {is : List Js} {a1 : Option Addr} {c1 : Nat} {a2 : Option Addr} {c2 : Nat} {xs : List Value} (h : Bv w V lo k ns is a1 c1 a2 c2 xs) (m : Mv w w' P) (hP : P < lo) (hPV : P ≠ V) : Bv w' V lo k ns is a1 c1 a2 c2 xs :=
 h.keep (fun k hk hl => m.block k hl (fun e => by have := Option.some.inj e; rcases hk with hk | hk <;> omega)) m.size
theorem Bv.below {w w' : World} {V lo : Nat} {k : Int} {ns : List (List UInt8)} {is : List Js} {a1 : Option Addr} {c1 : Nat} {a2 : Option Addr} {c2 : Nat} {xs : List Value} (h : Bv w V lo k ns is a1 c1 a2 c2 xs) (m : Below w.heap.size w w') : Bv w' V lo k ns is a1 c1 a2 c2 xs :=
 h.keep (fun k hk hl => m.block k hl) m.size
/-- One item more. -/
theorem Bv.push {u w2 w4 : World} {V lo old : Nat} {k : Int} {ns : List (List UInt8)} {is : List Js} {a1 : Option Addr} {c1 : Nat} {a2 : Option Addr} {c2 : Nat} {xs : List Value} (h : Bv u V lo k ns is a1 c1 a2 c2 xs) {v0 v1 v2 v3 v4 : Value} {j : Js} (hj : JV u (fun k => old ≤ k ∧ k < u.heap.size) (.agg #[v0, v1, v2, v3, v4]) j) (hold : lo ≤ old) (hV : V < old) (h1 : ∀ k, blk a1 = some k → k < old) (h2 : ∀ k, blk a2 = some k → k < old)
  {g cap : Nat} (hg : u.grownBy w2 (blk a2)) (hat : blk a2 = some g ∨ g = u.heap.size) (hgl : g < w2.heap.size)
  (hr : w4.heap[V]? = some (.cells #[.int .i64 k, .int .i64 0, .string ⟨#[]⟩, .slice a1 ns.length c1, .slice (some ⟨g, 0, none⟩) (is.length + 1) cap] 44 (0, 0)))
  (ho : OwnJ w4 lo (some ⟨g, 0, none⟩) cap (is.length + 1) (xs ++ [v0, v1, v2, v3, v4])) (hk : ∀ k, k ≠ V → k ≠ g → w4.heap[k]? = w2.heap[k]?) (hs : w4.heap.size = w2.heap.size) :
  Bv w4 V lo k ns (is ++ [j]) a1 c1 (some ⟨g, 0, none⟩) cap (xs ++ [v0, v1, v2, v3, v4]) := by
 have hxl : xs.length = is.length * 5 := h.it.1
 have hbg : blk (some (⟨g, 0, none⟩ : Addr)) = some g := rfl
 have hgV : g ≠ V := by
  rintro rfl
  rcases hat with e | e
  ·exact h.v2 e
  ·have := h.lt; omega
 have hg1 : ∀ m, blk a1 = some m → m ≠ g := by
  rintro m hm rfl
  rcases hat with e | e
  ·exact h.v3 m hm e
  ·have := (owns_lt h.nm m hm).2; omega
 have blkU : ∀ m, m < u.heap.size → m ≠ V → m ≠ g → blk a2 ≠ some m → w4.heap[m]? = u.heap[m]? := fun m hm n1 n2 n3 => (hk m n1 n2).trans (hg.block m hm (fun e => n3 e.symm))
 refine ⟨by rw [List.length_append]; exact hr, owns_same h.nm (fun m hm => blkU m (owns_lt h.nm m hm).2 (fun e => h.v1 (by rw [hm, e])) (hg1 m hm) (h.v3 m hm)), ?_, ?_, h.v1, by rw [hbg]; exact fun e => hgV (Option.some.inj e), fun m hm e => hg1 m hm (Option.some.inj (hbg.symm.trans e)).symm⟩
 ·rw [List.length_append]; exact ho
 ·intro m x hx
  have sz : u.heap.size ≤ w4.heap.size := by rw [hs]; exact hg.size
  by_cases hm : m < is.length
  ·rw [List.getElem?_append_left hm] at hx
   obtain ⟨v, ⟨z0, z1, z2, z3, z4, e0, q0, q1, q2, q3, q4⟩, hv⟩ := h.el m x hx
   refine ⟨v, ⟨z0, z1, z2, z3, z4, e0, ?_, ?_, ?_, ?_, ?_⟩, JV.keep (fun b hb => ?_) x v hv⟩
   ·rw [List.getElem?_append_left (by omega)]; exact q0
   ·rw [List.getElem?_append_left (by omega)]; exact q1
   ·rw [List.getElem?_append_left (by omega)]; exact q2
   ·rw [List.getElem?_append_left (by omega)]; exact q3
   ·rw [List.getElem?_append_left (by omega)]; exact q4
   ·have hbn : b ≠ g := by
     rintro rfl
     rcases hat with e | e
     ·exact hb.2.2.2.2 e
     ·have := hb.2.1; omega
    exact ⟨⟨hb.1, by have := hb.2.1; omega, hb.2.2.1, hb.2.2.2.1, by rw [hbg]; exact fun e => hbn (Option.some.inj e).symm⟩, blkU b hb.2.1 hb.2.2.1 hbn hb.2.2.2.2⟩
  ·have hlt := (List.getElem?_eq_some_iff.1 hx).1
   simp at hlt
   obtain rfl : m = is.length := by omega
   simp at hx
   subst hx
   refine ⟨_, ⟨v0, v1, v2, v3, v4, rfl, ?_, ?_, ?_, ?_, ?_⟩, JV.keep (fun b hb => ?_) j _ hj⟩
   ·rw [List.getElem?_append_right (by omega), show is.length * 5 - xs.length = 0 by omega]; rfl
   ·rw [List.getElem?_append_right (by omega), show is.length * 5 + 1 - xs.length = 1 by omega]; rfl
   ·rw [List.getElem?_append_right (by omega), show is.length * 5 + 2 - xs.length = 2 by omega]; rfl
   ·rw [List.getElem?_append_right (by omega), show is.length * 5 + 3 - xs.length = 3 by omega]; rfl
   ·rw [List.getElem?_append_right (by omega), show is.length * 5 + 4 - xs.length = 4 by omega]; rfl
   ·have n2 : blk a2 ≠ some b := fun e => by have := h2 b e; omega
    have n1 : blk a1 ≠ some b := fun e => by have := h1 b e; omega
    have hbn : b ≠ g := by
     rintro rfl
     rcases hat with e | e
     ·exact n2 e
     ·omega
    exact ⟨⟨by omega, by omega, by omega, n1, by rw [hbg]; exact fun e => hbn (Option.some.inj e).symm⟩, blkU b hb.2 (by omega) hbn n2⟩
/-- What was there stays, but for the parser, the value and what lies from lo on. -/
structure Lm (w w' : World) (P V lo : Nat) : Prop where
 os : w'.os = w.os
 tape : w'.tape = w.tape
 output : w'.output = w.output
 size : w.heap.size ≤ w'.heap.size
 block : ∀ k, k < lo → k ≠ P → k ≠ V → w'.heap[k]? = w.heap[k]?
theorem Lm.refl (w : World) (P V lo : Nat) : Lm w w P V lo := ⟨rfl, rfl, rfl, Nat.le_refl _, fun _ _ _ _ => rfl⟩
theorem Lm.trans {a b c : World} {P V lo : Nat} (x : Lm a b P V lo) (y : Lm b c P V lo) : Lm a c P V lo := ⟨y.os.trans x.os, y.tape.trans x.tape, y.output.trans x.output, Nat.le_trans x.size y.size, fun k h1 h2 h3 => (y.block k h1 h2 h3).trans (x.block k h1 h2 h3)⟩
theorem Lm.ofMv {w w' : World} {P V lo : Nat} (m : Mv w w' P) (h : lo ≤ w.heap.size) : Lm w w' P V lo := ⟨m.os, m.tape, m.output, m.size, fun k h1 h2 _ => m.block k (by omega) (fun e => h2 (Option.some.inj e))⟩
theorem Lm.ofG {w w' : World} {P V lo : Nat} {row : Option Nat} (m : w.grownBy w' row) (h : lo ≤ w.heap.size) (hr : ∀ k, row = some k → lo ≤ k) : Lm w w' P V lo := ⟨m.os, m.tape, m.output, m.size, fun k h1 h2 _ => m.block k (by omega) (fun e => by have := hr k e.symm; omega)⟩
theorem Lm.set {w : World} {P V lo b o : Nat} {x : Value} (h : b = V ∨ lo ≤ b) : Lm w (w.setCell ⟨b, o, none⟩ x) P V lo := by
 have g := grownBy_setCell w ⟨b, o, none⟩ x
 exact ⟨g.os, g.tape, g.output, g.size, fun k h1 h2 h3 => Below.heap_setCell _ ⟨b, o, none⟩ _ k (by simp only; rcases h with rfl | h; exact h3; omega)⟩
/-- append(items, nothing), as a step of a region that draws its order. -/
theorem stp_appz (w : World) {ops : Array Oper} {o : Oper} {a : Act} {K : Act → World → Prop} {Q : Exit → Act → World → Prop} {E : Prop} (hgd : o.guard = none) (s x : Operand)
  (ho : o.op = .call { callee := .builtin .append, args := #[s, x], argTypes := #[42, 42] })
  (base : Nat) (a1 : Option Addr) (cap1 n1 : Nat) (xs : List Value) (hs : a.eval s = .slice a1 n1 cap1) (hown : OwnJ w base a1 cap1 n1 xs)
  (B c2 : Nat) (hx : a.eval x = .slice (some ⟨B, 0, none⟩) 1 c2) (hsrc : w.heap[B]? = some (.cells zJ.toArray 44 (0, 0))) (hlen : n1 ≤ 1000000) (hb : base ≤ w.heap.size)
  (h : ∀ g cap w', Hid (OwnJ w' base (some ⟨g, 0, none⟩) cap (n1 + 1) (xs ++ zJ)) → Hid (w.grownBy w' (blk a1)) → Hid (blk a1 = some g ∨ g = w.heap.size) → Hid (g < w'.heap.size) → K (a.put o.dst (.slice (some ⟨g, 0, none⟩) (n1 + 1) cap)) w') :
  if Region.wanted o (yielded ops a.tmps) = true then Oper.wp Tryz.prog o a w K Q else E := by
 obtain ⟨i, hi, hz0, hz1, hz2⟩ := info_parts Tryz.infoJ
 refine step_append_lies w hgd s x 42 ho base 44 i _ 5 80 Tryz.underlying42 hi hz0 hz1 hz2 rfl (by decide) _ _ _ hs hown ⟨B, 0, none⟩ 1 c2 zJ hx rfl ?_ (by simp [zJ, Value.oneCell']) (by decide) (by unfold maxLen; omega) (by omega) hb _ rfl ?_
 ·intro j u hu
  rw [addr_add, Nat.zero_add, cell_of_row w B j _ _ _ hsrc]
  simpa using hu
 ·intro g cap w' h1 h2 h3 h4
  have hblk : (Value.slice a1 n1 cap1).ownBlock = blk a1 := by cases a1 <;> rfl
  rw [hblk] at h2 h3
  exact h g cap w' h1 h2 h3 h4
theorem set5 (xs : List Value) (n : Nat) (hx : xs.length = n * 5) (v0 v1 v2 v3 v4 : Value) : (((((xs ++ zJ).set (n * 5) v0).set (n * 5 + 1) v1).set (n * 5 + 2) v2).set (n * 5 + 3) v3).set (n * 5 + 4) v4 = xs ++ [v0, v1, v2, v3, v4] := by
 have k : ∀ (l : List Value) (m : Nat) (v : Value), (xs ++ l).set (n * 5 + m) v = xs ++ l.set m v := fun l m v => by
  rw [List.set_append_right _ _ (by omega), show n * 5 + m - xs.length = m by omega]
 have k0 := k zJ 0 v0
 rw [Nat.add_zero] at k0
 rw [k0, k, k, k, k]
 rfl
/-- What a value that is read looks like. -/
theorem JV.form {w : World} {S : Nat → Prop} {v : Value} {j : Js} (h : JV w S v j) : ∃ (k n : Int) (t : List UInt8) (a1 : Option Addr) (n1 c1 : Nat) (a2 : Option Addr) (n2 c2 : Nat), v = .agg #[.int .i64 k, .int .i64 n, .string (str t), .slice a1 n1 c1, .slice a2 n2 c2] := by
 cases j with
 | mk k n t ns is =>
  simp only [JV] at h
  obtain ⟨a1, c1, a2, c2, h1, _⟩ := h
  exact ⟨k, n, t, a1, _, c1, a2, _, c2, h1⟩
end Go.Proofs.YtmpjeahibfdehaaGreatDoor
end
section
set_option linter.unusedVariables false
set_option maxRecDepth 1000000
namespace Go.Proofs.YtmpjeahibfdehaaGreatDoor
open Go.RowKit

/-- Members one behind the other. -/
def meL {σ : Type} (mb : σ → List UInt8 → Rs σ) : Nat → σ → List UInt8 → Rs σ
 | 0, _, _ => .no [] 40
 | f + 1, s, l => match mb s l with
  | .no r y => .no r y
  | .ok s' r => match skB r with
   | [] => .ok s' []
   | c :: r2 => if c = 44 then meL mb f s' (skB r2) else .ok s' (c :: r2)
/-- Behind a member and blanks. -/
def meT {σ : Type} (mb : σ → List UInt8 → Rs σ) (f : Nat) (s : σ) (l : List UInt8) : Rs σ :=
 match l with
 | [] => .ok s []
 | c :: r2 => if c = 44 then meL mb f s (skB r2) else .ok s (c :: r2)
theorem meL_step {σ : Type} (mb : σ → List UInt8 → Rs σ) (f : Nat) (s : σ) (l : List UInt8) : meL mb (f + 1) s l = match mb s l with | .no r y => .no r y | .ok s' r => meT mb f s' (skB r) := rfl
/-- The bracket that closes. -/
def clM {σ : Type} (cl : UInt8) (m : Rs σ) : Rs σ := match m with
 | .no r y => .no r y
 | .ok a r => match tkM cl r with
  | .no r2 y => .no r2 y
  | .ok _ r2 => .ok a r2
theorem mm_cl {σ : Type} (cl : UInt8) (z : σ) (L : List UInt8 → Rs σ) (l : List UInt8) : mmM cl z L l = clM cl (match skB l with | [] => L [] | c :: r => if c = cl then .ok z (c :: r) else L (c :: r)) := rfl
/-- What comes of the whole. -/
def MeP {σ : Type} (I : World → σ → Nat → Prop) (w : World) (P V lo d : Nat) (T : List UInt8) (M : Rs σ) (e : Ending) (w' : World) : Prop :=
 (∃ s a' n, M = .ok s (T.drop a') ∧ e = .returned (.tuple #[]) ∧ Pa w' P T a' d ∧ Lm w w' P V lo ∧ I w' s n) ∨ (∃ y a', M = .no (T.drop a') y ∧ e = flt a' y ∧ a' ≤ T.length ∧ Lm w w' P V lo)
theorem MeP.nay {σ : Type} {I : World → σ → Nat → Prop} {w : World} {P V lo d : Nat} {T : List UInt8} {M : Rs σ} {w' : World} {y a' : Nat} (h1 : M = .no (T.drop a') y) (h2 : a' ≤ T.length) (h3 : Lm w w' P V lo) : MeP I w P V lo d T M (flt a' y) w' := .inr ⟨y, a', h1, rfl, h2, h3⟩
theorem dlen {T : List UInt8} {a b : Nat} (h : (T.drop b).length ≤ (T.drop a).length) (hb : b ≤ T.length) (ha : a ≤ T.length) : a ≤ b := by simp at h; omega
set_option maxHeartbeats 1000000 in
theorem members_deep (P : Nat) (T : List UInt8) (a : Nat) (x FV : Value) (w : World) (h : Pa w P T a 16) :
  Calls Tryz.prog 137 #[.pointer (some ⟨P, 0, none⟩), x, FV] w fun e w' => e = flt a 41 ∧ w' = w := by
 obtain ⟨c0, c1, c2, cf⟩ := h.cells
 rw [show ((16 : Nat) : Int) = 16 from rfl] at c2
 have HG := hide (giveUp_any P T a 16 41 w h)
 clear h cf c0 c1
 go_enter Tryz.func137, Tryz.ntmps137
 go_wp2_with fail
 refine (uh HG).mono ?_
 rintro e w5 ⟨rfl, hw5⟩
 subst hw5
 exact ⟨rfl, rfl, rfl⟩
set_option maxHeartbeats 8000000 in
theorem members_l {σ : Type} (P : Nat) (T : List UInt8) (d V lo : Nat) (Q : Nat) (cl : UInt8) (mb : σ → List UInt8 → Rs σ) (I : World → σ → Nat → Prop)
  (hI : ∀ w w' s n, I w s n → lo ≤ w.heap.size → Mv w w' P → I w' s n)
  (hMem : ∀ (w : World) (a : Nat) (s : σ) (n : Nat), Pa w P T a (d + 1) → I w s n → lo ≤ w.heap.size → n ≤ 65536 → Calls Tryz.prog 139 #[.pointer (some ⟨V, 0, none⟩), .pointer (some ⟨Q, 0, none⟩)] w fun e w' => (∃ s' a', mb s (T.drop a) = .ok s' (T.drop a') ∧ e = .returned (.tuple #[]) ∧ Pa w' P T a' (d + 1) ∧ Lm w w' P V lo ∧ I w' s' (n + 1)) ∨ (∃ y a', mb s (T.drop a) = .no (T.drop a') y ∧ e = flt a' y ∧ a' ≤ T.length ∧ Lm w w' P V lo))
  (hlen : ∀ s l s' r, mb s l = .ok s' r → r.length ≤ l.length) (a : Nat) (s0 : σ) (c : UInt8) (r : List UInt8) (w : World) (h : Pa w P T a d) (hd : d < 16) (hl : T.drop a = c :: r) (hI0 : I w s0 0) (hsz : lo ≤ w.heap.size) :
  Calls Tryz.prog 137 #[.pointer (some ⟨P, 0, none⟩), .int .u8 (cl.toNat : Int), .func (.func 139) #[] #[.pointer (some ⟨V, 0, none⟩), .pointer (some ⟨Q, 0, none⟩)]] w fun e w' => MeP I w P V lo d T (mmM cl s0 (fun l => meL mb (l.length + 1) s0 l) r) e w' := by
 obtain ⟨hlt, _, hdr⟩ := drop_cons hl
 have hbig := h.big
 obtain ⟨RES, hRES⟩ : ∃ RES, RES = mmM cl s0 (fun l => meL mb (l.length + 1) s0 l) r := ⟨_, rfl⟩
 rw [← hRES]
 rw [mm_cl, ← hdr] at hRES
 obtain ⟨W1, hW1⟩ : ∃ W1, W1 = w.setCell ⟨P, 2, none⟩ (.int .i64 ((d : Int) + 1)) := ⟨_, rfl⟩
 have hP1 : Pa W1 P T a (d + 1) := by
  have := h.around (d + 1) (by omega)
  rw [show ((d + 1 : Nat) : Int) = (d : Int) + 1 by omega, ← hW1] at this
  exact this
 have hM1 : Mv w W1 P := by rw [hW1]; exact Mv.set _ _ _ _
 obtain ⟨k1, k2⟩ := hP1.inc hlt
 obtain ⟨W2, hW2⟩ : ∃ W2, W2 = W1.setCell ⟨P, 1, none⟩ (.int .i64 ((a : Int) + 1)) := ⟨_, rfl⟩
 rw [← hW2] at k1 k2
 have hM2 : Mv w W2 P := hM1.trans k2
 have HB := hide (blanks_any P T (a + 1) (d + 1) W2 k1)
 have HI2 := hide (hI w W2 s0 0 hI0 hsz hM2)
 have HM2 := hide hM2
 obtain ⟨c0, c1, c2, cf⟩ := h.cells
 have f2 := cf 2
 obtain ⟨e0, e1, e2, ef⟩ := hP1.cells
 have g1 := ef 1
 have hd16 : ¬ (d : Int) = 16 := by omega
 have HIK := hide hI
 have HMem := hide hMem
 have HLen := hide hlen
 have HSZ := hide hsz
 have HRES := hide hRES
 have hab : a + 1 ≤ T.length := hlt
 have hc256 := cl.toNat_lt
 have hwr : wrap64 (cl.toNat : Int) = (cl.toNat : Int) := by unfold wrap64; omega
 clear h hP1 hM1 k1 k2 hM2 cf ef c0 e0 e2 hI hMem hlen hI0 hsz hRES hl hlt hdr
 go_enter Tryz.func137, Tryz.ntmps137
 go_upto_region 3 with fail
 rw [← hW1]
 clear hW1 c1 c2 f2
 go_upto_region 4 with fail
 rw [← hW2]
 clear hW2 e1 g1
 go_wp2_with fail
 refine (uh HB).mono ?_
 rintro e w3 ⟨a3, rfl, HP3, HM3, HS3⟩
 have HI3 := hide (uh HIK W2 w3 s0 0 (uh HI2) (Nat.le_trans (uh HSZ) (uh HM2).size) (uh HM3))
 have HMw : Hid (Mv w w3 P) := (uh HM2).trans (uh HM3)
 have HRES3 : Hid (RES = clM cl (match T.drop a3 with | [] => meL mb 1 s0 [] | c :: r => if c = cl then .ok s0 (c :: r) else meL mb ((c :: r).length + 1) s0 (c :: r))) := by show _ = _; rw [uh HRES, uh HS3]; cases T.drop a3 <;> rfl
 have HN3 := hide (next_any P T a3 (d + 1) w3 (uh HP3))
 have hle3 := (uh HP3).le
 have ha3 : a + 1 ≤ a3 := dlen (by rw [← uh HS3]; exact skB_le _) hle3 hab
 have HEnd : Hid (∀ (wx : World) (s : σ) (n ax : Nat), Pa wx P T ax (d + 1) → Lm w wx P V lo → I wx s n → lo ≤ wx.heap.size → Calls Tryz.prog 105 #[.pointer (some ⟨P, 0, none⟩), .int .u8 (cl.toNat : Int)] wx fun e w' => (∃ a', clM cl (.ok s (T.drop ax)) = .ok s (T.drop a') ∧ e = .returned (.tuple #[]) ∧ Pa w' P T a' (d + 1) ∧ Lm w w' P V lo ∧ I w' s n) ∨ (∃ y a', clM cl (.ok s (T.drop ax)) = .no (T.drop a') y ∧ e = flt a' y ∧ a' ≤ T.length ∧ Lm w w' P V lo)) := by
  intro wx s n ax hx hlm hix hsx
  refine (take_any P T ax (d + 1) cl wx hx).mono ?_
  rintro e w' (⟨v, val, a', hM, rfl, hP', hM', hval⟩ | ⟨y, a', hM, rfl, h2, h3⟩)
  ·obtain rfl : val = .tuple #[] := hval
   exact .inl ⟨a', by simp only [clM, hM], rfl, hP', hlm.trans (Lm.ofMv hM' hsx), uh HIK wx w' s n hix hsx hM'⟩
  ·exact .inr ⟨y, a', by simp only [clM, hM], rfl, h2, hlm.trans (Lm.ofMv h3 hsx)⟩
 clear HB HI2 HM2 HM3 HS3 HRES
 have HSZ3 : Hid (lo ≤ w3.heap.size) := Nat.le_trans (uh HSZ) (uh HMw).size
 have HL3 : Hid (Lm w w3 P V lo) := Lm.ofMv (uh HMw) (uh HSZ)
 by_cases hcl : nxI (T.drop a3) = (cl.toNat : Int)
 ·obtain ⟨r3, hr3⟩ : ∃ r3, T.drop a3 = cl :: r3 := by
   cases hl3 : T.drop a3 with
   | nil => rw [hl3] at hcl; simp [nxI] at hcl
   | cons x r3 =>
    rw [hl3] at hcl
    simp only [nxI] at hcl
    exact ⟨r3, by rw [show x = cl from UInt8.toNat_inj.1 (by omega)]⟩
  rw [hcl] at HN3
  have HRES4 : Hid (RES = clM cl (.ok s0 (T.drop a3))) := by show _ = _; rw [uh HRES3, hr3]; simp
  clear HRES3 hcl
  go_wp2_with fail
  refine (uh HN3).mono ?_
  rintro e w4 ⟨rfl, HP4, HB4⟩
  have HI4 := hide (uh HIK w3 w4 s0 0 (uh HI3) (uh HSZ3) (Mv.ofB (uh HB4)))
  have HT := hide (uh HEnd w4 s0 0 a3 (uh HP4) ((uh HL3).trans (Lm.ofMv (Mv.ofB (uh HB4)) (uh HSZ3))) (uh HI4) (Nat.le_trans (uh HSZ3) (uh HB4).size))
  clear HN3 HEnd
  go_wp2_with fail
  refine (uh HT).mono ?_
  rintro e w5 (⟨a5, hM5, rfl, hP5, hL5, hI5⟩ | ⟨y, a5, hM5, rfl, h2, h3⟩)
  ·obtain ⟨q0, q1, q2, qf⟩ := hP5.cells
   have fq := qf 2
   rw [show ((d + 1 : Nat) : Int) = (d : Int) + 1 by omega] at q2
   have HPF : Hid (Pa (w5.setCell ⟨P, 2, none⟩ (.int .i64 (d : Int))) P T a5 d) := hP5.around d (by omega)
   have HLF : Hid (Lm w (w5.setCell ⟨P, 2, none⟩ (.int .i64 (d : Int))) P V lo) := hL5.trans (Lm.ofMv (Mv.set _ _ _ _) (Nat.le_trans (uh HSZ) hL5.size))
   have HIF := hide (uh HIK w5 (w5.setCell ⟨P, 2, none⟩ (.int .i64 (d : Int))) _ _ hI5 (Nat.le_trans (uh HSZ) hL5.size) (Mv.set _ _ _ _))
   have HRF := hide (uh HRES4 |>.trans hM5)
   clear HT hP5 hL5 hI5 hM5 qf q0 q1
   go_wp2_with fail
   go_end0
   exact .inl ⟨_, a5, _, uh HRF, rfl, uh HPF, uh HLF, uh HIF⟩
  ·exact ⟨rfl, MeP.nay (by rw [uh HRES4, hM5]) h2 h3⟩
 ·have hcl2 : (T.drop a3).head? ≠ some cl := by
   intro e
   apply hcl
   cases hl3 : T.drop a3 with
   | nil => rw [hl3] at e; simp at e
   | cons x r3 => rw [hl3] at e; simp at e; subst e; rfl
  have HRES4 : Hid (RES = clM cl (meL mb ((T.drop a3).length + 1) s0 (T.drop a3))) := by
   show _ = _
   rw [uh HRES3]
   cases hl3 : T.drop a3 with
   | nil => rfl
   | cons x r3 =>
    have : ¬ x = cl := by rw [hl3] at hcl2; simpa using hcl2
    simp only
    rw [if_neg this]
  obtain ⟨X, hX⟩ : ∃ X, nxI (T.drop a3) = X := ⟨_, rfl⟩
  rw [hX] at HN3 hcl
  clear HRES3 hcl2 hX
  go_wp2_with fail
  refine (uh HN3).mono ?_
  rintro e w4 ⟨rfl, HP4, HB4⟩
  have HI4 := hide (uh HIK w3 w4 s0 0 (uh HI3) (uh HSZ3) (Mv.ofB (uh HB4)))
  have HL4 : Hid (Lm w w4 P V lo) := (uh HL3).trans (Lm.ofMv (Mv.ofB (uh HB4)) (uh HSZ3))
  have HSZ4 : Hid (lo ≤ w4.heap.size) := Nat.le_trans (uh HSZ3) (uh HB4).size
  have HMm := hide (uh HMem w4 a3 s0 0 (uh HP4) (uh HI4) (uh HSZ4) (by omega))
  rw [meL_step] at HRES4
  clear HN3
  go_wp2_with fail
  refine (uh HMm).mono ?_
  rintro e w5 (⟨s5, a5, hM5, rfl, hP5, hL5, hI5⟩ | ⟨y, a5, hM5, rfl, h2, h3⟩)
  rotate_left 1
  ·rw [hM5] at HRES4
   exact ⟨rfl, MeP.nay (uh HRES4) h2 ((uh HL4).trans h3)⟩
  rw [hM5] at HRES4
  simp only at HRES4
  have hln5 := uh HLen _ _ _ _ hM5
  have ha5 := dlen hln5 hP5.le hle3
  have HBl := hide (blanks_any P T a5 (d + 1) w5 hP5)
  have HL5 : Hid (Lm w w5 P V lo) := (uh HL4).trans hL5
  have HSZ5 : Hid (lo ≤ w5.heap.size) := Nat.le_trans (uh HSZ4) hL5.size
  have HI5 := hide hI5
  have HLN5 := hide hln5
  clear HMm hP5 hL5 hI5 hM5 hln5 HI4 HI3
  go_wp2_with fail
  refine (uh HBl).mono ?_
  rintro e w6 ⟨a6, rfl, HP6, HM6, HS6⟩
  have hle6 := (uh HP6).le
  have hsk : (T.drop a6).length ≤ (T.drop a5).length := by rw [← uh HS6]; exact skB_le _
  rw [uh HS6] at HRES4
  have hln5 : (T.drop a5).length ≤ (T.drop a3).length := uh HLN5
  have hln6 : (T.drop a6).length ≤ (T.drop a3).length := Nat.le_trans hsk hln5
  have ha6 : a3 ≤ a6 := dlen hln6 hle6 hle3
  have h1a6 : 1 ≤ a6 := by omega
  have HI6 := hide (uh HIK w5 w6 s5 1 (uh HI5) (uh HSZ5) (uh HM6))
  have HL6 : Hid (Lm w w6 P V lo) := (uh HL5).trans (Lm.ofMv (uh HM6) (uh HSZ5))
  have HF6 := hide hln6
  obtain ⟨F6, hF6⟩ : ∃ F6, F6 = (T.drop a3).length := ⟨_, rfl⟩
  rw [← hF6] at HF6 HRES4
  clear HBl HI5 HL5 HSZ5 HLN5 hln5 hsk hln6 HS6 HM6 ha6 hF6 HP3 HP4 HB4 HL3 HL4 HSZ3 HSZ4 HMw
  go_wp2_with fail
  go_loopw [38] (fun _ wr => ∃ (F a' n : Nat) (s : σ), Hid (Pa wr P T a' (d + 1)) ∧ Hid (Lm w wr P V lo) ∧ Hid (I wr s n) ∧ n ≤ a' ∧ Hid ((T.drop a').length ≤ F) ∧ Hid (RES = clM cl (meT mb F s (T.drop a')))) (fun _ wr => 70000 - (match wr.cell? ⟨P, 1, none⟩ with | some (.int .i64 x) => x.toNat | _ => 0))
  case atStart => exact ⟨F6, a6, 1, s5, HP6, HL6, HI6, h1a6, HF6, HRES4⟩
  case round =>
   clear HP6 HL6 HI6 h1a6 HF6 HRES4
   obtain ⟨F, a', n, s, HPr, HLr, HIr, hna, HFr, HSr⟩ := hrel
   have hle := (uh HPr).le
   have hcl' := (uh HPr).cells.2.1
   have HN := hide (next_any P T a' (d + 1) wr (uh HPr))
   have HSZr : Hid (lo ≤ wr.heap.size) := Nat.le_trans (uh HSZ) (uh HLr).size
   by_cases h44 : nxI (T.drop a') = 44
   ·obtain ⟨r', hr'⟩ : ∃ r', T.drop a' = 44 :: r' := by
     cases hl4 : T.drop a' with
     | nil => rw [hl4] at h44; simp [nxI] at h44
     | cons x r' =>
      rw [hl4] at h44
      simp only [nxI] at h44
      exact ⟨r', by rw [show x = 44 from UInt8.toNat_inj.1 (by show x.toNat = 44; omega)]⟩
    obtain ⟨hlt, _, hdr⟩ := drop_cons hr'
    obtain ⟨f, rfl⟩ : ∃ f, F = f + 1 := ⟨F - 1, by have h9 : (T.drop a').length ≤ F := HFr; rw [hr'] at h9; simp at h9; omega⟩
    have hfr : r'.length ≤ f := by have h9 : (T.drop a').length ≤ f + 1 := HFr; rw [hr'] at h9; simp at h9; omega
    rw [h44] at HN
    have HS7 : Hid (RES = clM cl (meL mb (f + 1) s (skB (T.drop (a' + 1))))) := by show _ = _; rw [uh HSr, hr', hdr]; simp [meT]
    clear HSr HFr h44
    go_wp2_with fail
    refine (uh HN).mono ?_
    rintro e w7 ⟨rfl, HP7, HB7⟩
    obtain ⟨q0, q1, q2, qf⟩ := (uh HP7).cells
    have fq := qf 1
    obtain ⟨k1, k2⟩ := (uh HP7).inc hlt
    obtain ⟨W8, hW8⟩ : ∃ W8, W8 = w7.setCell ⟨P, 1, none⟩ (.int .i64 ((a' : Int) + 1)) := ⟨_, rfl⟩
    rw [← hW8] at k1 k2
    have HM8 : Hid (Mv wr W8 P) := (Mv.ofB (uh HB7)).trans k2
    have HB8 := hide (blanks_any P T (a' + 1) (d + 1) W8 k1)
    clear HN qf q0 q2 k1 k2
    go_wp2_with fail
    rw [← hW8]
    clear hW8 q1 fq
    refine (uh HB8).mono ?_
    rintro e w9 ⟨a9, rfl, HP9, HM9, HS9⟩
    have hle9 := (uh HP9).le
    have hsk9 : (T.drop a9).length ≤ (T.drop (a' + 1)).length := by rw [← uh HS9]; exact skB_le _
    rw [uh HS9, meL_step] at HS7
    have ha9 : a' + 1 ≤ a9 := dlen hsk9 hle9 hlt
    have HM9' : Hid (Mv wr w9 P) := (uh HM8).trans (uh HM9)
    have HI9 := hide (uh HIK wr w9 s n (uh HIr) (uh HSZr) (uh HM9'))
    have HL9 : Hid (Lm w w9 P V lo) := (uh HLr).trans (Lm.ofMv (uh HM9') (uh HSZr))
    have HSZ9 : Hid (lo ≤ w9.heap.size) := Nat.le_trans (uh HSZr) (uh HM9').size
    have HMm := hide (uh HMem w9 a9 s n (uh HP9) (uh HI9) (uh HSZ9) (by omega))
    have hlf : (T.drop a9).length ≤ f := by rw [hdr] at hsk9; omega
    clear HB8 HM8 HM9 HS9 hsk9 hfr
    go_wp2_with fail
    refine (uh HMm).mono ?_
    rintro e wa (⟨sa, aa, hMa, rfl, hPa, hLa, hIa⟩ | ⟨y, aa, hMa, rfl, h2, h3⟩)
    rotate_left 1
    ·rw [hMa] at HS7
     exact ⟨rfl, MeP.nay (uh HS7) h2 ((uh HL9).trans h3)⟩
    rw [hMa] at HS7
    simp only at HS7
    have hlna := uh HLen _ _ _ _ hMa
    have haa := dlen hlna hPa.le hle9
    have hleA := hPa.le
    have HBl := hide (blanks_any P T aa (d + 1) wa hPa)
    have HLa : Hid (Lm w wa P V lo) := (uh HL9).trans hLa
    have HSZa : Hid (lo ≤ wa.heap.size) := Nat.le_trans (uh HSZ9) hLa.size
    have HIa := hide hIa
    clear HMm hPa hLa hIa hMa
    go_wp2_with fail
    refine (uh HBl).mono ?_
    rintro e wb ⟨ab, rfl, HPb, HMb, HSb⟩
    have hleb := (uh HPb).le
    have hskb : (T.drop ab).length ≤ (T.drop aa).length := by rw [← uh HSb]; exact skB_le _
    rw [uh HSb] at HS7
    have hab2 : aa ≤ ab := dlen hskb hleb hleA
    have HIb := hide (uh HIK wa wb sa (n + 1) (uh HIa) (uh HSZa) (uh HMb))
    have HLb : Hid (Lm w wb P V lo) := (uh HLa).trans (Lm.ofMv (uh HMb) (uh HSZa))
    have HFb : Hid ((T.drop ab).length ≤ f) := Nat.le_trans hskb (Nat.le_trans hlna hlf)
    clear HBl hskb hlna hlf HSb
    go_wp2_with fail
    go_roundw
    case rel => exact ⟨f, ab, n + 1, sa, HPb, HLb, HIb, by omega, HFb, HS7⟩
    case measure =>
     have e1 := (uh HPb).cells.2.1
     rw [hcl', e1]
     simp only
     omega
   ·have HRES4 : Hid (RES = clM cl (.ok s (T.drop a'))) := by
     show _ = _
     rw [uh HSr]
     cases hl4 : T.drop a' with
     | nil => rfl
     | cons x r' =>
      have : ¬ x = 44 := by rintro rfl; apply h44; rw [hl4]; rfl
      simp [meT, this]
    obtain ⟨X, hX⟩ : ∃ X, nxI (T.drop a') = X := ⟨_, rfl⟩
    rw [hX] at HN h44
    clear HSr hX
    go_wp2_with fail
    refine (uh HN).mono ?_
    rintro e w4 ⟨rfl, HP4, HB4⟩
    have HI4 := hide (uh HIK wr w4 s n (uh HIr) (uh HSZr) (Mv.ofB (uh HB4)))
    have HT := hide (uh HEnd w4 s n a' (uh HP4) ((uh HLr).trans (Lm.ofMv (Mv.ofB (uh HB4)) (uh HSZr))) (uh HI4) (Nat.le_trans (uh HSZr) (uh HB4).size))
    clear HN HEnd
    go_wp2_with fail
    refine (uh HT).mono ?_
    rintro e w5 (⟨a5, hM5, rfl, hP5, hL5, hI5⟩ | ⟨y, a5, hM5, rfl, h2, h3⟩)
    ·obtain ⟨q0, q1, q2, qf⟩ := hP5.cells
     have fq := qf 2
     rw [show ((d + 1 : Nat) : Int) = (d : Int) + 1 by omega] at q2
     have HPF : Hid (Pa (w5.setCell ⟨P, 2, none⟩ (.int .i64 (d : Int))) P T a5 d) := hP5.around d (by omega)
     have HLF : Hid (Lm w (w5.setCell ⟨P, 2, none⟩ (.int .i64 (d : Int))) P V lo) := hL5.trans (Lm.ofMv (Mv.set _ _ _ _) (Nat.le_trans (uh HSZ) hL5.size))
     have HIF := hide (uh HIK w5 (w5.setCell ⟨P, 2, none⟩ (.int .i64 (d : Int))) _ _ hI5 (Nat.le_trans (uh HSZ) hL5.size) (Mv.set _ _ _ _))
     have HRF := hide (uh HRES4 |>.trans hM5)
     clear HT hP5 hL5 hI5 hM5 qf q0 q1
     go_wp2_with fail
     go_end0
     exact .inl ⟨_, a5, _, uh HRF, rfl, uh HPF, uh HLF, uh HIF⟩
    ·exact ⟨rfl, MeP.nay (by rw [uh HRES4, hM5]) h2 h3⟩
set_option maxHeartbeats 8000000 in
theorem members_o {σ : Type} (P : Nat) (T : List UInt8) (d V lo : Nat) (Q N : Nat) (cl : UInt8) (mb : σ → List UInt8 → Rs σ) (I : World → σ → Nat → Prop)
  (hI : ∀ w w' s n, I w s n → lo ≤ w.heap.size → Mv w w' P → I w' s n)
  (hMem : ∀ (w : World) (a : Nat) (s : σ) (n : Nat), Pa w P T a (d + 1) → I w s n → lo ≤ w.heap.size → n ≤ 65536 → Calls Tryz.prog 138 #[.pointer (some ⟨Q, 0, none⟩), .pointer (some ⟨N, 0, none⟩), .pointer (some ⟨V, 0, none⟩)] w fun e w' => (∃ s' a', mb s (T.drop a) = .ok s' (T.drop a') ∧ e = .returned (.tuple #[]) ∧ Pa w' P T a' (d + 1) ∧ Lm w w' P V lo ∧ I w' s' (n + 1)) ∨ (∃ y a', mb s (T.drop a) = .no (T.drop a') y ∧ e = flt a' y ∧ a' ≤ T.length ∧ Lm w w' P V lo))
  (hlen : ∀ s l s' r, mb s l = .ok s' r → r.length ≤ l.length) (a : Nat) (s0 : σ) (c : UInt8) (r : List UInt8) (w : World) (h : Pa w P T a d) (hd : d < 16) (hl : T.drop a = c :: r) (hI0 : I w s0 0) (hsz : lo ≤ w.heap.size) :
  Calls Tryz.prog 137 #[.pointer (some ⟨P, 0, none⟩), .int .u8 (cl.toNat : Int), .func (.func 138) #[] #[.pointer (some ⟨Q, 0, none⟩), .pointer (some ⟨N, 0, none⟩), .pointer (some ⟨V, 0, none⟩)]] w fun e w' => MeP I w P V lo d T (mmM cl s0 (fun l => meL mb (l.length + 1) s0 l) r) e w' := by
 obtain ⟨hlt, _, hdr⟩ := drop_cons hl
 have hbig := h.big
 obtain ⟨RES, hRES⟩ : ∃ RES, RES = mmM cl s0 (fun l => meL mb (l.length + 1) s0 l) r := ⟨_, rfl⟩
 rw [← hRES]
 rw [mm_cl, ← hdr] at hRES
 obtain ⟨W1, hW1⟩ : ∃ W1, W1 = w.setCell ⟨P, 2, none⟩ (.int .i64 ((d : Int) + 1)) := ⟨_, rfl⟩
 have hP1 : Pa W1 P T a (d + 1) := by
  have := h.around (d + 1) (by omega)
  rw [show ((d + 1 : Nat) : Int) = (d : Int) + 1 by omega, ← hW1] at this
  exact this
 have hM1 : Mv w W1 P := by rw [hW1]; exact Mv.set _ _ _ _
 obtain ⟨k1, k2⟩ := hP1.inc hlt
 obtain ⟨W2, hW2⟩ : ∃ W2, W2 = W1.setCell ⟨P, 1, none⟩ (.int .i64 ((a : Int) + 1)) := ⟨_, rfl⟩
 rw [← hW2] at k1 k2
 have hM2 : Mv w W2 P := hM1.trans k2
 have HB := hide (blanks_any P T (a + 1) (d + 1) W2 k1)
 have HI2 := hide (hI w W2 s0 0 hI0 hsz hM2)
 have HM2 := hide hM2
 obtain ⟨c0, c1, c2, cf⟩ := h.cells
 have f2 := cf 2
 obtain ⟨e0, e1, e2, ef⟩ := hP1.cells
 have g1 := ef 1
 have hd16 : ¬ (d : Int) = 16 := by omega
 have HIK := hide hI
 have HMem := hide hMem
 have HLen := hide hlen
 have HSZ := hide hsz
 have HRES := hide hRES
 have hab : a + 1 ≤ T.length := hlt
 have hc256 := cl.toNat_lt
 have hwr : wrap64 (cl.toNat : Int) = (cl.toNat : Int) := by unfold wrap64; omega
 clear h hP1 hM1 k1 k2 hM2 cf ef c0 e0 e2 hI hMem hlen hI0 hsz hRES hl hlt hdr
 go_enter Tryz.func137, Tryz.ntmps137
 go_upto_region 3 with fail
 rw [← hW1]
 clear hW1 c1 c2 f2
 go_upto_region 4 with fail
 rw [← hW2]
 clear hW2 e1 g1
 go_wp2_with fail
 refine (uh HB).mono ?_
 rintro e w3 ⟨a3, rfl, HP3, HM3, HS3⟩
 have HI3 := hide (uh HIK W2 w3 s0 0 (uh HI2) (Nat.le_trans (uh HSZ) (uh HM2).size) (uh HM3))
 have HMw : Hid (Mv w w3 P) := (uh HM2).trans (uh HM3)
 have HRES3 : Hid (RES = clM cl (match T.drop a3 with | [] => meL mb 1 s0 [] | c :: r => if c = cl then .ok s0 (c :: r) else meL mb ((c :: r).length + 1) s0 (c :: r))) := by show _ = _; rw [uh HRES, uh HS3]; cases T.drop a3 <;> rfl
 have HN3 := hide (next_any P T a3 (d + 1) w3 (uh HP3))
 have hle3 := (uh HP3).le
 have ha3 : a + 1 ≤ a3 := dlen (by rw [← uh HS3]; exact skB_le _) hle3 hab
 have HEnd : Hid (∀ (wx : World) (s : σ) (n ax : Nat), Pa wx P T ax (d + 1) → Lm w wx P V lo → I wx s n → lo ≤ wx.heap.size → Calls Tryz.prog 105 #[.pointer (some ⟨P, 0, none⟩), .int .u8 (cl.toNat : Int)] wx fun e w' => (∃ a', clM cl (.ok s (T.drop ax)) = .ok s (T.drop a') ∧ e = .returned (.tuple #[]) ∧ Pa w' P T a' (d + 1) ∧ Lm w w' P V lo ∧ I w' s n) ∨ (∃ y a', clM cl (.ok s (T.drop ax)) = .no (T.drop a') y ∧ e = flt a' y ∧ a' ≤ T.length ∧ Lm w w' P V lo)) := by
  intro wx s n ax hx hlm hix hsx
  refine (take_any P T ax (d + 1) cl wx hx).mono ?_
  rintro e w' (⟨v, val, a', hM, rfl, hP', hM', hval⟩ | ⟨y, a', hM, rfl, h2, h3⟩)
  ·obtain rfl : val = .tuple #[] := hval
   exact .inl ⟨a', by simp only [clM, hM], rfl, hP', hlm.trans (Lm.ofMv hM' hsx), uh HIK wx w' s n hix hsx hM'⟩
  ·exact .inr ⟨y, a', by simp only [clM, hM], rfl, h2, hlm.trans (Lm.ofMv h3 hsx)⟩
 clear HB HI2 HM2 HM3 HS3 HRES
 have HSZ3 : Hid (lo ≤ w3.heap.size) := Nat.le_trans (uh HSZ) (uh HMw).size
 have HL3 : Hid (Lm w w3 P V lo) := Lm.ofMv (uh HMw) (uh HSZ)
 by_cases hcl : nxI (T.drop a3) = (cl.toNat : Int)
 ·obtain ⟨r3, hr3⟩ : ∃ r3, T.drop a3 = cl :: r3 := by
   cases hl3 : T.drop a3 with
   | nil => rw [hl3] at hcl; simp [nxI] at hcl
   | cons x r3 =>
    rw [hl3] at hcl
    simp only [nxI] at hcl
    exact ⟨r3, by rw [show x = cl from UInt8.toNat_inj.1 (by omega)]⟩
  rw [hcl] at HN3
  have HRES4 : Hid (RES = clM cl (.ok s0 (T.drop a3))) := by show _ = _; rw [uh HRES3, hr3]; simp
  clear HRES3 hcl
  go_wp2_with fail
  refine (uh HN3).mono ?_
  rintro e w4 ⟨rfl, HP4, HB4⟩
  have HI4 := hide (uh HIK w3 w4 s0 0 (uh HI3) (uh HSZ3) (Mv.ofB (uh HB4)))
  have HT := hide (uh HEnd w4 s0 0 a3 (uh HP4) ((uh HL3).trans (Lm.ofMv (Mv.ofB (uh HB4)) (uh HSZ3))) (uh HI4) (Nat.le_trans (uh HSZ3) (uh HB4).size))
  clear HN3 HEnd
  go_wp2_with fail
  refine (uh HT).mono ?_
  rintro e w5 (⟨a5, hM5, rfl, hP5, hL5, hI5⟩ | ⟨y, a5, hM5, rfl, h2, h3⟩)
  ·obtain ⟨q0, q1, q2, qf⟩ := hP5.cells
   have fq := qf 2
   rw [show ((d + 1 : Nat) : Int) = (d : Int) + 1 by omega] at q2
   have HPF : Hid (Pa (w5.setCell ⟨P, 2, none⟩ (.int .i64 (d : Int))) P T a5 d) := hP5.around d (by omega)
   have HLF : Hid (Lm w (w5.setCell ⟨P, 2, none⟩ (.int .i64 (d : Int))) P V lo) := hL5.trans (Lm.ofMv (Mv.set _ _ _ _) (Nat.le_trans (uh HSZ) hL5.size))
   have HIF := hide (uh HIK w5 (w5.setCell ⟨P, 2, none⟩ (.int .i64 (d : Int))) _ _ hI5 (Nat.le_trans (uh HSZ) hL5.size) (Mv.set _ _ _ _))
   have HRF := hide (uh HRES4 |>.trans hM5)
   clear HT hP5 hL5 hI5 hM5 qf q0 q1
   go_wp2_with fail
   go_end0
   exact .inl ⟨_, a5, _, uh HRF, rfl, uh HPF, uh HLF, uh HIF⟩
  ·exact ⟨rfl, MeP.nay (by rw [uh HRES4, hM5]) h2 h3⟩
 ·have hcl2 : (T.drop a3).head? ≠ some cl := by
   intro e
   apply hcl
   cases hl3 : T.drop a3 with
   | nil => rw [hl3] at e; simp at e
   | cons x r3 => rw [hl3] at e; simp at e; subst e; rfl
  have HRES4 : Hid (RES = clM cl (meL mb ((T.drop a3).length + 1) s0 (T.drop a3))) := by
   show _ = _
   rw [uh HRES3]
   cases hl3 : T.drop a3 with
   | nil => rfl
   | cons x r3 =>
    have : ¬ x = cl := by rw [hl3] at hcl2; simpa using hcl2
    simp only
    rw [if_neg this]
  obtain ⟨X, hX⟩ : ∃ X, nxI (T.drop a3) = X := ⟨_, rfl⟩
  rw [hX] at HN3 hcl
  clear HRES3 hcl2 hX
  go_wp2_with fail
  refine (uh HN3).mono ?_
  rintro e w4 ⟨rfl, HP4, HB4⟩
  have HI4 := hide (uh HIK w3 w4 s0 0 (uh HI3) (uh HSZ3) (Mv.ofB (uh HB4)))
  have HL4 : Hid (Lm w w4 P V lo) := (uh HL3).trans (Lm.ofMv (Mv.ofB (uh HB4)) (uh HSZ3))
  have HSZ4 : Hid (lo ≤ w4.heap.size) := Nat.le_trans (uh HSZ3) (uh HB4).size
  have HMm := hide (uh HMem w4 a3 s0 0 (uh HP4) (uh HI4) (uh HSZ4) (by omega))
  rw [meL_step] at HRES4
  clear HN3
  go_wp2_with fail
  refine (uh HMm).mono ?_
  rintro e w5 (⟨s5, a5, hM5, rfl, hP5, hL5, hI5⟩ | ⟨y, a5, hM5, rfl, h2, h3⟩)
  rotate_left 1
  ·rw [hM5] at HRES4
   exact ⟨rfl, MeP.nay (uh HRES4) h2 ((uh HL4).trans h3)⟩
  rw [hM5] at HRES4
  simp only at HRES4
  have hln5 := uh HLen _ _ _ _ hM5
  have ha5 := dlen hln5 hP5.le hle3
  have HBl := hide (blanks_any P T a5 (d + 1) w5 hP5)
  have HL5 : Hid (Lm w w5 P V lo) := (uh HL4).trans hL5
  have HSZ5 : Hid (lo ≤ w5.heap.size) := Nat.le_trans (uh HSZ4) hL5.size
  have HI5 := hide hI5
  have HLN5 := hide hln5
  clear HMm hP5 hL5 hI5 hM5 hln5 HI4 HI3
  go_wp2_with fail
  refine (uh HBl).mono ?_
  rintro e w6 ⟨a6, rfl, HP6, HM6, HS6⟩
  have hle6 := (uh HP6).le
  have hsk : (T.drop a6).length ≤ (T.drop a5).length := by rw [← uh HS6]; exact skB_le _
  rw [uh HS6] at HRES4
  have hln5 : (T.drop a5).length ≤ (T.drop a3).length := uh HLN5
  have hln6 : (T.drop a6).length ≤ (T.drop a3).length := Nat.le_trans hsk hln5
  have ha6 : a3 ≤ a6 := dlen hln6 hle6 hle3
  have h1a6 : 1 ≤ a6 := by omega
  have HI6 := hide (uh HIK w5 w6 s5 1 (uh HI5) (uh HSZ5) (uh HM6))
  have HL6 : Hid (Lm w w6 P V lo) := (uh HL5).trans (Lm.ofMv (uh HM6) (uh HSZ5))
  have HF6 := hide hln6
  obtain ⟨F6, hF6⟩ : ∃ F6, F6 = (T.drop a3).length := ⟨_, rfl⟩
  rw [← hF6] at HF6 HRES4
  clear HBl HI5 HL5 HSZ5 HLN5 hln5 hsk hln6 HS6 HM6 ha6 hF6 HP3 HP4 HB4 HL3 HL4 HSZ3 HSZ4 HMw
  go_wp2_with fail
  go_loopw [38] (fun _ wr => ∃ (F a' n : Nat) (s : σ), Hid (Pa wr P T a' (d + 1)) ∧ Hid (Lm w wr P V lo) ∧ Hid (I wr s n) ∧ n ≤ a' ∧ Hid ((T.drop a').length ≤ F) ∧ Hid (RES = clM cl (meT mb F s (T.drop a')))) (fun _ wr => 70000 - (match wr.cell? ⟨P, 1, none⟩ with | some (.int .i64 x) => x.toNat | _ => 0))
  case atStart => exact ⟨F6, a6, 1, s5, HP6, HL6, HI6, h1a6, HF6, HRES4⟩
  case round =>
   clear HP6 HL6 HI6 h1a6 HF6 HRES4
   obtain ⟨F, a', n, s, HPr, HLr, HIr, hna, HFr, HSr⟩ := hrel
   have hle := (uh HPr).le
   have hcl' := (uh HPr).cells.2.1
   have HN := hide (next_any P T a' (d + 1) wr (uh HPr))
   have HSZr : Hid (lo ≤ wr.heap.size) := Nat.le_trans (uh HSZ) (uh HLr).size
   by_cases h44 : nxI (T.drop a') = 44
   ·obtain ⟨r', hr'⟩ : ∃ r', T.drop a' = 44 :: r' := by
     cases hl4 : T.drop a' with
     | nil => rw [hl4] at h44; simp [nxI] at h44
     | cons x r' =>
      rw [hl4] at h44
      simp only [nxI] at h44
      exact ⟨r', by rw [show x = 44 from UInt8.toNat_inj.1 (by show x.toNat = 44; omega)]⟩
    obtain ⟨hlt, _, hdr⟩ := drop_cons hr'
    obtain ⟨f, rfl⟩ : ∃ f, F = f + 1 := ⟨F - 1, by have h9 : (T.drop a').length ≤ F := HFr; rw [hr'] at h9; simp at h9; omega⟩
    have hfr : r'.length ≤ f := by have h9 : (T.drop a').length ≤ f + 1 := HFr; rw [hr'] at h9; simp at h9; omega
    rw [h44] at HN
    have HS7 : Hid (RES = clM cl (meL mb (f + 1) s (skB (T.drop (a' + 1))))) := by show _ = _; rw [uh HSr, hr', hdr]; simp [meT]
    clear HSr HFr h44
    go_wp2_with fail
    refine (uh HN).mono ?_
    rintro e w7 ⟨rfl, HP7, HB7⟩
    obtain ⟨q0, q1, q2, qf⟩ := (uh HP7).cells
    have fq := qf 1
    obtain ⟨k1, k2⟩ := (uh HP7).inc hlt
    obtain ⟨W8, hW8⟩ : ∃ W8, W8 = w7.setCell ⟨P, 1, none⟩ (.int .i64 ((a' : Int) + 1)) := ⟨_, rfl⟩
    rw [← hW8] at k1 k2
    have HM8 : Hid (Mv wr W8 P) := (Mv.ofB (uh HB7)).trans k2
    have HB8 := hide (blanks_any P T (a' + 1) (d + 1) W8 k1)
    clear HN qf q0 q2 k1 k2
    go_wp2_with fail
    rw [← hW8]
    clear hW8 q1 fq
    refine (uh HB8).mono ?_
    rintro e w9 ⟨a9, rfl, HP9, HM9, HS9⟩
    have hle9 := (uh HP9).le
    have hsk9 : (T.drop a9).length ≤ (T.drop (a' + 1)).length := by rw [← uh HS9]; exact skB_le _
    rw [uh HS9, meL_step] at HS7
    have ha9 : a' + 1 ≤ a9 := dlen hsk9 hle9 hlt
    have HM9' : Hid (Mv wr w9 P) := (uh HM8).trans (uh HM9)
    have HI9 := hide (uh HIK wr w9 s n (uh HIr) (uh HSZr) (uh HM9'))
    have HL9 : Hid (Lm w w9 P V lo) := (uh HLr).trans (Lm.ofMv (uh HM9') (uh HSZr))
    have HSZ9 : Hid (lo ≤ w9.heap.size) := Nat.le_trans (uh HSZr) (uh HM9').size
    have HMm := hide (uh HMem w9 a9 s n (uh HP9) (uh HI9) (uh HSZ9) (by omega))
    have hlf : (T.drop a9).length ≤ f := by rw [hdr] at hsk9; omega
    clear HB8 HM8 HM9 HS9 hsk9 hfr
    go_wp2_with fail
    refine (uh HMm).mono ?_
    rintro e wa (⟨sa, aa, hMa, rfl, hPa, hLa, hIa⟩ | ⟨y, aa, hMa, rfl, h2, h3⟩)
    rotate_left 1
    ·rw [hMa] at HS7
     exact ⟨rfl, MeP.nay (uh HS7) h2 ((uh HL9).trans h3)⟩
    rw [hMa] at HS7
    simp only at HS7
    have hlna := uh HLen _ _ _ _ hMa
    have haa := dlen hlna hPa.le hle9
    have hleA := hPa.le
    have HBl := hide (blanks_any P T aa (d + 1) wa hPa)
    have HLa : Hid (Lm w wa P V lo) := (uh HL9).trans hLa
    have HSZa : Hid (lo ≤ wa.heap.size) := Nat.le_trans (uh HSZ9) hLa.size
    have HIa := hide hIa
    clear HMm hPa hLa hIa hMa
    go_wp2_with fail
    refine (uh HBl).mono ?_
    rintro e wb ⟨ab, rfl, HPb, HMb, HSb⟩
    have hleb := (uh HPb).le
    have hskb : (T.drop ab).length ≤ (T.drop aa).length := by rw [← uh HSb]; exact skB_le _
    rw [uh HSb] at HS7
    have hab2 : aa ≤ ab := dlen hskb hleb hleA
    have HIb := hide (uh HIK wa wb sa (n + 1) (uh HIa) (uh HSZa) (uh HMb))
    have HLb : Hid (Lm w wb P V lo) := (uh HLa).trans (Lm.ofMv (uh HMb) (uh HSZa))
    have HFb : Hid ((T.drop ab).length ≤ f) := Nat.le_trans hskb (Nat.le_trans hlna hlf)
    clear HBl hskb hlna hlf HSb
    go_wp2_with fail
    go_roundw
    case rel => exact ⟨f, ab, n + 1, sa, HPb, HLb, HIb, by omega, HFb, HS7⟩
    case measure =>
     have e1 := (uh HPb).cells.2.1
     rw [hcl', e1]
     simp only
     omega
   ·have HRES4 : Hid (RES = clM cl (.ok s (T.drop a'))) := by
     show _ = _
     rw [uh HSr]
     cases hl4 : T.drop a' with
     | nil => rfl
     | cons x r' =>
      have : ¬ x = 44 := by rintro rfl; apply h44; rw [hl4]; rfl
      simp [meT, this]
    obtain ⟨X, hX⟩ : ∃ X, nxI (T.drop a') = X := ⟨_, rfl⟩
    rw [hX] at HN h44
    clear HSr hX
    go_wp2_with fail
    refine (uh HN).mono ?_
    rintro e w4 ⟨rfl, HP4, HB4⟩
    have HI4 := hide (uh HIK wr w4 s n (uh HIr) (uh HSZr) (Mv.ofB (uh HB4)))
    have HT := hide (uh HEnd w4 s n a' (uh HP4) ((uh HLr).trans (Lm.ofMv (Mv.ofB (uh HB4)) (uh HSZr))) (uh HI4) (Nat.le_trans (uh HSZr) (uh HB4).size))
    clear HN HEnd
    go_wp2_with fail
    refine (uh HT).mono ?_
    rintro e w5 (⟨a5, hM5, rfl, hP5, hL5, hI5⟩ | ⟨y, a5, hM5, rfl, h2, h3⟩)
    ·obtain ⟨q0, q1, q2, qf⟩ := hP5.cells
     have fq := qf 2
     rw [show ((d + 1 : Nat) : Int) = (d : Int) + 1 by omega] at q2
     have HPF : Hid (Pa (w5.setCell ⟨P, 2, none⟩ (.int .i64 (d : Int))) P T a5 d) := hP5.around d (by omega)
     have HLF : Hid (Lm w (w5.setCell ⟨P, 2, none⟩ (.int .i64 (d : Int))) P V lo) := hL5.trans (Lm.ofMv (Mv.set _ _ _ _) (Nat.le_trans (uh HSZ) hL5.size))
     have HIF := hide (uh HIK w5 (w5.setCell ⟨P, 2, none⟩ (.int .i64 (d : Int))) _ _ hI5 (Nat.le_trans (uh HSZ) hL5.size) (Mv.set _ _ _ _))
     have HRF := hide (uh HRES4 |>.trans hM5)
     clear HT hP5 hL5 hI5 hM5 qf q0 q1
     go_wp2_with fail
     go_end0
     exact .inl ⟨_, a5, _, uh HRF, rfl, uh HPF, uh HLF, uh HIF⟩
    ·exact ⟨rfl, MeP.nay (by rw [uh HRES4, hM5]) h2 h3⟩
end Go.Proofs.YtmpjeahibfdehaaGreatDoor
end
section
set_option linter.unusedVariables false
set_option maxRecDepth 1000000
namespace Go.Proofs.YtmpjeahibfdehaaGreatDoor
open Go.RowKit

theorem cq_of {w : World} {P Q : Nat} (h : w.heap[Q]? = some (.cells #[.pointer (some ⟨P, 0, none⟩)] 131 (0, 0))) : w.cell? ⟨Q, 0, none⟩ = some (.pointer (some ⟨P, 0, none⟩)) := cR6 h
theorem siz1 (w : World) (p : Addr) (v : Value) : (w.setCell p v).heap.size = w.heap.size := by simp
theorem siz5 (w : World) (g o0 o1 o2 o3 o4 : Nat) (v0 v1 v2 v3 v4 : Value) : (((((w.setCell ⟨g, o0, none⟩ v0).setCell ⟨g, o1, none⟩ v1).setCell ⟨g, o2, none⟩ v2).setCell ⟨g, o3, none⟩ v3).setCell ⟨g, o4, none⟩ v4).heap.size = w.heap.size := by simp
theorem far5 (w : World) (g k o0 o1 o2 o3 o4 : Nat) (v0 v1 v2 v3 v4 : Value) (h : k ≠ g) : (((((w.setCell ⟨g, o0, none⟩ v0).setCell ⟨g, o1, none⟩ v1).setCell ⟨g, o2, none⟩ v2).setCell ⟨g, o3, none⟩ v3).setCell ⟨g, o4, none⟩ v4).heap[k]? = w.heap[k]? := by
 rw [Below.heap_setCell _ ⟨g, o4, none⟩ _ k h, Below.heap_setCell _ ⟨g, o3, none⟩ _ k h, Below.heap_setCell _ ⟨g, o2, none⟩ _ k h, Below.heap_setCell _ ⟨g, o1, none⟩ _ k h, Below.heap_setCell _ ⟨g, o0, none⟩ _ k h]
theorem own5 {w : World} {lo g cap n : Nat} {xs : List Value} (h : OwnJ w lo (some ⟨g, 0, none⟩) cap (n + 1) (xs ++ zJ)) (hx : xs.length = n * 5) (v0 v1 v2 v3 v4 : Value) : OwnJ (((((w.setCell ⟨g, n * 5, none⟩ v0).setCell ⟨g, n * 5 + 1, none⟩ v1).setCell ⟨g, n * 5 + 2, none⟩ v2).setCell ⟨g, n * 5 + 3, none⟩ v3).setCell ⟨g, n * 5 + 4, none⟩ v4) lo (some ⟨g, 0, none⟩) cap (n + 1) (xs ++ [v0, v1, v2, v3, v4]) := by
 rw [← set5 xs n hx v0 v1 v2 v3 v4]
 have l : (xs ++ zJ).length = n * 5 + 5 := by simp [hx, zJ]
 exact owns_set (owns_set (owns_set (owns_set (owns_set h _ _ (by rw [l]; omega)) _ _ (by rw [List.length_set, l]; omega)) _ _ (by rw [List.length_set, List.length_set, l]; omega)) _ _ (by rw [List.length_set, List.length_set, List.length_set, l]; omega)) _ _ (by rw [List.length_set, List.length_set, List.length_set, List.length_set, l]; omega)
theorem pa_keep {u w2 w6 : World} {P V lo g dd a' : Nat} {T : List UInt8} {a2 : Option Addr} (h : Pa u P T a' dd) (hg : u.grownBy w2 (blk a2)) (hb : ∀ k, blk a2 = some k → lo ≤ k) (hk : ∀ k, k ≠ V → k ≠ g → w6.heap[k]? = w2.heap[k]?) (hP : P < lo) (hPV : P ≠ V) (hgl : lo ≤ g) (h4 : 2 < lo ∧ 3 < lo) (hV4 : 2 ≠ V ∧ 3 ≠ V) : Pa w6 P T a' dd := by
 have key : ∀ k, k < lo → k ≠ V → k < u.heap.size → w6.heap[k]? = u.heap[k]? := fun k h1 h2 h3 => (hk k h2 (by omega)).trans (hg.block k h3 (fun e => by have := hb k e.symm; omega))
 exact { h with row := (key P hP hPV h.lt).trans h.row, tb := h.tb.keep (fun k hk => by rcases hk with rfl | rfl; exact key _ h4.1 hV4.1 h.tb.lt.1; exact key _ h4.2 hV4.2 h.tb.lt.2) }
/-- What the reader of a value owes. -/
def VaC (P : Nat) (T : List UInt8) (dd : Nat) (V : List UInt8 → Rs Js) : Prop := ∀ (a : Nat) (w : World), Pa w P T a dd → Calls Tryz.prog 74 #[.pointer (some ⟨P, 0, none⟩)] w fun e w' => Po (fun j val w' => JV w' (Nw w w') val j) T w P dd (V (T.drop a)) e w'
/-- What comes of one item more. -/
def LiP (w : World) (P V Q lo dd : Nat) (T : List UInt8) (kk : Int) (ns : List (List UInt8)) (is : List Js) (M : Rs Js) (e : Ending) (w' : World) : Prop :=
 (∃ j a' a1 c1 a2 c2 xs, M = .ok j (T.drop a') ∧ e = .returned (.tuple #[]) ∧ Pa w' P T a' dd ∧ Lm w w' P V lo ∧ w'.heap[Q]? = some (.cells #[.pointer (some ⟨P, 0, none⟩)] 131 (0, 0)) ∧ Bv w' V lo kk ns (is ++ [j]) a1 c1 a2 c2 xs) ∨ (∃ y a', M = .no (T.drop a') y ∧ e = flt a' y ∧ a' ≤ T.length ∧ Lm w w' P V lo)
theorem LiP.nay {w : World} {P V Q lo dd : Nat} {T : List UInt8} {kk : Int} {ns : List (List UInt8)} {is : List Js} {M : Rs Js} {w' : World} {y a' : Nat} (h1 : M = .no (T.drop a') y) (h2 : a' ≤ T.length) (h3 : Lm w w' P V lo) : LiP w P V Q lo dd T kk ns is M (flt a' y) w' := .inr ⟨y, a', h1, rfl, h2, h3⟩
set_option maxHeartbeats 16000000 in
theorem list1_any (P : Nat) (T : List UInt8) (dd : Nat) (Vf : List UInt8 → Rs Js) (hV : VaC P T dd Vf) (V Q lo : Nat) (a : Nat) (kk : Int) (ns : List (List UInt8)) (is : List Js) (a1 : Option Addr) (c1 : Nat) (a2 : Option Addr) (c2 : Nat) (xs : List Value) (w : World) (hP : Pa w P T a dd) (hB : Bv w V lo kk ns is a1 c1 a2 c2 xs) (hQ : w.heap[Q]? = some (.cells #[.pointer (some ⟨P, 0, none⟩)] 131 (0, 0)))
  (hPlo : P < lo) (hPV : P ≠ V) (hQlo : Q < lo) (hQP : Q ≠ P) (hQV : Q ≠ V) (hsz : lo ≤ w.heap.size) (his : is.length ≤ 1000000) (hg4 : 2 < lo ∧ 3 < lo) (hgV4 : 2 ≠ V ∧ 3 ≠ V) :
  Calls Tryz.prog 139 #[.pointer (some ⟨V, 0, none⟩), .pointer (some ⟨Q, 0, none⟩)] w fun e w' => LiP w P V Q lo dd T kk ns is (Vf (T.drop a)) e w' := by
 have HV := hide hV
 obtain ⟨D, hD⟩ : ∃ D, D = w.drew := ⟨_, rfl⟩
 have hbD : Below w.heap.size w D := by rw [hD]; exact Below.drew (Below.refl _ _)
 have HPD := hide (hP.below hbD)
 have HBD := hide (hB.below hbD)
 have HQD := hide ((hbD.block Q (aI hQ).1).trans hQ)
 have SZD : Hid (lo ≤ D.heap.size) := Nat.le_trans hsz hbD.size
 have LMD : Hid (Lm w D P V lo) := Lm.ofMv (Mv.ofB hbD) hsz
 clear hP hB hQ hbD hV hsz
 go_enter Tryz.func139, Tryz.ntmps139
 refine wp_region_held_drew (S := fun w' => w'.cell? ⟨Q, 0, none⟩ = some (.pointer (some ⟨P, 0, none⟩))) (by kernel_rfl) (by rw [← hD]; exact cq_of (uh HQD)) (fun hHeld => ?_)
 rw [← hD] at hHeld ⊢
 clear hD
 refine wpAnyH_take (i := 0) (oi := ?_) (v := ?_) ?_ (by kernel_rfl) ?_ ?_ ?_ ?_ hHeld ?_
 rotate_left 2
 ·(simp only [xq1, xq3]) <;> with_reducible rfl
 ·kernel_rfl
 ·kernel_rfl
 ·exact fun _ _ _ h => h
 ·exact Or.inl ⟨by rfl, by (intro w hSw; (try dsimp only at hSw); go_simp <;> with_reducible rfl)⟩
 simp only [Act.put, xq4, xq5, xq6]
 refine wpAnyH_take (i := 2) (oi := ?_) (v := ?_) ?_ (by kernel_rfl) ?_ ?_ ?_ ?_ hHeld ?_
 rotate_left 2
 ·(simp only [xq1, xq2, xq3]) <;> with_reducible rfl
 ·kernel_rfl
 ·kernel_rfl
 ·exact fun _ _ _ h => h
 ·exact Or.inl ⟨by rfl, by (intro w hSw; (try dsimp only at hSw); go_simp <;> with_reducible rfl)⟩
 simp only [Act.put, xq4, xq5, xq6]
 refine wpAnyH_ready (rs := [1, 3, 5]) (by kernel_rfl) (by simp) ?rda
 refine AllReadyH.cons (o := ?oa1) ?ha1 (fun K hK => ?ba1) (AllReadyH.cons (o := ?oa3) ?ha3 (fun K hK => ?ba3) (AllReadyH.cons (o := ?oa5) ?ha5 (fun K hK => ?ba5) AllReadyH.nil))
 case ha1 => (simp only [xq1, xq2, xq3]) <;> with_reducible rfl
 case ha3 => (simp only [xq1, xq2, xq3]) <;> with_reducible rfl
 case ha5 => (simp only [xq1, xq2, xq3]) <;> with_reducible rfl
 case' ba1 =>
  have c4 := (uh HBD).cells.2.1
  go_simp
  clear c4
  refine hK.out _ _ (cq_of (uh HQD)) (fun hHeld => ?_)
  clear hK K
  try simp only [Act.put, xq4, xq5, xq6]
  refine wpAnyH_take (i := 4) (oi := ?_) (v := ?_) ?_ (by kernel_rfl) ?_ ?_ ?_ ?_ hHeld ?_
  rotate_left 2
  ·(simp only [xq1, xq2, xq3]) <;> with_reducible rfl
  ·kernel_rfl
  ·kernel_rfl
  ·exact fun _ _ _ h => h
  ·exact Or.inl ⟨by rfl, by (intro w hSw; (try dsimp only at hSw); go_simp <;> with_reducible rfl)⟩
  simp only [Act.put, xq4, xq5, xq6]
  refine wpAnyH_ready (rs := [3, 5]) (by kernel_rfl) (by simp) ?rda1
  refine AllReadyH.cons (o := ?oa13) ?ha13 (fun K hK => ?ba13) (AllReadyH.cons (o := ?oa15) ?ha15 (fun K hK => ?ba15) AllReadyH.nil)
  case ha13 => (simp only [xq1, xq2, xq3]) <;> with_reducible rfl
  case ha15 => (simp only [xq1, xq2, xq3]) <;> with_reducible rfl
  case' ba13 =>
   have OLDe : ∃ OLD, OLD = D.heap.size := ⟨_, rfl⟩
   obtain ⟨OLD, hOLD⟩ := OLDe
   go_simp
   refine (uh HV _ D (uh HPD)).mono ?_
   rintro e Dv (⟨j, val, a', hM, rfl, hP3, hMv3, hJ⟩ | ⟨y, a', hM, rfl, h2, h3⟩)
   rotate_left 1
   ·exact ⟨rfl, LiP.nay hM h2 ((uh LMD).trans (Lm.ofMv h3 (uh SZD)))⟩
   obtain ⟨jk, jn, jt, ja1, jn1, jc1, ja2, jn2, jc2, rfl⟩ := hJ.form
   have HPDv := hide hP3
   have HBDv := hide ((uh HBD).mv hMv3 hPlo hPV)
   have HQDv := hide ((hMv3.block Q (aI (uh HQD)).1 (fun e => hQP (Option.some.inj e))).trans (uh HQD))
   have SZDv : Hid (lo ≤ Dv.heap.size) := Nat.le_trans (uh SZD) hMv3.size
   have LMDv : Hid (Lm w Dv P V lo) := (uh LMD).trans (Lm.ofMv hMv3 (uh SZD))
   have HJDv : Hid (JV Dv (fun k => OLD ≤ k ∧ k < Dv.heap.size) (.agg #[.int .i64 jk, .int .i64 jn, .string (str jt), .slice ja1 jn1 jc1, .slice ja2 jn2 jc2]) j) := JV.keep (fun k hk => ⟨⟨by rw [hOLD]; exact hk.1, hk.2⟩, rfl⟩) j _ hJ
   have HO1 : Hid (lo ≤ OLD ∧ V < OLD ∧ (∀ k, blk a1 = some k → k < OLD) ∧ (∀ k, blk a2 = some k → k < OLD)) := by rw [hOLD]; exact ⟨uh SZD, (uh HBD).lt, fun k hk => (owns_lt (uh HBD).nm k hk).2, fun k hk => (owns_lt (uh HBD).it k hk).2⟩
   have HMo := hide hM
   clear hM hP3 hMv3 hJ hOLD
   refine hK.out _ _ (cq_of (uh HQDv)) (fun hHeld => ?_)
   clear hK K
   try simp only [Act.put, xq4, xq5, xq6]
   refine wpAnyH_ready (rs := [5]) (by kernel_rfl) (by simp) ?rda13
   refine AllReadyH.cons (o := ?oa135) ?ha135 (fun K hK => ?ba135) AllReadyH.nil
   case ha135 => (simp only [xq1, xq2, xq3]) <;> with_reducible rfl
   case' ba135 =>
    obtain ⟨Dvz, hDvz⟩ : ∃ Dvz, Dvz = Dv.alloc (.cells #[.int .i64 0, .int .i64 0, .string ⟨#[]⟩, .slice none 0 0, .slice none 0 0] 44) := ⟨_, rfl⟩
    obtain ⟨Z, hZ⟩ : ∃ Z, Z = Dv.heap.size := ⟨_, rfl⟩
    have hbDvz : Below Dv.heap.size Dv Dvz := by rw [hDvz]; exact bA _
    have hz : Dvz.heap[Z]? = some (.cells zJ.toArray 44 (0, 0)) := by rw [hDvz, hZ]; exact heap_alloc_new _ _
    have HPDvz := hide ((uh HPDv).below hbDvz)
    have HBDvz := hide ((uh HBDv).below hbDvz)
    have HQDvz := hide ((hbDvz.block Q (aI (uh HQDv)).1).trans (uh HQDv))
    have SZDvz : Hid (lo ≤ Dvz.heap.size) := Nat.le_trans (uh SZDv) hbDvz.size
    have LMDvz : Hid (Lm w Dvz P V lo) := (uh LMDv).trans (Lm.ofMv (Mv.ofB hbDvz) (uh SZDv))
    have HZDvz := hide hz
    have HJDvz : Hid (JV Dvz (fun k => OLD ≤ k ∧ k < Dvz.heap.size) (.agg #[.int .i64 jk, .int .i64 jn, .string (str jt), .slice ja1 jn1 jc1, .slice ja2 jn2 jc2]) j) := JV.keep (fun k hk => ⟨⟨hk.1, Nat.lt_of_lt_of_le hk.2 hbDvz.size⟩, hbDvz.block k hk.2⟩) j _ (uh HJDv)
    clear hz hbDvz
    go_simp
    rw [← hDvz, ← hZ]
    clear hDvz hZ
    refine hK.out _ _ (cq_of (uh HQDvz)) (fun hHeld => ?_)
    clear hK K
    try simp only [Act.put, xq4, xq5, xq6]
    have HPt := HPDvz
    have HBt := HBDvz
    have HQt := HQDvz
    have SZt := SZDvz
    have LMt := LMDvz
    have HJt := HJDvz
    have HZt := HZDvz
  case' ba15 =>
   obtain ⟨Dz, hDz⟩ : ∃ Dz, Dz = D.alloc (.cells #[.int .i64 0, .int .i64 0, .string ⟨#[]⟩, .slice none 0 0, .slice none 0 0] 44) := ⟨_, rfl⟩
   obtain ⟨Z, hZ⟩ : ∃ Z, Z = D.heap.size := ⟨_, rfl⟩
   have hbDz : Below D.heap.size D Dz := by rw [hDz]; exact bA _
   have hz : Dz.heap[Z]? = some (.cells zJ.toArray 44 (0, 0)) := by rw [hDz, hZ]; exact heap_alloc_new _ _
   have HPDz := hide ((uh HPD).below hbDz)
   have HBDz := hide ((uh HBD).below hbDz)
   have HQDz := hide ((hbDz.block Q (aI (uh HQD)).1).trans (uh HQD))
   have SZDz : Hid (lo ≤ Dz.heap.size) := Nat.le_trans (uh SZD) hbDz.size
   have LMDz : Hid (Lm w Dz P V lo) := (uh LMD).trans (Lm.ofMv (Mv.ofB hbDz) (uh SZD))
   have HZDz := hide hz
   clear hz hbDz
   go_simp
   rw [← hDz, ← hZ]
   clear hDz hZ
   refine hK.out _ _ (cq_of (uh HQDz)) (fun hHeld => ?_)
   clear hK K
   try simp only [Act.put, xq4, xq5, xq6]
   refine wpAnyH_ready (rs := [3]) (by kernel_rfl) (by simp) ?rda15
   refine AllReadyH.cons (o := ?oa153) ?ha153 (fun K hK => ?ba153) AllReadyH.nil
   case ha153 => (simp only [xq1, xq2, xq3]) <;> with_reducible rfl
   case' ba153 =>
    have OLDe : ∃ OLD, OLD = Dz.heap.size := ⟨_, rfl⟩
    obtain ⟨OLD, hOLD⟩ := OLDe
    go_simp
    refine (uh HV _ Dz (uh HPDz)).mono ?_
    rintro e Dzv (⟨j, val, a', hM, rfl, hP3, hMv3, hJ⟩ | ⟨y, a', hM, rfl, h2, h3⟩)
    rotate_left 1
    ·exact ⟨rfl, LiP.nay hM h2 ((uh LMDz).trans (Lm.ofMv h3 (uh SZDz)))⟩
    obtain ⟨jk, jn, jt, ja1, jn1, jc1, ja2, jn2, jc2, rfl⟩ := hJ.form
    have HPDzv := hide hP3
    have HBDzv := hide ((uh HBDz).mv hMv3 hPlo hPV)
    have HQDzv := hide ((hMv3.block Q (aI (uh HQDz)).1 (fun e => hQP (Option.some.inj e))).trans (uh HQDz))
    have SZDzv : Hid (lo ≤ Dzv.heap.size) := Nat.le_trans (uh SZDz) hMv3.size
    have LMDzv : Hid (Lm w Dzv P V lo) := (uh LMDz).trans (Lm.ofMv hMv3 (uh SZDz))
    have HJDzv : Hid (JV Dzv (fun k => OLD ≤ k ∧ k < Dzv.heap.size) (.agg #[.int .i64 jk, .int .i64 jn, .string (str jt), .slice ja1 jn1 jc1, .slice ja2 jn2 jc2]) j) := JV.keep (fun k hk => ⟨⟨by rw [hOLD]; exact hk.1, hk.2⟩, rfl⟩) j _ hJ
    have HO1 : Hid (lo ≤ OLD ∧ V < OLD ∧ (∀ k, blk a1 = some k → k < OLD) ∧ (∀ k, blk a2 = some k → k < OLD)) := by rw [hOLD]; exact ⟨uh SZDz, (uh HBDz).lt, fun k hk => (owns_lt (uh HBDz).nm k hk).2, fun k hk => (owns_lt (uh HBDz).it k hk).2⟩
    have HMo := hide hM
    have HZDzv := hide ((hMv3.block Z (aI (uh HZDz)).1 (fun e => by have h5 := Option.some.inj e; have h6 := (uh HZDz); have h7 := (uh HPDz).row; rw [← h5] at h7; rw [h6] at h7; cases h7)).trans (uh HZDz))
    clear hM hP3 hMv3 hJ hOLD
    refine hK.out _ _ (cq_of (uh HQDzv)) (fun hHeld => ?_)
    clear hK K
    try simp only [Act.put, xq4, xq5, xq6]
    have HPt := HPDzv
    have HBt := HBDzv
    have HQt := HQDzv
    have SZt := SZDzv
    have LMt := LMDzv
    have HJt := HJDzv
    have HZt := HZDzv
 case' ba3 =>
  have OLDe : ∃ OLD, OLD = D.heap.size := ⟨_, rfl⟩
  obtain ⟨OLD, hOLD⟩ := OLDe
  go_simp
  refine (uh HV _ D (uh HPD)).mono ?_
  rintro e Dv (⟨j, val, a', hM, rfl, hP3, hMv3, hJ⟩ | ⟨y, a', hM, rfl, h2, h3⟩)
  rotate_left 1
  ·exact ⟨rfl, LiP.nay hM h2 ((uh LMD).trans (Lm.ofMv h3 (uh SZD)))⟩
  obtain ⟨jk, jn, jt, ja1, jn1, jc1, ja2, jn2, jc2, rfl⟩ := hJ.form
  have HPDv := hide hP3
  have HBDv := hide ((uh HBD).mv hMv3 hPlo hPV)
  have HQDv := hide ((hMv3.block Q (aI (uh HQD)).1 (fun e => hQP (Option.some.inj e))).trans (uh HQD))
  have SZDv : Hid (lo ≤ Dv.heap.size) := Nat.le_trans (uh SZD) hMv3.size
  have LMDv : Hid (Lm w Dv P V lo) := (uh LMD).trans (Lm.ofMv hMv3 (uh SZD))
  have HJDv : Hid (JV Dv (fun k => OLD ≤ k ∧ k < Dv.heap.size) (.agg #[.int .i64 jk, .int .i64 jn, .string (str jt), .slice ja1 jn1 jc1, .slice ja2 jn2 jc2]) j) := JV.keep (fun k hk => ⟨⟨by rw [hOLD]; exact hk.1, hk.2⟩, rfl⟩) j _ hJ
  have HO1 : Hid (lo ≤ OLD ∧ V < OLD ∧ (∀ k, blk a1 = some k → k < OLD) ∧ (∀ k, blk a2 = some k → k < OLD)) := by rw [hOLD]; exact ⟨uh SZD, (uh HBD).lt, fun k hk => (owns_lt (uh HBD).nm k hk).2, fun k hk => (owns_lt (uh HBD).it k hk).2⟩
  have HMo := hide hM
  clear hM hP3 hMv3 hJ hOLD
  refine hK.out _ _ (cq_of (uh HQDv)) (fun hHeld => ?_)
  clear hK K
  try simp only [Act.put, xq4, xq5, xq6]
  refine wpAnyH_ready (rs := [1, 5]) (by kernel_rfl) (by simp) ?rda3
  refine AllReadyH.cons (o := ?oa31) ?ha31 (fun K hK => ?ba31) (AllReadyH.cons (o := ?oa35) ?ha35 (fun K hK => ?ba35) AllReadyH.nil)
  case ha31 => (simp only [xq1, xq2, xq3]) <;> with_reducible rfl
  case ha35 => (simp only [xq1, xq2, xq3]) <;> with_reducible rfl
  case' ba31 =>
   have c4 := (uh HBDv).cells.2.1
   go_simp
   clear c4
   refine hK.out _ _ (cq_of (uh HQDv)) (fun hHeld => ?_)
   clear hK K
   try simp only [Act.put, xq4, xq5, xq6]
   refine wpAnyH_take (i := 4) (oi := ?_) (v := ?_) ?_ (by kernel_rfl) ?_ ?_ ?_ ?_ hHeld ?_
   rotate_left 2
   ·(simp only [xq1, xq2, xq3]) <;> with_reducible rfl
   ·kernel_rfl
   ·kernel_rfl
   ·exact fun _ _ _ h => h
   ·exact Or.inl ⟨by rfl, by (intro w hSw; (try dsimp only at hSw); go_simp <;> with_reducible rfl)⟩
   simp only [Act.put, xq4, xq5, xq6]
   refine wpAnyH_ready (rs := [5]) (by kernel_rfl) (by simp) ?rda31
   refine AllReadyH.cons (o := ?oa315) ?ha315 (fun K hK => ?ba315) AllReadyH.nil
   case ha315 => (simp only [xq1, xq2, xq3]) <;> with_reducible rfl
   case' ba315 =>
    obtain ⟨Dvz, hDvz⟩ : ∃ Dvz, Dvz = Dv.alloc (.cells #[.int .i64 0, .int .i64 0, .string ⟨#[]⟩, .slice none 0 0, .slice none 0 0] 44) := ⟨_, rfl⟩
    obtain ⟨Z, hZ⟩ : ∃ Z, Z = Dv.heap.size := ⟨_, rfl⟩
    have hbDvz : Below Dv.heap.size Dv Dvz := by rw [hDvz]; exact bA _
    have hz : Dvz.heap[Z]? = some (.cells zJ.toArray 44 (0, 0)) := by rw [hDvz, hZ]; exact heap_alloc_new _ _
    have HPDvz := hide ((uh HPDv).below hbDvz)
    have HBDvz := hide ((uh HBDv).below hbDvz)
    have HQDvz := hide ((hbDvz.block Q (aI (uh HQDv)).1).trans (uh HQDv))
    have SZDvz : Hid (lo ≤ Dvz.heap.size) := Nat.le_trans (uh SZDv) hbDvz.size
    have LMDvz : Hid (Lm w Dvz P V lo) := (uh LMDv).trans (Lm.ofMv (Mv.ofB hbDvz) (uh SZDv))
    have HZDvz := hide hz
    have HJDvz : Hid (JV Dvz (fun k => OLD ≤ k ∧ k < Dvz.heap.size) (.agg #[.int .i64 jk, .int .i64 jn, .string (str jt), .slice ja1 jn1 jc1, .slice ja2 jn2 jc2]) j) := JV.keep (fun k hk => ⟨⟨hk.1, Nat.lt_of_lt_of_le hk.2 hbDvz.size⟩, hbDvz.block k hk.2⟩) j _ (uh HJDv)
    clear hz hbDvz
    go_simp
    rw [← hDvz, ← hZ]
    clear hDvz hZ
    refine hK.out _ _ (cq_of (uh HQDvz)) (fun hHeld => ?_)
    clear hK K
    try simp only [Act.put, xq4, xq5, xq6]
    have HPt := HPDvz
    have HBt := HBDvz
    have HQt := HQDvz
    have SZt := SZDvz
    have LMt := LMDvz
    have HJt := HJDvz
    have HZt := HZDvz
  case' ba35 =>
   obtain ⟨Dvz, hDvz⟩ : ∃ Dvz, Dvz = Dv.alloc (.cells #[.int .i64 0, .int .i64 0, .string ⟨#[]⟩, .slice none 0 0, .slice none 0 0] 44) := ⟨_, rfl⟩
   obtain ⟨Z, hZ⟩ : ∃ Z, Z = Dv.heap.size := ⟨_, rfl⟩
   have hbDvz : Below Dv.heap.size Dv Dvz := by rw [hDvz]; exact bA _
   have hz : Dvz.heap[Z]? = some (.cells zJ.toArray 44 (0, 0)) := by rw [hDvz, hZ]; exact heap_alloc_new _ _
   have HPDvz := hide ((uh HPDv).below hbDvz)
   have HBDvz := hide ((uh HBDv).below hbDvz)
   have HQDvz := hide ((hbDvz.block Q (aI (uh HQDv)).1).trans (uh HQDv))
   have SZDvz : Hid (lo ≤ Dvz.heap.size) := Nat.le_trans (uh SZDv) hbDvz.size
   have LMDvz : Hid (Lm w Dvz P V lo) := (uh LMDv).trans (Lm.ofMv (Mv.ofB hbDvz) (uh SZDv))
   have HZDvz := hide hz
   have HJDvz : Hid (JV Dvz (fun k => OLD ≤ k ∧ k < Dvz.heap.size) (.agg #[.int .i64 jk, .int .i64 jn, .string (str jt), .slice ja1 jn1 jc1, .slice ja2 jn2 jc2]) j) := JV.keep (fun k hk => ⟨⟨hk.1, Nat.lt_of_lt_of_le hk.2 hbDvz.size⟩, hbDvz.block k hk.2⟩) j _ (uh HJDv)
   clear hz hbDvz
   go_simp
   rw [← hDvz, ← hZ]
   clear hDvz hZ
   refine hK.out _ _ (cq_of (uh HQDvz)) (fun hHeld => ?_)
   clear hK K
   try simp only [Act.put, xq4, xq5, xq6]
   refine wpAnyH_ready (rs := [1]) (by kernel_rfl) (by simp) ?rda35
   refine AllReadyH.cons (o := ?oa351) ?ha351 (fun K hK => ?ba351) AllReadyH.nil
   case ha351 => (simp only [xq1, xq2, xq3]) <;> with_reducible rfl
   case' ba351 =>
    have c4 := (uh HBDvz).cells.2.1
    go_simp
    clear c4
    refine hK.out _ _ (cq_of (uh HQDvz)) (fun hHeld => ?_)
    clear hK K
    try simp only [Act.put, xq4, xq5, xq6]
    refine wpAnyH_take (i := 4) (oi := ?_) (v := ?_) ?_ (by kernel_rfl) ?_ ?_ ?_ ?_ hHeld ?_
    rotate_left 2
    ·(simp only [xq1, xq2, xq3]) <;> with_reducible rfl
    ·kernel_rfl
    ·kernel_rfl
    ·exact fun _ _ _ h => h
    ·exact Or.inl ⟨by rfl, by (intro w hSw; (try dsimp only at hSw); go_simp <;> with_reducible rfl)⟩
    simp only [Act.put, xq4, xq5, xq6]
    have HPt := HPDvz
    have HBt := HBDvz
    have HQt := HQDvz
    have SZt := SZDvz
    have LMt := LMDvz
    have HJt := HJDvz
    have HZt := HZDvz
 case' ba5 =>
  obtain ⟨Dz, hDz⟩ : ∃ Dz, Dz = D.alloc (.cells #[.int .i64 0, .int .i64 0, .string ⟨#[]⟩, .slice none 0 0, .slice none 0 0] 44) := ⟨_, rfl⟩
  obtain ⟨Z, hZ⟩ : ∃ Z, Z = D.heap.size := ⟨_, rfl⟩
  have hbDz : Below D.heap.size D Dz := by rw [hDz]; exact bA _
  have hz : Dz.heap[Z]? = some (.cells zJ.toArray 44 (0, 0)) := by rw [hDz, hZ]; exact heap_alloc_new _ _
  have HPDz := hide ((uh HPD).below hbDz)
  have HBDz := hide ((uh HBD).below hbDz)
  have HQDz := hide ((hbDz.block Q (aI (uh HQD)).1).trans (uh HQD))
  have SZDz : Hid (lo ≤ Dz.heap.size) := Nat.le_trans (uh SZD) hbDz.size
  have LMDz : Hid (Lm w Dz P V lo) := (uh LMD).trans (Lm.ofMv (Mv.ofB hbDz) (uh SZD))
  have HZDz := hide hz
  clear hz hbDz
  go_simp
  rw [← hDz, ← hZ]
  clear hDz hZ
  refine hK.out _ _ (cq_of (uh HQDz)) (fun hHeld => ?_)
  clear hK K
  try simp only [Act.put, xq4, xq5, xq6]
  refine wpAnyH_ready (rs := [1, 3]) (by kernel_rfl) (by simp) ?rda5
  refine AllReadyH.cons (o := ?oa51) ?ha51 (fun K hK => ?ba51) (AllReadyH.cons (o := ?oa53) ?ha53 (fun K hK => ?ba53) AllReadyH.nil)
  case ha51 => (simp only [xq1, xq2, xq3]) <;> with_reducible rfl
  case ha53 => (simp only [xq1, xq2, xq3]) <;> with_reducible rfl
  case' ba51 =>
   have c4 := (uh HBDz).cells.2.1
   go_simp
   clear c4
   refine hK.out _ _ (cq_of (uh HQDz)) (fun hHeld => ?_)
   clear hK K
   try simp only [Act.put, xq4, xq5, xq6]
   refine wpAnyH_take (i := 4) (oi := ?_) (v := ?_) ?_ (by kernel_rfl) ?_ ?_ ?_ ?_ hHeld ?_
   rotate_left 2
   ·(simp only [xq1, xq2, xq3]) <;> with_reducible rfl
   ·kernel_rfl
   ·kernel_rfl
   ·exact fun _ _ _ h => h
   ·exact Or.inl ⟨by rfl, by (intro w hSw; (try dsimp only at hSw); go_simp <;> with_reducible rfl)⟩
   simp only [Act.put, xq4, xq5, xq6]
   refine wpAnyH_ready (rs := [3]) (by kernel_rfl) (by simp) ?rda51
   refine AllReadyH.cons (o := ?oa513) ?ha513 (fun K hK => ?ba513) AllReadyH.nil
   case ha513 => (simp only [xq1, xq2, xq3]) <;> with_reducible rfl
   case' ba513 =>
    have OLDe : ∃ OLD, OLD = Dz.heap.size := ⟨_, rfl⟩
    obtain ⟨OLD, hOLD⟩ := OLDe
    go_simp
    refine (uh HV _ Dz (uh HPDz)).mono ?_
    rintro e Dzv (⟨j, val, a', hM, rfl, hP3, hMv3, hJ⟩ | ⟨y, a', hM, rfl, h2, h3⟩)
    rotate_left 1
    ·exact ⟨rfl, LiP.nay hM h2 ((uh LMDz).trans (Lm.ofMv h3 (uh SZDz)))⟩
    obtain ⟨jk, jn, jt, ja1, jn1, jc1, ja2, jn2, jc2, rfl⟩ := hJ.form
    have HPDzv := hide hP3
    have HBDzv := hide ((uh HBDz).mv hMv3 hPlo hPV)
    have HQDzv := hide ((hMv3.block Q (aI (uh HQDz)).1 (fun e => hQP (Option.some.inj e))).trans (uh HQDz))
    have SZDzv : Hid (lo ≤ Dzv.heap.size) := Nat.le_trans (uh SZDz) hMv3.size
    have LMDzv : Hid (Lm w Dzv P V lo) := (uh LMDz).trans (Lm.ofMv hMv3 (uh SZDz))
    have HJDzv : Hid (JV Dzv (fun k => OLD ≤ k ∧ k < Dzv.heap.size) (.agg #[.int .i64 jk, .int .i64 jn, .string (str jt), .slice ja1 jn1 jc1, .slice ja2 jn2 jc2]) j) := JV.keep (fun k hk => ⟨⟨by rw [hOLD]; exact hk.1, hk.2⟩, rfl⟩) j _ hJ
    have HO1 : Hid (lo ≤ OLD ∧ V < OLD ∧ (∀ k, blk a1 = some k → k < OLD) ∧ (∀ k, blk a2 = some k → k < OLD)) := by rw [hOLD]; exact ⟨uh SZDz, (uh HBDz).lt, fun k hk => (owns_lt (uh HBDz).nm k hk).2, fun k hk => (owns_lt (uh HBDz).it k hk).2⟩
    have HMo := hide hM
    have HZDzv := hide ((hMv3.block Z (aI (uh HZDz)).1 (fun e => by have h5 := Option.some.inj e; have h6 := (uh HZDz); have h7 := (uh HPDz).row; rw [← h5] at h7; rw [h6] at h7; cases h7)).trans (uh HZDz))
    clear hM hP3 hMv3 hJ hOLD
    refine hK.out _ _ (cq_of (uh HQDzv)) (fun hHeld => ?_)
    clear hK K
    try simp only [Act.put, xq4, xq5, xq6]
    have HPt := HPDzv
    have HBt := HBDzv
    have HQt := HQDzv
    have SZt := SZDzv
    have LMt := LMDzv
    have HJt := HJDzv
    have HZt := HZDzv
  case' ba53 =>
   have OLDe : ∃ OLD, OLD = Dz.heap.size := ⟨_, rfl⟩
   obtain ⟨OLD, hOLD⟩ := OLDe
   go_simp
   refine (uh HV _ Dz (uh HPDz)).mono ?_
   rintro e Dzv (⟨j, val, a', hM, rfl, hP3, hMv3, hJ⟩ | ⟨y, a', hM, rfl, h2, h3⟩)
   rotate_left 1
   ·exact ⟨rfl, LiP.nay hM h2 ((uh LMDz).trans (Lm.ofMv h3 (uh SZDz)))⟩
   obtain ⟨jk, jn, jt, ja1, jn1, jc1, ja2, jn2, jc2, rfl⟩ := hJ.form
   have HPDzv := hide hP3
   have HBDzv := hide ((uh HBDz).mv hMv3 hPlo hPV)
   have HQDzv := hide ((hMv3.block Q (aI (uh HQDz)).1 (fun e => hQP (Option.some.inj e))).trans (uh HQDz))
   have SZDzv : Hid (lo ≤ Dzv.heap.size) := Nat.le_trans (uh SZDz) hMv3.size
   have LMDzv : Hid (Lm w Dzv P V lo) := (uh LMDz).trans (Lm.ofMv hMv3 (uh SZDz))
   have HJDzv : Hid (JV Dzv (fun k => OLD ≤ k ∧ k < Dzv.heap.size) (.agg #[.int .i64 jk, .int .i64 jn, .string (str jt), .slice ja1 jn1 jc1, .slice ja2 jn2 jc2]) j) := JV.keep (fun k hk => ⟨⟨by rw [hOLD]; exact hk.1, hk.2⟩, rfl⟩) j _ hJ
   have HO1 : Hid (lo ≤ OLD ∧ V < OLD ∧ (∀ k, blk a1 = some k → k < OLD) ∧ (∀ k, blk a2 = some k → k < OLD)) := by rw [hOLD]; exact ⟨uh SZDz, (uh HBDz).lt, fun k hk => (owns_lt (uh HBDz).nm k hk).2, fun k hk => (owns_lt (uh HBDz).it k hk).2⟩
   have HMo := hide hM
   have HZDzv := hide ((hMv3.block Z (aI (uh HZDz)).1 (fun e => by have h5 := Option.some.inj e; have h6 := (uh HZDz); have h7 := (uh HPDz).row; rw [← h5] at h7; rw [h6] at h7; cases h7)).trans (uh HZDz))
   clear hM hP3 hMv3 hJ hOLD
   refine hK.out _ _ (cq_of (uh HQDzv)) (fun hHeld => ?_)
   clear hK K
   try simp only [Act.put, xq4, xq5, xq6]
   refine wpAnyH_ready (rs := [1]) (by kernel_rfl) (by simp) ?rda53
   refine AllReadyH.cons (o := ?oa531) ?ha531 (fun K hK => ?ba531) AllReadyH.nil
   case ha531 => (simp only [xq1, xq2, xq3]) <;> with_reducible rfl
   case' ba531 =>
    have c4 := (uh HBDzv).cells.2.1
    go_simp
    clear c4
    refine hK.out _ _ (cq_of (uh HQDzv)) (fun hHeld => ?_)
    clear hK K
    try simp only [Act.put, xq4, xq5, xq6]
    refine wpAnyH_take (i := 4) (oi := ?_) (v := ?_) ?_ (by kernel_rfl) ?_ ?_ ?_ ?_ hHeld ?_
    rotate_left 2
    ·(simp only [xq1, xq2, xq3]) <;> with_reducible rfl
    ·kernel_rfl
    ·kernel_rfl
    ·exact fun _ _ _ h => h
    ·exact Or.inl ⟨by rfl, by (intro w hSw; (try dsimp only at hSw); go_simp <;> with_reducible rfl)⟩
    simp only [Act.put, xq4, xq5, xq6]
    have HPt := HPDzv
    have HBt := HBDzv
    have HQt := HQDzv
    have SZt := SZDzv
    have LMt := LMDzv
    have HJt := HJDzv
    have HZt := HZDzv
 all_goals
  refine wpAnyH_ready (rs := [6]) (by kernel_rfl) (by simp) ?_
  refine AllReadyH.cons (o := ?_) ?_ (fun K hK => ?_) AllReadyH.nil
  rotate_left 1
  ·(simp only [xq1, xq2, xq3]) <;> with_reducible rfl
  ·refine stp_appz _ rfl (.tmp 3) (.tmp 7) rfl lo a2 c2 is.length xs rfl (uh HBt).it Z _ rfl (uh HZt) his (uh SZt) ?_
   intro g cap w2 HO HG HAT HGL
   have hglo : lo ≤ g := (owns_lt (uh HO) g rfl).1
   have hQ2 : w2.heap[Q]? = some (.cells #[.pointer (some ⟨P, 0, none⟩)] 131 (0, 0)) := ((uh HG).block Q (aI (uh HQt)).1 (fun e => by have := (owns_lt (uh HBt).it Q e.symm).1; omega)).trans (uh HQt)
   have hV2 : w2.heap[V]? = some (.cells #[.int .i64 kk, .int .i64 0, .string ⟨#[]⟩, .slice a1 ns.length c1, .slice a2 is.length c2] 44 (0, 0)) := ((uh HG).block V (uh HBt).lt (fun e => (uh HBt).v2 e.symm)).trans (uh HBt).row
   have HQ2 := hide hQ2
   have HV2 := hide hV2
   have hxl : xs.length = is.length * 5 := (uh HBt).it.1
   have hgV : g ≠ V := by
    rintro rfl
    rcases uh HAT with e | e
    ·exact (uh HBt).v2 e
    ·have := (uh HBt).lt; omega
   have LM2 : Hid (Lm w w2 P V lo) := (uh LMt).trans (Lm.ofG (uh HG) (uh SZt) (fun k hk => (owns_lt (uh HBt).it k hk).1))
   have hz5 : ∀ m v, zJ[m]? = some v → (xs ++ zJ)[is.length * 5 + m]? = some v := fun m v hm => by rw [List.getElem?_append_right (by omega), show is.length * 5 + m - xs.length = m by omega]; exact hm
   obtain ⟨e0, f0⟩ := owns_cell (uh HO) _ _ (hz5 0 _ rfl)
   obtain ⟨e1, f1⟩ := owns_cell (uh HO) _ _ (hz5 1 _ rfl)
   obtain ⟨e2, f2⟩ := owns_cell (uh HO) _ _ (hz5 2 _ rfl)
   obtain ⟨e3, f3⟩ := owns_cell (uh HO) _ _ (hz5 3 _ rfl)
   obtain ⟨e4, f4⟩ := owns_cell (uh HO) _ _ (hz5 4 _ rfl)
   rw [Nat.add_zero] at e0 f0
   have c4 : w2.cell? ⟨V, 4, none⟩ = some (.slice a2 is.length c2) := cR6 hV2
   have cfV : w2.frozen? ⟨V, 4, none⟩ = false := frozen_of_row _ _ _ _ _ hV2
   have HXL := hide hxl
   have HZ5 := hide hz5
   clear hQ2 hV2 hxl hz5
   refine hK.out _ _ (cq_of (uh HQ2)) (fun hHeld => ?_)
   clear hK K
   try simp only [Act.put, xq4, xq5, xq6]
   have hil : (is.length : Int) < (is.length : Int) + 1 := by omega
   refine wpAnyH_take (i := 7) (oi := ?_) (v := ?_) ?_ (by kernel_rfl) ?_ ?_ ?_ ?_ hHeld ?_
   rotate_left 2
   ·(simp only [xq1, xq2, xq3]) <;> with_reducible rfl
   ·kernel_rfl
   ·kernel_rfl
   ·exact fun _ _ _ h => h
   ·exact Or.inl ⟨by rfl, by (intro w hSw; (try dsimp only at hSw); go_simp <;> with_reducible rfl)⟩
   simp only [Act.put, xq4, xq5, xq6]
   refine wpAnyH_take (i := 9) (oi := ?_) (v := ?_) ?_ (by kernel_rfl) ?_ ?_ ?_ ?_ hHeld ?_
   rotate_left 2
   ·(simp only [xq1, xq2, xq3]) <;> with_reducible rfl
   ·kernel_rfl
   ·kernel_rfl
   ·exact fun _ _ _ h => h
   ·exact Or.inl ⟨by rfl, by (intro w hSw; (try dsimp only at hSw); go_simp <;> with_reducible rfl)⟩
   simp only [Act.put, xq4, xq5, xq6]
   refine wpAnyH_ready (rs := [8, 10]) (by kernel_rfl) (by simp) ?_
   refine AllReadyH.cons (o := ?_) ?_ (fun K hK => ?_) (AllReadyH.cons (o := ?_) ?_ (fun K hK => ?_) AllReadyH.nil)
   rotate_left 1
   ·(simp only [xq1, xq2, xq3]) <;> with_reducible rfl
   ·obtain ⟨w5, h5⟩ : ∃ w5, w5 = ((((w2.setCell ⟨g, is.length * 5, none⟩ (.int .i64 jk)).setCell ⟨g, is.length * 5 + 1, none⟩ (.int .i64 jn)).setCell ⟨g, is.length * 5 + 2, none⟩ (.string (str jt))).setCell ⟨g, is.length * 5 + 3, none⟩ (.slice ja1 jn1 jc1)).setCell ⟨g, is.length * 5 + 4, none⟩ (.slice ja2 jn2 jc2) := ⟨_, rfl⟩
    have o5 : OwnJ w5 lo (some ⟨g, 0, none⟩) cap (is.length + 1) (xs ++ [.int .i64 jk, .int .i64 jn, .string (str jt), .slice ja1 jn1 jc1, .slice ja2 jn2 jc2]) := by rw [h5]; exact own5 (uh HO) (uh HXL) _ _ _ _ _
    have k5 : ∀ k, k ≠ g → w5.heap[k]? = w2.heap[k]? := fun k hk => by rw [h5]; exact far5 w2 g k _ _ _ _ _ _ _ _ _ _ hk
    have z5 : w5.heap.size = w2.heap.size := by rw [h5]; exact siz5 w2 g _ _ _ _ _ _ _ _ _ _
    have l5 : Lm w w5 P V lo := by rw [h5]; exact (((((uh LM2).trans (Lm.set (.inr hglo))).trans (Lm.set (.inr hglo))).trans (Lm.set (.inr hglo))).trans (Lm.set (.inr hglo))).trans (Lm.set (.inr hglo))
    have q5 : w5.heap[Q]? = some (.cells #[.pointer (some ⟨P, 0, none⟩)] 131 (0, 0)) := (k5 Q (by omega)).trans (uh HQ2)
    have r5 : w5.heap[V]? = some (.cells #[.int .i64 kk, .int .i64 0, .string ⟨#[]⟩, .slice a1 ns.length c1, .slice a2 is.length c2] 44 (0, 0)) := (k5 V (Ne.symm hgV)).trans (uh HV2)
    have c5 : w5.cell? ⟨V, 4, none⟩ = some (.slice a2 is.length c2) := cR6 r5
    have cf5 : w5.frozen? ⟨V, 4, none⟩ = false := frozen_of_row _ _ _ _ _ r5
    have HO5 := hide o5
    have HK5 := hide k5
    have HZz := hide z5
    have HL5 := hide l5
    have HQ5 := hide q5
    have HR5 := hide r5
    clear o5 k5 z5 l5 q5 r5 c4 cfV
    go_simp
    rw [← h5]
    clear h5 e0 e1 e2 e3 e4 f0 f1 f2 f3 f4
    refine hK.out _ _ (cq_of (uh HQ5)) (fun hHeld => ?_)
    clear hK K
    try simp only [Act.put, xq4, xq5, xq6]
    refine wpAnyH_ready (rs := [10]) (by kernel_rfl) (by simp) ?_
    refine AllReadyH.cons (o := ?_) ?_ (fun K hK => ?_) AllReadyH.nil
    rotate_left 1
    ·(simp only [xq1, xq2, xq3]) <;> with_reducible rfl
    ·obtain ⟨w6, h6⟩ : ∃ w6, w6 = w5.setCell ⟨V, 4, none⟩ (.slice (some ⟨g, 0, none⟩) (is.length + 1) cap) := ⟨_, rfl⟩
     have g6 := grownBy_setCell w5 ⟨V, 4, none⟩ (.slice (some ⟨g, 0, none⟩) (is.length + 1) cap)
     rw [← h6] at g6
     have k6 : ∀ k, k ≠ V → k ≠ g → w6.heap[k]? = w2.heap[k]? := fun k n1 n2 => (by rw [h6]; exact Below.heap_setCell _ ⟨V, 4, none⟩ _ k n1 : w6.heap[k]? = w5.heap[k]?).trans (uh HK5 k n2)
     have r6 : w6.heap[V]? = some (.cells #[.int .i64 kk, .int .i64 0, .string ⟨#[]⟩, .slice a1 ns.length c1, .slice (some ⟨g, 0, none⟩) (is.length + 1) cap] 44 (0, 0)) := by rw [h6]; exact hS6 (uh HR5)
     have o6 : OwnJ w6 lo (some ⟨g, 0, none⟩) cap (is.length + 1) (xs ++ [.int .i64 jk, .int .i64 jn, .string (str jt), .slice ja1 jn1 jc1, .slice ja2 jn2 jc2]) := owns_same (uh HO5) (fun k hk => by rw [h6]; exact Below.heap_setCell _ ⟨V, 4, none⟩ _ k (fun e => by simp [blk] at hk; simp only at e; omega))
     have z6 : w6.heap.size = w2.heap.size := by rw [h6, siz1]; exact uh HZz
     have q6 : w6.heap[Q]? = some (.cells #[.pointer (some ⟨P, 0, none⟩)] 131 (0, 0)) := (k6 Q hQV (by omega)).trans (uh HQ2)
     have l6 : Lm w w6 P V lo := by rw [h6]; exact (uh HL5).trans (Lm.set (.inl rfl))
     have HE : Hid (Bv w6 V lo kk ns (is ++ [j]) a1 c1 (some ⟨g, 0, none⟩) cap (xs ++ [.int .i64 jk, .int .i64 jn, .string (str jt), .slice ja1 jn1 jc1, .slice ja2 jn2 jc2])) := (uh HBt).push (uh HJt) (uh HO1).1 (uh HO1).2.1 (uh HO1).2.2.1 (uh HO1).2.2.2 (uh HG) (uh HAT) (uh HGL) r6 o6 k6 z6
     have HP6 : Hid (Pa w6 P T a' dd) := pa_keep (uh HPt) (uh HG) (fun k hk => (owns_lt (uh HBt).it k hk).1) k6 hPlo hPV hglo hg4 hgV4
     have HQ6 := hide q6
     have HL6 := hide l6
     clear g6 k6 r6 o6 z6 q6 l6
     go_simp
     rw [← h6]
     clear h6 c5 cf5
     refine hK.out _ _ (cq_of (uh HQ6)) (fun hHeld => ?_)
     clear hK K
     try simp only [Act.put, xq4, xq5, xq6]
     refine wpAnyH_done (by kernel_rfl) ?_ _
     go_end0
     exact .inl ⟨j, a', a1, c1, _, _, _, uh HMo, rfl, uh HP6, uh HL6, uh HQ6, uh HE⟩
   rotate_left 1
   ·(simp only [xq1, xq2, xq3]) <;> with_reducible rfl
   ·obtain ⟨w5, h5⟩ : ∃ w5, w5 = w2.setCell ⟨V, 4, none⟩ (.slice (some ⟨g, 0, none⟩) (is.length + 1) cap) := ⟨_, rfl⟩
    have k5 : ∀ k, k ≠ V → w5.heap[k]? = w2.heap[k]? := fun k n1 => by rw [h5]; exact Below.heap_setCell _ ⟨V, 4, none⟩ _ k n1
    have o5 : OwnJ w5 lo (some ⟨g, 0, none⟩) cap (is.length + 1) (xs ++ zJ) := owns_same (uh HO) (fun k hk => k5 k (fun e => by simp [blk] at hk; omega))
    have r5 : w5.heap[V]? = some (.cells #[.int .i64 kk, .int .i64 0, .string ⟨#[]⟩, .slice a1 ns.length c1, .slice (some ⟨g, 0, none⟩) (is.length + 1) cap] 44 (0, 0)) := by rw [h5]; exact hS6 (uh HV2)
    have z5 : w5.heap.size = w2.heap.size := by rw [h5, siz1]
    have q5 : w5.heap[Q]? = some (.cells #[.pointer (some ⟨P, 0, none⟩)] 131 (0, 0)) := (k5 Q hQV).trans (uh HQ2)
    have l5 : Lm w w5 P V lo := by rw [h5]; exact (uh LM2).trans (Lm.set (.inl rfl))
    clear e0 e1 e2 e3 e4 f0 f1 f2 f3 f4
    obtain ⟨e0, f0⟩ := owns_cell o5 _ _ (uh HZ5 0 _ rfl)
    obtain ⟨e1, f1⟩ := owns_cell o5 _ _ (uh HZ5 1 _ rfl)
    obtain ⟨e2, f2⟩ := owns_cell o5 _ _ (uh HZ5 2 _ rfl)
    obtain ⟨e3, f3⟩ := owns_cell o5 _ _ (uh HZ5 3 _ rfl)
    obtain ⟨e4, f4⟩ := owns_cell o5 _ _ (uh HZ5 4 _ rfl)
    rw [Nat.add_zero] at e0 f0
    have HO5 := hide o5
    have HK5 := hide k5
    have HZz := hide z5
    have HL5 := hide l5
    have HQ5 := hide q5
    have HR5 := hide r5
    clear o5 k5 z5 l5 q5 r5
    go_simp
    rw [← h5]
    clear h5 c4 cfV
    refine hK.out _ _ (cq_of (uh HQ5)) (fun hHeld => ?_)
    clear hK K
    try simp only [Act.put, xq4, xq5, xq6]
    refine wpAnyH_ready (rs := [8]) (by kernel_rfl) (by simp) ?_
    refine AllReadyH.cons (o := ?_) ?_ (fun K hK => ?_) AllReadyH.nil
    rotate_left 1
    ·(simp only [xq1, xq2, xq3]) <;> with_reducible rfl
    ·obtain ⟨w6, h6⟩ : ∃ w6, w6 = ((((w5.setCell ⟨g, is.length * 5, none⟩ (.int .i64 jk)).setCell ⟨g, is.length * 5 + 1, none⟩ (.int .i64 jn)).setCell ⟨g, is.length * 5 + 2, none⟩ (.string (str jt))).setCell ⟨g, is.length * 5 + 3, none⟩ (.slice ja1 jn1 jc1)).setCell ⟨g, is.length * 5 + 4, none⟩ (.slice ja2 jn2 jc2) := ⟨_, rfl⟩
     have o6 : OwnJ w6 lo (some ⟨g, 0, none⟩) cap (is.length + 1) (xs ++ [.int .i64 jk, .int .i64 jn, .string (str jt), .slice ja1 jn1 jc1, .slice ja2 jn2 jc2]) := by rw [h6]; exact own5 (uh HO5) (uh HXL) _ _ _ _ _
     have k6' : ∀ k, k ≠ g → w6.heap[k]? = w5.heap[k]? := fun k hk => by rw [h6]; exact far5 w5 g k _ _ _ _ _ _ _ _ _ _ hk
     have k6 : ∀ k, k ≠ V → k ≠ g → w6.heap[k]? = w2.heap[k]? := fun k n1 n2 => (k6' k n2).trans (uh HK5 k n1)
     have z6 : w6.heap.size = w2.heap.size := by rw [h6, siz5]; exact uh HZz
     have l6 : Lm w w6 P V lo := by rw [h6]; exact (((((uh HL5).trans (Lm.set (.inr hglo))).trans (Lm.set (.inr hglo))).trans (Lm.set (.inr hglo))).trans (Lm.set (.inr hglo))).trans (Lm.set (.inr hglo))
     have r6 := (k6' V (Ne.symm hgV)).trans (uh HR5)
     have q6 : w6.heap[Q]? = some (.cells #[.pointer (some ⟨P, 0, none⟩)] 131 (0, 0)) := (k6 Q hQV (by omega)).trans (uh HQ2)
     have HE : Hid (Bv w6 V lo kk ns (is ++ [j]) a1 c1 (some ⟨g, 0, none⟩) cap (xs ++ [.int .i64 jk, .int .i64 jn, .string (str jt), .slice ja1 jn1 jc1, .slice ja2 jn2 jc2])) := (uh HBt).push (uh HJt) (uh HO1).1 (uh HO1).2.1 (uh HO1).2.2.1 (uh HO1).2.2.2 (uh HG) (uh HAT) (uh HGL) r6 o6 k6 z6
     have HP6 : Hid (Pa w6 P T a' dd) := pa_keep (uh HPt) (uh HG) (fun k hk => (owns_lt (uh HBt).it k hk).1) k6 hPlo hPV hglo hg4 hgV4
     have HQ6 := hide q6
     have HL6 := hide l6
     clear k6 k6' r6 o6 z6 q6 l6
     go_simp
     rw [← h6]
     clear h6 e0 e1 e2 e3 e4 f0 f1 f2 f3 f4
     refine hK.out _ _ (cq_of (uh HQ6)) (fun hHeld => ?_)
     clear hK K
     try simp only [Act.put, xq4, xq5, xq6]
     refine wpAnyH_done (by kernel_rfl) ?_ _
     go_end0
     exact .inl ⟨j, a', a1, c1, _, _, _, uh HMo, rfl, uh HP6, uh HL6, uh HQ6, uh HE⟩
end Go.Proofs.YtmpjeahibfdehaaGreatDoor
end
section
set_option linter.unusedVariables false
set_option maxRecDepth 1000000
namespace Go.Proofs.YtmpjeahibfdehaaGreatDoor
open Go.RowKit

/-- No more is left than there was. -/
def VaL (V : List UInt8 → Rs Js) : Prop := ∀ l v r, V l = .ok v r → r.length ≤ l.length
def mbL (V : List UInt8 → Rs Js) (acc : List Js) (l : List UInt8) : Rs (List Js) := match V l with | .no r y => .no r y | .ok v r => .ok (acc ++ [v]) r
theorem li_me (V : List UInt8 → Rs Js) : ∀ (f : Nat) (acc : List Js) (l : List UInt8), liL V f acc l = meL (mbL V) f acc l
 | 0, acc, l => rfl
 | f + 1, acc, l => by
  rw [liL, meL, mbL]
  cases hV : V l with
  | no r y => rfl
  | ok v r =>
   simp only
   cases hs : skB r with
   | nil => rfl
   | cons c r2 =>
    simp only
    split
    ·exact li_me V f _ _
    ·rfl
theorem Bv.done {w : World} {V lo : Nat} {k : Int} {ns : List (List UInt8)} {is : List Js} {a1 : Option Addr} {c1 : Nat} {a2 : Option Addr} {c2 : Nat} {xs : List Value} (h : Bv w V lo k ns is a1 c1 a2 c2 xs) : JV w (fun b => lo ≤ b ∧ b < w.heap.size) (.agg #[.int .i64 k, .int .i64 0, .string ⟨#[]⟩, .slice a1 ns.length c1, .slice a2 is.length c2]) (.mk k 0 [] ns is) := by
 simp only [JV]
 have n1 : ns.length ≤ c1 ∧ c1 ≤ maxLen ∧ (a1 = none → c1 = 0) := by
  rcases owns_cases h.nm with ⟨rfl, rfl, h0, _⟩ | ⟨g, cur, rfl, _, _, h1, h2, _⟩
  ·exact ⟨by omega, by unfold maxLen; omega, fun _ => rfl⟩
  ·exact ⟨h1, h2, fun e => by cases e⟩
 have n2 : is.length ≤ c2 ∧ c2 ≤ maxLen ∧ (a2 = none → c2 = 0) := by
  rcases owns_cases h.it with ⟨rfl, rfl, h0, _⟩ | ⟨g, cur, rfl, _, _, h1, h2, _⟩
  ·exact ⟨by omega, by unfold maxLen; omega, fun _ => rfl⟩
  ·exact ⟨h1, h2, fun e => by cases e⟩
 refine ⟨a1, c1, a2, c2, rfl, ?_, n1.1, n1.2.1, n1.2.2, n2.1, n2.2.1, n2.2.2, ?_⟩
 ·intro hne
  rcases owns_cases h.nm with ⟨_, _, h0, _⟩ | ⟨g, cur, rfl, hb, hg, _⟩
  ·exact absurd (List.eq_nil_of_length_eq_zero h0) hne
  ·refine ⟨g, 0, rfl, ⟨hb, (aI hg).1⟩, fun i s hs => ?_⟩
   rw [Nat.zero_add]
   exact (owns_cell h.nm i _ (nsv_get ns i s hs)).1
 ·rw [jvs_iff]
  intro m j hj
  rw [Nat.zero_add]
  obtain ⟨v, ⟨v0, v1, v2, v3, v4, rfl, q0, q1, q2, q3, q4⟩, hv⟩ := h.el m j hj
  rcases owns_cases h.it with ⟨_, _, h0, _⟩ | ⟨g, cur, rfl, hb, hg, _⟩
  ·rw [List.eq_nil_of_length_eq_zero h0] at hj; simp at hj
  ·refine ⟨g, 0, v0, v1, v2, v3, v4, rfl, ⟨hb, (aI hg).1⟩, ?_, ?_, ?_, ?_, ?_, JV.keep (fun b hb => ⟨⟨hb.1, hb.2.1⟩, rfl⟩) j _ hv⟩
   ·rw [Nat.zero_add]; exact (owns_cell h.it _ _ q0).1
   ·rw [Nat.zero_add]; exact (owns_cell h.it _ _ q1).1
   ·rw [Nat.zero_add]; exact (owns_cell h.it _ _ q2).1
   ·rw [Nat.zero_add]; exact (owns_cell h.it _ _ q3).1
   ·rw [Nat.zero_add]; exact (owns_cell h.it _ _ q4).1
/-- A list, from behind its bracket on. -/
def liF (V : List UInt8 → Rs Js) (r : List UInt8) : Rs Js := match mmM 93 [] (fun l => liL V (l.length + 1) [] l) r with | .no r2 y => .no r2 y | .ok x r2 => .ok (.mk 4 0 [] [] x) r2
theorem liF_ok {V : List UInt8 → Rs Js} {r : List UInt8} {x : List Js} {r2 : List UInt8} (h : mmM 93 [] (fun l => liL V (l.length + 1) [] l) r = .ok x r2) : liF V r = .ok (.mk 4 0 [] [] x) r2 := by unfold liF; rw [h]
theorem liF_no {V : List UInt8 → Rs Js} {r : List UInt8} {r2 : List UInt8} {y : Nat} (h : mmM 93 [] (fun l => liL V (l.length + 1) [] l) r = .no r2 y) : liF V r = .no r2 y := by unfold liF; rw [h]
/-- The list's own state. -/
def LiI (P V Q lo : Nat) (w : World) (s : List Js) (n : Nat) : Prop := s.length ≤ n ∧ w.heap[Q]? = some (.cells #[.pointer (some ⟨P, 0, none⟩)] 131 (0, 0)) ∧ ∃ a1 c1 a2 c2 xs, Bv w V lo 4 [] s a1 c1 a2 c2 xs
theorem below3 (w : World) (A B C : Obj) : Below w.heap.size w (((w.alloc A).alloc B).alloc C) := (below2 w A B).alloc (by simp; omega) _
set_option maxHeartbeats 4000000 in
theorem list_any (P : Nat) (T : List UInt8) (d : Nat) (Vf : List UInt8 → Rs Js) (hV : VaC P T (d + 1) Vf) (hL : VaL Vf) (a : Nat) (r : List UInt8) (w : World) (h : Pa w P T a d) (hd : d < 16) (hl : T.drop a = 91 :: r) :
  Calls Tryz.prog 103 #[.pointer (some ⟨P, 0, none⟩)] w fun e w' => Po (fun j val w' => JV w' (Nw w w') val j) T w P d (liF Vf r) e w' := by
 obtain ⟨S, hS⟩ : ∃ S, S = w.heap.size := ⟨_, rfl⟩
 obtain ⟨W, hW⟩ : ∃ W, W = ((w.alloc (.cells #[.pointer (some ⟨P, 0, none⟩)] 131)).alloc (.cells #[.int .i64 0, .int .i64 0, .string ⟨#[]⟩, .slice none 0 0, .slice none 0 0] 44)).alloc (.cells #[.int .i64 4, .int .i64 0, .string ⟨#[]⟩, .slice none 0 0, .slice none 0 0] 44) := ⟨_, rfl⟩
 have hbW : Below w.heap.size w W := by rw [hW]; exact below3 _ _ _ _
 have hsW : W.heap.size = S + 3 := by rw [hW, hS]; simp
 have hQ : W.heap[S]? = some (.cells #[.pointer (some ⟨P, 0, none⟩)] 131 (0, 0)) := by
  rw [hW, hS, heap_alloc_old _ _ (by simp; omega), heap_alloc_old _ _ (by simp)]; exact heap_alloc_new _ _
 have hR : W.heap[S + 1]? = some (.cells #[.int .i64 0, .int .i64 0, .string ⟨#[]⟩, .slice none 0 0, .slice none 0 0] 44 (0, 0)) := by
  rw [hW, hS, heap_alloc_old _ _ (by simp)]; exact heap_alloc2_new _ _ _
 have hVr : W.heap[S + 2]? = some (.cells #[.int .i64 4, .int .i64 0, .string ⟨#[]⟩, .slice none 0 0, .slice none 0 0] 44 (0, 0)) := by
  rw [hW, hS]
  have e : w.heap.size + 2 = ((w.alloc (.cells #[.pointer (some ⟨P, 0, none⟩)] 131)).alloc (.cells #[.int .i64 0, .int .i64 0, .string ⟨#[]⟩, .slice none 0 0, .slice none 0 0] 44)).heap.size := by simp
  rw [e]; exact heap_alloc_new _ _
 have hPS : P < S := by rw [hS]; exact h.lt
 have hg := h.gp
 have hBv : Bv W (S + 2) (S + 3) 4 [] [] none 0 none 0 [] := ⟨hVr, World.ownsRow_nil W _ _ _, World.ownsRow_nil W _ _ _, fun m j hj => by simp at hj, by simp [blk], by simp [blk], fun k hk => by simp [blk] at hk⟩
 have HMem : Hid (∀ (w : World) (a : Nat) (s : List Js) (n : Nat), Pa w P T a (d + 1) → LiI P (S + 2) S (S + 3) w s n → S + 3 ≤ w.heap.size → n ≤ 65536 → Calls Tryz.prog 139 #[.pointer (some ⟨S + 2, 0, none⟩), .pointer (some ⟨S, 0, none⟩)] w fun e w' => (∃ s' a', mbL Vf s (T.drop a) = .ok s' (T.drop a') ∧ e = .returned (.tuple #[]) ∧ Pa w' P T a' (d + 1) ∧ Lm w w' P (S + 2) (S + 3) ∧ LiI P (S + 2) S (S + 3) w' s' (n + 1)) ∨ (∃ y a', mbL Vf s (T.drop a) = .no (T.drop a') y ∧ e = flt a' y ∧ a' ≤ T.length ∧ Lm w w' P (S + 2) (S + 3))) := by
  intro w a s n hp hi hz hn
  obtain ⟨hi1, hi2, a1, c1, a2, c2, xs, hi3⟩ := hi
  refine (list1_any P T (d + 1) Vf hV (S + 2) S (S + 3) a 4 [] s a1 c1 a2 c2 xs w hp hi3 hi2 (by omega) (by omega) (by omega) (by omega) (by omega) hz (by omega) (by omega) (by omega)).mono ?_
  rintro e w' (⟨j, a', b1, d1, b2, d2, ys, hM, rfl, hp', hlm, hq, hb⟩ | ⟨y, a', hM, rfl, h2, h3⟩)
  ·exact .inl ⟨s ++ [j], a', by simp only [mbL, hM], rfl, hp', hlm, by simp; omega, hq, b1, d1, b2, d2, ys, hb⟩
  ·exact .inr ⟨y, a', by simp only [mbL, hM], rfl, h2, h3⟩
 have hIk : ∀ w w' s n, LiI P (S + 2) S (S + 3) w s n → S + 3 ≤ w.heap.size → Mv w w' P → LiI P (S + 2) S (S + 3) w' s n := by
  rintro w w' s n ⟨h1, h2, a1, c1, a2, c2, xs, h3⟩ hz hm
  exact ⟨h1, (hm.block S (by omega) (fun e => by have := Option.some.inj e; omega)).trans h2, a1, c1, a2, c2, xs, h3.mv hm (by omega) (by omega)⟩
 have hlen : ∀ s l s' r, mbL Vf s l = .ok s' r → r.length ≤ l.length := by
  intro s l s' r hm
  unfold mbL at hm
  cases hv : Vf l with
  | no r y => rw [hv] at hm; cases hm
  | ok v r2 => rw [hv] at hm; simp only [Rs.ok.injEq] at hm; rw [← hm.2]; exact hL l v r2 hv
 have HME := hide (members_l P T d (S + 2) (S + 3) S 93 (mbL Vf) (LiI P (S + 2) S (S + 3)) hIk (uh HMem) hlen a [] 91 r W (h.below hbW) hd hl ⟨Nat.zero_le _, hQ, none, 0, none, 0, [], hBv⟩ (by omega))
 have hfun : (fun l => meL (mbL Vf) (l.length + 1) [] l) = (fun l => liL Vf (l.length + 1) [] l) := funext fun l => (li_me Vf _ _ _).symm
 rw [hfun] at HME
 obtain ⟨R2, hR2⟩ : ∃ R2, R2 = liF Vf r := ⟨_, rfl⟩
 have HOK : Hid (∀ x r2, mmM 93 [] (fun l => liL Vf (l.length + 1) [] l) r = .ok x r2 → R2 = .ok (.mk 4 0 [] [] x) r2) := fun x r2 hx => by rw [hR2]; exact liF_ok hx
 have HNO : Hid (∀ r2 y, mmM 93 [] (fun l => liL Vf (l.length + 1) [] l) r = .no r2 y → R2 = .no r2 y) := fun r2 y hx => by rw [hR2]; exact liF_no hx
 rw [← hR2]
 have HQ := hide hQ
 have HR := hide hR
 have cQ : W.cell? ⟨S, 0, none⟩ = some (.pointer (some ⟨P, 0, none⟩)) := cq_of hQ
 have HbW := hide hbW
 have HS := hide hS
 have HsW := hide hsW
 have HPS := hide hPS
 rw [show ((93 : UInt8).toNat : Int) = 93 from rfl] at HME
 clear hBv HMem hIk hlen hfun hQ hR hVr hbW h hg hR2 hV hL hsW hPS hl
 have hmf : ∀ (fn : Fn) (first cap : Array Value) (w : World), (Instr.makeFunc fn first cap).run Tryz.prog w = .ok (.func fn first cap) w := fun _ _ _ _ => rfl
 go_enter Tryz.func103, Tryz.ntmps103
 go_upto_region 2 with fail
 rw [← hW, ← hS]
 clear hW hS
 go_wp2_with fail
 refine (uh HME).mono ?_
 rintro e w5 (⟨s, a5, n, hM5, rfl, hP5, hL5, hI5⟩ | ⟨y, a5, hM5, rfl, h2, h3⟩)
 rotate_left 1
 ·refine ⟨rfl, Po.nay (uh HNO _ _ hM5) h2 ?_⟩
  exact ⟨h3.os.trans (uh HbW).os, h3.tape.trans (uh HbW).tape, h3.output.trans (uh HbW).output, Nat.le_trans (uh HbW).size h3.size, fun k hk hn => (h3.block k (by have := uh HS; omega) (fun e => hn (by rw [e])) (by have := uh HS; omega)).trans ((uh HbW).block k hk)⟩
 ·obtain ⟨_, _, a1, c1, a2, c2, xs, hB⟩ := hI5
  have r5 := hB.row
  have g0 : w5.cell? ⟨S + 2, 0, none⟩ = some (.int .i64 4) := cR6 r5
  have g1 : w5.cell? ⟨S + 2, 1, none⟩ = some (.int .i64 0) := cR6 r5
  have g2 : w5.cell? ⟨S + 2, 2, none⟩ = some (.string ⟨#[]⟩) := cR6 r5
  have g3 : w5.cell? ⟨S + 2, 3, none⟩ = some (.slice a1 0 c1) := cR6 r5
  have g4 : w5.cell? ⟨S + 2, 4, none⟩ = some (.slice a2 s.length c2) := cR6 r5
  have R5 : w5.heap[S + 1]? = some (.cells #[.int .i64 0, .int .i64 0, .string ⟨#[]⟩, .slice none 0 0, .slice none 0 0] 44 (0, 0)) := (hL5.block (S + 1) (by omega) (by have := uh HPS; omega) (by omega)).trans (uh HR)
  have q0 : w5.cell? ⟨S + 1, 0, none⟩ = some (.int .i64 0) := cR6 R5
  have q1 : w5.cell? ⟨S + 1, 1, none⟩ = some (.int .i64 0) := cR6 R5
  have q2 : w5.cell? ⟨S + 1, 2, none⟩ = some (.string ⟨#[]⟩) := cR6 R5
  have q3 : w5.cell? ⟨S + 1, 3, none⟩ = some (.slice none 0 0) := cR6 R5
  have q4 : w5.cell? ⟨S + 1, 4, none⟩ = some (.slice none 0 0) := cR6 R5
  have fz : ∀ j, w5.frozen? ⟨S + 1, j, none⟩ = false := fun j => frozen_of_row _ _ _ _ _ R5
  have f0 := fz 0
  have f1 := fz 1
  have f2 := fz 2
  have f3 := fz 3
  have f4 := fz 4
  obtain ⟨w6, h6⟩ : ∃ w6, w6 = ((((w5.setCell ⟨S + 1, 0, none⟩ (.int .i64 4)).setCell ⟨S + 1, 1, none⟩ (.int .i64 0)).setCell ⟨S + 1, 2, none⟩ (.string ⟨#[]⟩)).setCell ⟨S + 1, 3, none⟩ (.slice a1 0 c1)).setCell ⟨S + 1, 4, none⟩ (.slice a2 s.length c2) := ⟨_, rfl⟩
  have k6 : ∀ k, k ≠ S + 1 → w6.heap[k]? = w5.heap[k]? := fun k hk => by rw [h6]; exact far5 w5 (S + 1) k _ _ _ _ _ _ _ _ _ _ hk
  have z6 : w6.heap.size = w5.heap.size := by rw [h6]; exact siz5 w5 _ _ _ _ _ _ _ _ _ _ _
  have R6 : w6.heap[S + 1]? = some (.cells #[.int .i64 4, .int .i64 0, .string ⟨#[]⟩, .slice a1 0 c1, .slice a2 s.length c2] 44 (0, 0)) := by
   rw [h6]
   exact hS6 (hS6 (hS6 (hS6 (hS6 R5))))
  have t0 : w6.cell? ⟨S + 1, 0, none⟩ = some (.int .i64 4) := cR6 R6
  have t1 : w6.cell? ⟨S + 1, 1, none⟩ = some (.int .i64 0) := cR6 R6
  have t2 : w6.cell? ⟨S + 1, 2, none⟩ = some (.string ⟨#[]⟩) := cR6 R6
  have t3 : w6.cell? ⟨S + 1, 3, none⟩ = some (.slice a1 0 c1) := cR6 R6
  have t4 : w6.cell? ⟨S + 1, 4, none⟩ = some (.slice a2 s.length c2) := cR6 R6
  have HJ : Hid (JV w6 (Nw w w6) (.agg #[.int .i64 4, .int .i64 0, .string ⟨#[]⟩, .slice a1 0 c1, .slice a2 s.length c2]) (.mk 4 0 [] [] s)) := JV.keep (fun k hk => ⟨⟨by have := uh HS; omega, by omega⟩, k6 k (by omega)⟩) _ _ hB.done
  have hgp := hP5.gp
  have HP6 : Hid (Pa w6 P T a5 d) := { hP5 with row := (k6 P (by have := uh HPS; omega)).trans hP5.row, tb := hP5.tb.keep (fun k hk => k6 k (by have := uh HPS; rcases hk with rfl | rfl <;> omega)) }
  have HM6 : Hid (Mv w w6 P) := ⟨by rw [h6]; exact hL5.os.trans (uh HbW).os, by rw [h6]; exact hL5.tape.trans (uh HbW).tape, by rw [h6]; exact hL5.output.trans (uh HbW).output, by rw [z6]; exact Nat.le_trans (uh HbW).size hL5.size, fun k hk hn => (k6 k (by have := uh HS; omega)).trans ((hL5.block k (by have := uh HS; omega) (fun e => hn (by rw [e])) (by have := uh HS; omega)).trans ((uh HbW).block k hk))⟩
  have HM := hide hM5
  clear hB r5 R5 fz k6 z6 R6 hP5 hL5 hM5 HME cQ HR HQ
  go_wp2_with fail
  rw [← h6]
  clear h6
  refine ⟨rfl, .agg #[.int .i64 4, .int .i64 0, .string ⟨#[]⟩, .slice a1 0 c1, .slice a2 s.length c2], by simp [results, Tryz.results103, go_sem, t0, t1, t2, t3, t4], ?_⟩
  exact Po.yes (uh HOK _ _ (uh HM)) (uh HP6) (uh HM6) (uh HJ)
end Go.Proofs.YtmpjeahibfdehaaGreatDoor
end
