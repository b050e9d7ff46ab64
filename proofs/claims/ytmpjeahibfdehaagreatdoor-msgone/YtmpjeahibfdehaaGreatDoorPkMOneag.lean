/-
  jsonx: values in memory.; jsonx: a list or an object in the midst of being read.; jsonx: members.
-/
import Derived.Test.YtmpjeahibfdehaaGreatDoorPkMOneaf
import Derived.Deep.AppendLies
section
set_option linter.unusedVariables false
set_option maxRecDepth 1000000
namespace Go.Proofs.YtmpjeahibfdehaaGreatDoor
open Go.RowKit

/-- Names that are read, in blocks of S. -/
def NsF (w : World) (S : Nat → Prop) (a : Option Addr) (l : List (List UInt8)) : Prop := l ≠ [] → ∃ b off, a = some ⟨b, off, none⟩ ∧ S b ∧ ∀ i s, l[i]? = some s → w.cell? ⟨b, off + i, none⟩ = some (.string (str s))
mutual
/-- A value in memory, all of whose rows lie in blocks of S. -/
def JV (w : World) (S : Nat → Prop) (v : Value) : Js → Prop
 | .mk k n t ns is => ∃ a1 c1 a2 c2, v = .agg #[.int .i64 k, .int .i64 n, .string (str t), .slice a1 ns.length c1, .slice a2 is.length c2] ∧ NsF w S a1 ns ∧ ns.length ≤ c1 ∧ c1 ≤ maxLen ∧ (a1 = none → c1 = 0) ∧ is.length ≤ c2 ∧ c2 ≤ maxLen ∧ (a2 = none → c2 = 0) ∧ JVs w S a2 0 is
/-- The values of a row, from the i-th on. -/
def JVs (w : World) (S : Nat → Prop) (a : Option Addr) (i : Nat) : List Js → Prop
 | [] => True
 | j :: js => (∃ b off v0 v1 v2 v3 v4, a = some ⟨b, off, none⟩ ∧ S b ∧ w.cell? ⟨b, off + i * 5, none⟩ = some v0 ∧ w.cell? ⟨b, off + i * 5 + 1, none⟩ = some v1 ∧ w.cell? ⟨b, off + i * 5 + 2, none⟩ = some v2 ∧ w.cell? ⟨b, off + i * 5 + 3, none⟩ = some v3 ∧ w.cell? ⟨b, off + i * 5 + 4, none⟩ = some v4 ∧ JV w S (.agg #[v0, v1, v2, v3, v4]) j) ∧ JVs w S a (i + 1) js
end
/-- One value of a row. -/
def JEl (w : World) (S : Nat → Prop) (a : Option Addr) (i : Nat) (j : Js) : Prop := ∃ b off v0 v1 v2 v3 v4, a = some ⟨b, off, none⟩ ∧ S b ∧ w.cell? ⟨b, off + i * 5, none⟩ = some v0 ∧ w.cell? ⟨b, off + i * 5 + 1, none⟩ = some v1 ∧ w.cell? ⟨b, off + i * 5 + 2, none⟩ = some v2 ∧ w.cell? ⟨b, off + i * 5 + 3, none⟩ = some v3 ∧ w.cell? ⟨b, off + i * 5 + 4, none⟩ = some v4 ∧ JV w S (.agg #[v0, v1, v2, v3, v4]) j
theorem jvs_iff (w : World) (S : Nat → Prop) (a : Option Addr) : ∀ (is : List Js) (i : Nat), JVs w S a i is ↔ ∀ m j, is[m]? = some j → JEl w S a (i + m) j
 | [], i => by simp [JVs]
 | j :: js, i => by
  have ih := jvs_iff w S a js (i + 1)
  simp only [JVs]
  constructor
  ·rintro ⟨h1, h2⟩ m x hx
   cases m with
   | zero => simp at hx; subst hx; exact h1
   | succ m =>
    have := ih.1 h2 m x (by simpa using hx)
    rw [show i + (m + 1) = i + 1 + m by omega]; exact this
  ·intro h
   refine ⟨h 0 j rfl, ih.2 (fun m x hx => ?_)⟩
   rw [show i + 1 + m = i + (m + 1) by omega]
   exact h (m + 1) x (by simpa using hx)
theorem cell_keep {w w' : World} {b o : Nat} {v : Value} (e : w'.heap[b]? = w.heap[b]?) (h : w.cell? ⟨b, o, none⟩ = some v) : w'.cell? ⟨b, o, none⟩ = some v := by rw [← h]; simp only [World.cell?, e]
theorem NsF.keep {w w' : World} {S S' : Nat → Prop} {a : Option Addr} {l : List (List UInt8)} (h : NsF w S a l) (e : ∀ k, S k → S' k ∧ w'.heap[k]? = w.heap[k]?) : NsF w' S' a l := by
 intro hne
 obtain ⟨b, off, h1, h2, h3⟩ := h hne
 exact ⟨b, off, h1, (e b h2).1, fun i s hs => cell_keep (e b h2).2 (h3 i s hs)⟩
mutual
/-- What S's blocks hold alone matters. -/
theorem JV.keep {w w' : World} {S S' : Nat → Prop} (e : ∀ k, S k → S' k ∧ w'.heap[k]? = w.heap[k]?) : ∀ (j : Js) (v : Value), JV w S v j → JV w' S' v j
 | .mk k n t ns is, v, h => by
  simp only [JV] at h ⊢
  obtain ⟨a1, c1, a2, c2, h1, h2, h3, h4, h5, h6, h7, h8, h9⟩ := h
  exact ⟨a1, c1, a2, c2, h1, h2.keep e, h3, h4, h5, h6, h7, h8, JVs.keep e is a2 0 h9⟩
theorem JVs.keep {w w' : World} {S S' : Nat → Prop} (e : ∀ k, S k → S' k ∧ w'.heap[k]? = w.heap[k]?) : ∀ (js : List Js) (a : Option Addr) (i : Nat), JVs w S a i js → JVs w' S' a i js
 | [], a, i, h => trivial
 | j :: js, a, i, h => by
  simp only [JVs] at h ⊢
  obtain ⟨⟨b, off, v0, v1, v2, v3, v4, h1, h2, g0, g1, g2, g3, g4, hj⟩, hs⟩ := h
  have eb := (e b h2).2
  exact ⟨⟨b, off, v0, v1, v2, v3, v4, h1, (e b h2).1, cell_keep eb g0, cell_keep eb g1, cell_keep eb g2, cell_keep eb g3, cell_keep eb g4, JV.keep e j _ hj⟩, JVs.keep e js a (i + 1) hs⟩
end
theorem JEl.keep {w w' : World} {S S' : Nat → Prop} (e : ∀ k, S k → S' k ∧ w'.heap[k]? = w.heap[k]?) {a : Option Addr} {i : Nat} {j : Js} (h : JEl w S a i j) : JEl w' S' a i j := by
 obtain ⟨b, off, v0, v1, v2, v3, v4, h1, h2, g0, g1, g2, g3, g4, hj⟩ := h
 have eb := (e b h2).2
 exact ⟨b, off, v0, v1, v2, v3, v4, h1, (e b h2).1, cell_keep eb g0, cell_keep eb g1, cell_keep eb g2, cell_keep eb g3, cell_keep eb g4, JV.keep e j _ hj⟩
theorem JV.flat (w : World) (S : Nat → Prop) (k n : Int) (t : List UInt8) : JV w S (.agg #[.int .i64 k, .int .i64 n, .string (str t), .slice none 0 0, .slice none 0 0]) (.mk k n t [] []) := by
 simp only [JV]
 exact ⟨none, 0, none, 0, rfl, fun h => absurd rfl h, Nat.le_refl _, by unfold maxLen; omega, fun _ => rfl, Nat.le_refl _, by unfold maxLen; omega, fun _ => rfl, trivial⟩
/-! ### Rows of one's own -/
def nsv (l : List (List UInt8)) : List Value := l.map fun s => .string (str s)
theorem nsv_get (l : List (List UInt8)) (i : Nat) (s : List UInt8) (h : l[i]? = some s) : (nsv l)[i]? = some (.string (str s)) := by simp [nsv, h]
theorem nsv_one (l : List (List UInt8)) : ∀ u ∈ nsv l, u.oneCell' = true := by
 intro u hu
 obtain ⟨_, _, rfl⟩ := List.mem_map.1 hu
 rfl
/-- A row of names. -/
def OwnT (w : World) (base : Nat) (a : Option Addr) (cap : Nat) (l : List (List UInt8)) : Prop := w.ownsRow base 9 1 (.slice a l.length cap) l.length (nsv l)
/-- A row of values: so many, cell by cell. -/
def OwnJ (w : World) (base : Nat) (a : Option Addr) (cap n : Nat) (xs : List Value) : Prop := w.ownsRow base 44 5 (.slice a n cap) n xs
theorem owns_cases {w : World} {base : Nat} {ty : TypeId} {z : Nat} {a : Option Addr} {cap n : Nat} {xs : List Value} (h : w.ownsRow base ty z (.slice a n cap) n xs) :
  (a = none ∧ cap = 0 ∧ n = 0 ∧ xs = []) ∨ ∃ g cur, a = some ⟨g, 0, none⟩ ∧ base ≤ g ∧ w.heap[g]? = some (.cells cur ty (0, 0)) ∧ n ≤ cap ∧ cap ≤ maxLen ∧ cur.size = cap * z ∧ cur.toList.take (n * z) = xs ∧ xs.length = n * z := by
 have hl := h.1
 rcases h.2 with ⟨hv, hn⟩ | ⟨g, cap', cur, hv, hb, hg, hle, hm, hs, ht⟩
 ·simp only [Value.slice.injEq] at hv
  subst hn
  exact .inl ⟨hv.1, hv.2.2, rfl, List.eq_nil_of_length_eq_zero (by rw [hl]; simp)⟩
 ·simp only [Value.slice.injEq, true_and] at hv
  obtain ⟨rfl, rfl⟩ := hv
  exact .inr ⟨g, cur, rfl, hb, hg, hle, hm, hs, ht, hl⟩
theorem owns_lt {w : World} {base : Nat} {ty : TypeId} {z : Nat} {a : Option Addr} {cap n : Nat} {xs : List Value} (h : w.ownsRow base ty z (.slice a n cap) n xs) : ∀ k, blk a = some k → base ≤ k ∧ k < w.heap.size := by
 intro k hk
 rcases owns_cases h with ⟨rfl, _⟩ | ⟨g, cur, rfl, hb, hg, _⟩
 ·simp [blk] at hk
 ·simp [blk] at hk
  subst hk
  exact ⟨hb, (aI hg).1⟩
theorem owns_same {w w' : World} {base : Nat} {ty : TypeId} {z : Nat} {a : Option Addr} {cap n : Nat} {xs : List Value} (h : w.ownsRow base ty z (.slice a n cap) n xs) (e : ∀ k, blk a = some k → w'.heap[k]? = w.heap[k]?) : w'.ownsRow base ty z (.slice a n cap) n xs := by
 refine ⟨h.1, ?_⟩
 rcases h.2 with hn | ⟨b, cap, cur, hv, hbb, hgg, rest⟩
 ·exact .inl hn
 ·refine .inr ⟨b, cap, cur, hv, hbb, ?_, rest⟩
  have e2 : blk a = some b := by simp only [Value.slice.injEq] at hv; rw [hv.1]; rfl
  exact (e b e2).trans hgg
theorem owns_cell {w : World} {base : Nat} {ty : TypeId} {z : Nat} {g cap n : Nat} {xs : List Value} (h : w.ownsRow base ty z (.slice (some ⟨g, 0, none⟩) n cap) n xs) (p : Nat) (v : Value) (hp : xs[p]? = some v) : w.cell? ⟨g, p, none⟩ = some v ∧ w.frozen? ⟨g, p, none⟩ = false := by
 rcases owns_cases h with ⟨h0, _⟩ | ⟨g', cur, h0, hb, hg, hle, hm, hs, ht, hl⟩
 ·cases h0
 ·simp only [Option.some.injEq, Addr.mk.injEq, and_true] at h0
  subst h0
  refine ⟨?_, frozen_of_row w g p _ _ hg⟩
  have hlt := (List.getElem?_eq_some_iff.1 hp).1
  rw [cell_of_row w g p cur _ (0, 0) hg, ← hp, ← ht, List.getElem?_take, if_pos (by omega)]
  simp
theorem owns_set {w : World} {base : Nat} {ty : TypeId} {z : Nat} {g cap n : Nat} {xs : List Value} (h : w.ownsRow base ty z (.slice (some ⟨g, 0, none⟩) n cap) n xs) (p : Nat) (v : Value) (hp : p < xs.length) : (w.setCell ⟨g, p, none⟩ v).ownsRow base ty z (.slice (some ⟨g, 0, none⟩) n cap) n (xs.set p v) := by
 have hl := h.1
 rcases h.2 with ⟨hv, hn⟩ | ⟨b, cap', cur, hv, hbb, hgg, hle, hm, hs, ht⟩
 ·cases hv
 ·simp only [Value.slice.injEq, Option.some.injEq, Addr.mk.injEq, and_true, true_and] at hv
  obtain ⟨rfl, rfl⟩ := hv
  refine ⟨by rw [List.length_set]; exact hl, .inr ⟨g, cap, cur.setIfInBounds p v, rfl, hbb, ?_, hle, hm, by simp [hs], ?_⟩⟩
  ·rw [hS6 hgg]
  ·rw [← ht, Array.toList_setIfInBounds, List.take_set]
theorem Tryz.infoJ : (Tryz.prog.info? 44).map (fun i => (i.zero, i.size, i.bytes)) = some (some (.agg #[.int .i64 0, .int .i64 0, .string ByteArray.empty, .slice none 0 0, .slice none 0 0]), 5, 80) := by kernel_rfl
theorem Tryz.infoT4 : (Tryz.prog.info? 9).map (fun i => (i.zero, i.size, i.bytes)) = some (some (.string ByteArray.empty), 1, 16) := by kernel_rfl
end Go.Proofs.YtmpjeahibfdehaaGreatDoor
end
section
set_option linter.unusedVariables false
set_option maxRecDepth 1000000
namespace Go.Proofs.YtmpjeahibfdehaaGreatDoor
open Go.RowKit

/-- Blocks that were made between two worlds. -/
def Nw (w w' : World) (k : Nat) : Prop := w.heap.size ≤ k ∧ k < w'.heap.size
/-- Blocks of the items: none of those that change. -/
def Fp (lo hi V : Nat) (a1 a2 : Option Addr) (k : Nat) : Prop := lo ≤ k ∧ k < hi ∧ k ≠ V ∧ blk a1 ≠ some k ∧ blk a2 ≠ some k
def zJ : List Value := [.int .i64 0, .int .i64 0, .string ⟨#[]⟩, .slice none 0 0, .slice none 0 0]
/-- The five cells of the m-th item. -/
def At5 (xs : List Value) (m : Nat) (v : Value) : Prop := ∃ v0 v1 v2 v3 v4, v = .agg #[v0, v1, v2, v3, v4] ∧ xs[m * 5]? = some v0 ∧ xs[m * 5 + 1]? = some v1 ∧ xs[m * 5 + 2]? = some v2 ∧ xs[m * 5 + 3]? = some v3 ∧ xs[m * 5 + 4]? = some v4
structure Bv (w : World) (V lo : Nat) (k : Int) (ns : List (List UInt8)) (is : List Js) (a1 : Option Addr) (c1 : Nat) (a2 : Option Addr) (c2 : Nat) (xs : List Value) : Prop where
 row : w.heap[V]? = some (.cells #[.int .i64 k, .int .i64 0, .string ⟨#[]⟩, .slice a1 ns.length c1, .slice a2 is.length c2] 44 (0, 0))
 nm : OwnT w lo a1 c1 ns
 it : OwnJ w lo a2 c2 is.length xs
 el : ∀ m j, is[m]? = some j → ∃ v, At5 xs m v ∧ JV w (Fp lo w.heap.size V a1 a2) v j
 v1 : blk a1 ≠ some V
 v2 : blk a2 ≠ some V
 v3 : ∀ k, blk a1 = some k → blk a2 ≠ some k
theorem Bv.lt {w : World} {V lo : Nat} {k : Int} {ns : List (List UInt8)} {is : List Js} {a1 : Option Addr} {c1 : Nat} {a2 : Option Addr} {c2 : Nat} {xs : List Value} (h : Bv w V lo k ns is a1 c1 a2 c2 xs) : V < w.heap.size := (aI h.row).1
theorem Bv.cells {w : World} {V lo : Nat} {k : Int} {ns : List (List UInt8)} {is : List Js} {a1 : Option Addr} {c1 : Nat} {a2 : Option Addr} {c2 : Nat} {xs : List Value} (h : Bv w V lo k ns is a1 c1 a2 c2 xs) : w.cell? ⟨V, 3, none⟩ = some (.slice a1 ns.length c1) ∧ w.cell? ⟨V, 4, none⟩ = some (.slice a2 is.length c2) ∧ (∀ j, w.frozen? ⟨V, j, none⟩ = false) :=
 ⟨cR6 h.row, cR6 h.row, fun j => frozen_of_row _ _ _ _ _ h.row⟩
/-- All from lo on stays. -/
theorem Bv.keep {w w' : World} {V lo : Nat} {k : Int} {ns : List (List UInt8)} {is : List Js} {a1 : Option Addr} {c1 : Nat} {a2 : Option Addr} {c2 : Nat} {xs : List Value} (h : Bv w V lo k ns is a1 c1 a2 c2 xs) (e : ∀ k, lo ≤ k ∨ k = V → k < w.heap.size → w'.heap[k]? = w.heap[k]?) (hs : w.heap.size ≤ w'.heap.size) : Bv w' V lo k ns is a1 c1 a2 c2 xs :=
 { h with
  row := (e V (.inr rfl) h.lt).trans h.row
  nm := owns_same h.nm (fun k hk => e k (.inl (owns_lt h.nm k hk).1) (owns_lt h.nm k hk).2)
  it := owns_same h.it (fun k hk => e k (.inl (owns_lt h.it k hk).1) (owns_lt h.it k hk).2)
  el := fun m j hj => by
   obtain ⟨v, h1, h2⟩ := h.el m j hj
   exact ⟨v, h1, JV.keep (fun k hk => ⟨⟨hk.1, by have := hk.2.1; omega, hk.2.2⟩, e k (.inl hk.1) hk.2.1⟩) j v h2⟩ }
theorem Bv.mv {w w' : World} {V lo P : Nat} {k : Int} {ns : List (List UInt8)} {is : List Js} {a1 : Option Addr} {c1 : Nat} {a2 : Option Addr} {c2 : Nat} {xs : List Value} (h : Bv w V lo k ns is a1 c1 a2 c2 xs) (m : Mv w w' P) (hP : P < lo) (hPV : P ≠ V) : Bv w' V lo k ns is a1 c1 a2 c2 xs :=
 h.keep (fun k hk hl => m.block k hl (fun e => by have := Option.some.inj e; rcases hk with hk | hk <;> omega)) m.size
theorem Bv.below {w w' : World} {V lo : Nat} {k : Int} {ns : List (List UInt8)} {is : List Js} {a1 : Option Addr} {c1 : Nat} {a2 : Option Addr} {c2 : Nat} {xs : List Value} (h : Bv w V lo k ns is a1 c1 a2 c2 xs) (m : Below w.heap.size w w') : Bv w' V lo k ns is a1 c1 a2 c2 xs :=
 h.keep (fun k hk hl => m.block k hl) m.size
/-- One item more. -/
theorem Bv.push {u w2 w4 : World} {V lo old : Nat} {k : Int} {ns : List (List UInt8)} {is : List Js} {a1 : Option Addr} {c1 : Nat} {a2 : Option Addr} {c2 : Nat} {xs : List Value} (h : Bv u V lo k ns is a1 c1 a2 c2 xs) {v0 v1 v2 v3 v4 : Value} {j : Js} (hj : JV u (fun k => old ≤ k ∧ k < u.heap.size) (.agg #[v0, v1, v2, v3, v4]) j) (hold : lo ≤ old) (hV : V < old) (h1 : ∀ k, blk a1 = some k → k < old) (h2 : ∀ k, blk a2 = some k → k < old)
  {g cap : Nat} (hg : u.grownBy w2 (blk a2)) (hat : blk a2 = some g ∨ g = u.heap.size) (hgl : g < w2.heap.size)
  (hr : w4.heap[V]? = some (.cells #[.int .i64 k, .int .i64 0, .string ⟨#[]⟩, .slice a1 ns.length c1, .slice (some ⟨g, 0, none⟩) (is.length + 1) cap] 44 (0, 0)))
  (ho : OwnJ w4 lo (some ⟨g, 0, none⟩) cap (is.length + 1) (xs ++ [v0, v1, v2, v3, v4])) (hk : ∀ k, k ≠ V → k ≠ g → w4.heap[k]? = w2.heap[k]?) (hs : w4.heap.size = w2.heap.size) :
  Bv w4 V lo k ns (is ++ [j]) a1 c1 (some ⟨g, 0, none⟩) cap (xs ++ [v0, v1, v2, v3, v4]) := by
 have hxl : xs.length = is.length * 5 := h.it.1
 have hbg : blk (some (⟨g, 0, none⟩ : Addr)) = some g := rfl
 have hgV : g ≠ V := by
  rintro rfl
  rcases hat with e | e
  ·exact h.v2 e
  ·have := h.lt; omega
 have hg1 : ∀ m, blk a1 = some m → m ≠ g := by
  rintro m hm rfl
  rcases hat with e | e
  ·exact h.v3 m hm e
  ·have := (owns_lt h.nm m hm).2; omega
 have blkU : ∀ m, m < u.heap.size → m ≠ V → m ≠ g → blk a2 ≠ some m → w4.heap[m]? = u.heap[m]? := fun m hm n1 n2 n3 => (hk m n1 n2).trans (hg.block m hm (fun e => n3 e.symm))
 refine ⟨by rw [List.length_append]; exact hr, owns_same h.nm (fun m hm => blkU m (owns_lt h.nm m hm).2 (fun e => h.v1 (by rw [hm, e])) (hg1 m hm) (h.v3 m hm)), ?_, ?_, h.v1, by rw [hbg]; exact fun e => hgV (Option.some.inj e), fun m hm e => hg1 m hm (Option.some.inj (hbg.symm.trans e)).symm⟩
 ·rw [List.length_append]; exact ho
 ·intro m x hx
  have sz : u.heap.size ≤ w4.heap.size := by rw [hs]; exact hg.size
  by_cases hm : m < is.length
  ·rw [List.getElem?_append_left hm] at hx
   obtain ⟨v, ⟨z0, z1, z2, z3, z4, e0, q0, q1, q2, q3, q4⟩, hv⟩ := h.el m x hx
   refine ⟨v, ⟨z0, z1, z2, z3, z4, e0, ?_, ?_, ?_, ?_, ?_⟩, JV.keep (fun b hb => ?_) x v hv⟩
   ·rw [List.getElem?_append_left (by omega)]; exact q0
   ·rw [List.getElem?_append_left (by omega)]; exact q1
   ·rw [List.getElem?_append_left (by omega)]; exact q2
   ·rw [List.getElem?_append_left (by omega)]; exact q3
   ·rw [List.getElem?_append_left (by omega)]; exact q4
   ·have hbn : b ≠ g := by
     rintro rfl
     rcases hat with e | e
     ·exact hb.2.2.2.2 e
     ·have := hb.2.1; omega
    exact ⟨⟨hb.1, by have := hb.2.1; omega, hb.2.2.1, hb.2.2.2.1, by rw [hbg]; exact fun e => hbn (Option.some.inj e).symm⟩, blkU b hb.2.1 hb.2.2.1 hbn hb.2.2.2.2⟩
  ·have hlt := (List.getElem?_eq_some_iff.1 hx).1
   simp at hlt
   obtain rfl : m = is.length := by omega
   simp at hx
   subst hx
   refine ⟨_, ⟨v0, v1, v2, v3, v4, rfl, ?_, ?_, ?_, ?_, ?_⟩, JV.keep (fun b hb => ?_) j _ hj⟩
   ·rw [List.getElem?_append_right (by omega), show is.length * 5 - xs.length = 0 by omega]; rfl
   ·rw [List.getElem?_append_right (by omega), show is.length * 5 + 1 - xs.length = 1 by omega]; rfl
   ·rw [List.getElem?_append_right (by omega), show is.length * 5 + 2 - xs.length = 2 by omega]; rfl
   ·rw [List.getElem?_append_right (by omega), show is.length * 5 + 3 - xs.length = 3 by omega]; rfl
   ·rw [List.getElem?_append_right (by omega), show is.length * 5 + 4 - xs.length = 4 by omega]; rfl
   ·have n2 : blk a2 ≠ some b := fun e => by have := h2 b e; omega
    have n1 : blk a1 ≠ some b := fun e => by have := h1 b e; omega
    have hbn : b ≠ g := by
     rintro rfl
     rcases hat with e | e
     ·exact n2 e
     ·omega
    exact ⟨⟨by omega, by omega, by omega, n1, by rw [hbg]; exact fun e => hbn (Option.some.inj e).symm⟩, blkU b hb.2 (by omega) hbn n2⟩
/-- What was there stays, but for the parser, the value and what lies from lo on. -/
structure Lm (w w' : World) (P V lo : Nat) : Prop where
 os : w'.os = w.os
 tape : w'.tape = w.tape
 output : w'.output = w.output
 size : w.heap.size ≤ w'.heap.size
 block : ∀ k, k < lo → k ≠ P → k ≠ V → w'.heap[k]? = w.heap[k]?
theorem Lm.refl (w : World) (P V lo : Nat) : Lm w w P V lo := ⟨rfl, rfl, rfl, Nat.le_refl _, fun _ _ _ _ => rfl⟩
theorem Lm.trans {a b c : World} {P V lo : Nat} (x : Lm a b P V lo) (y : Lm b c P V lo) : Lm a c P V lo := ⟨y.os.trans x.os, y.tape.trans x.tape, y.output.trans x.output, Nat.le_trans x.size y.size, fun k h1 h2 h3 => (y.block k h1 h2 h3).trans (x.block k h1 h2 h3)⟩
theorem Lm.ofMv {w w' : World} {P V lo : Nat} (m : Mv w w' P) (h : lo ≤ w.heap.size) : Lm w w' P V lo := ⟨m.os, m.tape, m.output, m.size, fun k h1 h2 _ => m.block k (by omega) (fun e => h2 (Option.some.inj e))⟩
theorem Lm.ofG {w w' : World} {P V lo : Nat} {row : Option Nat} (m : w.grownBy w' row) (h : lo ≤ w.heap.size) (hr : ∀ k, row = some k → lo ≤ k) : Lm w w' P V lo := ⟨m.os, m.tape, m.output, m.size, fun k h1 h2 _ => m.block k (by omega) (fun e => by have := hr k e.symm; omega)⟩
theorem Lm.set {w : World} {P V lo b o : Nat} {x : Value} (h : b = V ∨ lo ≤ b) : Lm w (w.setCell ⟨b, o, none⟩ x) P V lo := by
 have g := grownBy_setCell w ⟨b, o, none⟩ x
 exact ⟨g.os, g.tape, g.output, g.size, fun k h1 h2 h3 => Below.heap_setCell _ ⟨b, o, none⟩ _ k (by simp only; rcases h with rfl | h; exact h3; omega)⟩
/-- append(items, nothing), as a step of a region that draws its order. -/
theorem stp_appz (w : World) {ops : Array Oper} {o : Oper} {a : Act} {K : Act → World → Prop} {Q : Exit → Act → World → Prop} {E : Prop} (hgd : o.guard = none) (s x : Operand)
  (ho : o.op = .call { callee := .builtin .append, args := #[s, x], argTypes := #[42, 42] })
  (base : Nat) (a1 : Option Addr) (cap1 n1 : Nat) (xs : List Value) (hs : a.eval s = .slice a1 n1 cap1) (hown : OwnJ w base a1 cap1 n1 xs)
  (B c2 : Nat) (hx : a.eval x = .slice (some ⟨B, 0, none⟩) 1 c2) (hsrc : w.heap[B]? = some (.cells zJ.toArray 44 (0, 0))) (hlen : n1 ≤ 1000000) (hb : base ≤ w.heap.size)
  (h : ∀ g cap w', Hid (OwnJ w' base (some ⟨g, 0, none⟩) cap (n1 + 1) (xs ++ zJ)) → Hid (w.grownBy w' (blk a1)) → Hid (blk a1 = some g ∨ g = w.heap.size) → Hid (g < w'.heap.size) → K (a.put o.dst (.slice (some ⟨g, 0, none⟩) (n1 + 1) cap)) w') :
  if Region.wanted o (yielded ops a.tmps) = true then Oper.wp Tryz.prog o a w K Q else E := by
 obtain ⟨i, hi, hz0, hz1, hz2⟩ := info_parts Tryz.infoJ
 refine step_append_lies w hgd s x 42 ho base 44 i _ 5 80 Tryz.underlying42 hi hz0 hz1 hz2 rfl (by decide) _ _ _ hs hown ⟨B, 0, none⟩ 1 c2 zJ hx rfl ?_ (by simp [zJ, Value.oneCell']) (by decide) (by unfold maxLen; omega) (by omega) hb _ rfl ?_
 ·intro j u hu
  rw [addr_add, Nat.zero_add, cell_of_row w B j _ _ _ hsrc]
  simpa using hu
 ·intro g cap w' h1 h2 h3 h4
  have hblk : (Value.slice a1 n1 cap1).ownBlock = blk a1 := by cases a1 <;> rfl
  rw [hblk] at h2 h3
  exact h g cap w' h1 h2 h3 h4
theorem set5 (xs : List Value) (n : Nat) (hx : xs.length = n * 5) (v0 v1 v2 v3 v4 : Value) : (((((xs ++ zJ).set (n * 5) v0).set (n * 5 + 1) v1).set (n * 5 + 2) v2).set (n * 5 + 3) v3).set (n * 5 + 4) v4 = xs ++ [v0, v1, v2, v3, v4] := by
 have k : ∀ (l : List Value) (m : Nat) (v : Value), (xs ++ l).set (n * 5 + m) v = xs ++ l.set m v := fun l m v => by
  rw [List.set_append_right _ _ (by omega), show n * 5 + m - xs.length = m by omega]
 have k0 := k zJ 0 v0
 rw [Nat.add_zero] at k0
 rw [k0, k, k, k, k]
 rfl
/-- What a value that is read looks like. -/
theorem JV.form {w : World} {S : Nat → Prop} {v : Value} {j : Js} (h : JV w S v j) : ∃ (k n : Int) (t : List UInt8) (a1 : Option Addr) (n1 c1 : Nat) (a2 : Option Addr) (n2 c2 : Nat), v = .agg #[.int .i64 k, .int .i64 n, .string (str t), .slice a1 n1 c1, .slice a2 n2 c2] := by
 cases j with
 | mk k n t ns is =>
  simp only [JV] at h
  obtain ⟨a1, c1, a2, c2, h1, _⟩ := h
  exact ⟨k, n, t, a1, _, c1, a2, _, c2, h1⟩
end Go.Proofs.YtmpjeahibfdehaaGreatDoor
end
section
set_option linter.unusedVariables false
set_option maxRecDepth 1000000
namespace Go.Proofs.YtmpjeahibfdehaaGreatDoor
open Go.RowKit

/-- Members one behind the other. -/
def meL {σ : Type} (mb : σ → List UInt8 → Rs σ) : Nat → σ → List UInt8 → Rs σ
 | 0, _, _ => .no [] 40
 | f + 1, s, l => match mb s l with
  | .no r y => .no r y
  | .ok s' r => match skB r with
   | [] => .ok s' []
   | c :: r2 => if c = 44 then meL mb f s' (skB r2) else .ok s' (c :: r2)
/-- Behind a member and blanks. -/
def meT {σ : Type} (mb : σ → List UInt8 → Rs σ) (f : Nat) (s : σ) (l : List UInt8) : Rs σ :=
 match l with
 | [] => .ok s []
 | c :: r2 => if c = 44 then meL mb f s (skB r2) else .ok s (c :: r2)
theorem meL_step {σ : Type} (mb : σ → List UInt8 → Rs σ) (f : Nat) (s : σ) (l : List UInt8) : meL mb (f + 1) s l = match mb s l with | .no r y => .no r y | .ok s' r => meT mb f s' (skB r) := rfl
/-- The bracket that closes. -/
def clM {σ : Type} (cl : UInt8) (m : Rs σ) : Rs σ := match m with
 | .no r y => .no r y
 | .ok a r => match tkM cl r with
  | .no r2 y => .no r2 y
  | .ok _ r2 => .ok a r2
theorem mm_cl {σ : Type} (cl : UInt8) (z : σ) (L : List UInt8 → Rs σ) (l : List UInt8) : mmM cl z L l = clM cl (match skB l with | [] => L [] | c :: r => if c = cl then .ok z (c :: r) else L (c :: r)) := rfl
/-- What comes of the whole. -/
def MeP {σ : Type} (I : World → σ → Nat → Prop) (w : World) (P V lo d : Nat) (T : List UInt8) (M : Rs σ) (e : Ending) (w' : World) : Prop :=
 (∃ s a' n, M = .ok s (T.drop a') ∧ e = .returned (.tuple #[]) ∧ Pa w' P T a' d ∧ Lm w w' P V lo ∧ I w' s n) ∨ (∃ y a', M = .no (T.drop a') y ∧ e = flt a' y ∧ a' ≤ T.length ∧ Lm w w' P V lo)
theorem MeP.nay {σ : Type} {I : World → σ → Nat → Prop} {w : World} {P V lo d : Nat} {T : List UInt8} {M : Rs σ} {w' : World} {y a' : Nat} (h1 : M = .no (T.drop a') y) (h2 : a' ≤ T.length) (h3 : Lm w w' P V lo) : MeP I w P V lo d T M (flt a' y) w' := .inr ⟨y, a', h1, rfl, h2, h3⟩
theorem dlen {T : List UInt8} {a b : Nat} (h : (T.drop b).length ≤ (T.drop a).length) (hb : b ≤ T.length) (ha : a ≤ T.length) : a ≤ b := by simp at h; omega
set_option maxHeartbeats 1000000 in
theorem members_deep (P : Nat) (T : List UInt8) (a : Nat) (x FV : Value) (w : World) (h : Pa w P T a 16) :
  Calls Tryz.prog 137 #[.pointer (some ⟨P, 0, none⟩), x, FV] w fun e w' => e = flt a 41 ∧ w' = w := by
 obtain ⟨c0, c1, c2, cf⟩ := h.cells
 rw [show ((16 : Nat) : Int) = 16 from rfl] at c2
 have HG := hide (giveUp_any P T a 16 41 w h)
 clear h cf c0 c1
 go_enter Tryz.func137, Tryz.ntmps137
 go_wp2_with fail
 refine (uh HG).mono ?_
 rintro e w5 ⟨rfl, hw5⟩
 subst hw5
 exact ⟨rfl, rfl, rfl⟩
set_option maxHeartbeats 8000000 in
theorem members_l {σ : Type} (P : Nat) (T : List UInt8) (d V lo : Nat) (Q : Nat) (cl : UInt8) (mb : σ → List UInt8 → Rs σ) (I : World → σ → Nat → Prop)
  (hI : ∀ w w' s n, I w s n → lo ≤ w.heap.size → Mv w w' P → I w' s n)
  (hMem : ∀ (w : World) (a : Nat) (s : σ) (n : Nat), Pa w P T a (d + 1) → I w s n → lo ≤ w.heap.size → n ≤ 65536 → Calls Tryz.prog 139 #[.pointer (some ⟨V, 0, none⟩), .pointer (some ⟨Q, 0, none⟩)] w fun e w' => (∃ s' a', mb s (T.drop a) = .ok s' (T.drop a') ∧ e = .returned (.tuple #[]) ∧ Pa w' P T a' (d + 1) ∧ Lm w w' P V lo ∧ I w' s' (n + 1)) ∨ (∃ y a', mb s (T.drop a) = .no (T.drop a') y ∧ e = flt a' y ∧ a' ≤ T.length ∧ Lm w w' P V lo))
  (hlen : ∀ s l s' r, mb s l = .ok s' r → r.length ≤ l.length) (a : Nat) (s0 : σ) (c : UInt8) (r : List UInt8) (w : World) (h : Pa w P T a d) (hd : d < 16) (hl : T.drop a = c :: r) (hI0 : I w s0 0) (hsz : lo ≤ w.heap.size) :
  Calls Tryz.prog 137 #[.pointer (some ⟨P, 0, none⟩), .int .u8 (cl.toNat : Int), .func (.func 139) #[] #[.pointer (some ⟨V, 0, none⟩), .pointer (some ⟨Q, 0, none⟩)]] w fun e w' => MeP I w P V lo d T (mmM cl s0 (fun l => meL mb (l.length + 1) s0 l) r) e w' := by
 obtain ⟨hlt, _, hdr⟩ := drop_cons hl
 have hbig := h.big
 obtain ⟨RES, hRES⟩ : ∃ RES, RES = mmM cl s0 (fun l => meL mb (l.length + 1) s0 l) r := ⟨_, rfl⟩
 rw [← hRES]
 rw [mm_cl, ← hdr] at hRES
 obtain ⟨W1, hW1⟩ : ∃ W1, W1 = w.setCell ⟨P, 2, none⟩ (.int .i64 ((d : Int) + 1)) := ⟨_, rfl⟩
 have hP1 : Pa W1 P T a (d + 1) := by
  have := h.around (d + 1) (by omega)
  rw [show ((d + 1 : Nat) : Int) = (d : Int) + 1 by omega, ← hW1] at this
  exact this
 have hM1 : Mv w W1 P := by rw [hW1]; exact Mv.set _ _ _ _
 obtain ⟨k1, k2⟩ := hP1.inc hlt
 obtain ⟨W2, hW2⟩ : ∃ W2, W2 = W1.setCell ⟨P, 1, none⟩ (.int .i64 ((a : Int) + 1)) := ⟨_, rfl⟩
 rw [← hW2] at k1 k2
 have hM2 : Mv w W2 P := hM1.trans k2
 have HB := hide (blanks_any P T (a + 1) (d + 1) W2 k1)
 have HI2 := hide (hI w W2 s0 0 hI0 hsz hM2)
 have HM2 := hide hM2
 obtain ⟨c0, c1, c2, cf⟩ := h.cells
 have f2 := cf 2
 obtain ⟨e0, e1, e2, ef⟩ := hP1.cells
 have g1 := ef 1
 have hd16 : ¬ (d : Int) = 16 := by omega
 have HIK := hide hI
 have HMem := hide hMem
 have HLen := hide hlen
 have HSZ := hide hsz
 have HRES := hide hRES
 have hab : a + 1 ≤ T.length := hlt
 have hc256 := cl.toNat_lt
 have hwr : wrap64 (cl.toNat : Int) = (cl.toNat : Int) := by unfold wrap64; omega
 clear h hP1 hM1 k1 k2 hM2 cf ef c0 e0 e2 hI hMem hlen hI0 hsz hRES hl hlt hdr
 go_enter Tryz.func137, Tryz.ntmps137
 go_upto_region 3 with fail
 rw [← hW1]
 clear hW1 c1 c2 f2
 go_upto_region 4 with fail
 rw [← hW2]
 clear hW2 e1 g1
 go_wp2_with fail
 refine (uh HB).mono ?_
 rintro e w3 ⟨a3, rfl, HP3, HM3, HS3⟩
 have HI3 := hide (uh HIK W2 w3 s0 0 (uh HI2) (Nat.le_trans (uh HSZ) (uh HM2).size) (uh HM3))
 have HMw : Hid (Mv w w3 P) := (uh HM2).trans (uh HM3)
 have HRES3 : Hid (RES = clM cl (match T.drop a3 with | [] => meL mb 1 s0 [] | c :: r => if c = cl then .ok s0 (c :: r) else meL mb ((c :: r).length + 1) s0 (c :: r))) := by show _ = _; rw [uh HRES, uh HS3]; cases T.drop a3 <;> rfl
 have HN3 := hide (next_any P T a3 (d + 1) w3 (uh HP3))
 have hle3 := (uh HP3).le
 have ha3 : a + 1 ≤ a3 := dlen (by rw [← uh HS3]; exact skB_le _) hle3 hab
 have HEnd : Hid (∀ (wx : World) (s : σ) (n ax : Nat), Pa wx P T ax (d + 1) → Lm w wx P V lo → I wx s n → lo ≤ wx.heap.size → Calls Tryz.prog 105 #[.pointer (some ⟨P, 0, none⟩), .int .u8 (cl.toNat : Int)] wx fun e w' => (∃ a', clM cl (.ok s (T.drop ax)) = .ok s (T.drop a') ∧ e = .returned (.tuple #[]) ∧ Pa w' P T a' (d + 1) ∧ Lm w w' P V lo ∧ I w' s n) ∨ (∃ y a', clM cl (.ok s (T.drop ax)) = .no (T.drop a') y ∧ e = flt a' y ∧ a' ≤ T.length ∧ Lm w w' P V lo)) := by
  intro wx s n ax hx hlm hix hsx
  refine (take_any P T ax (d + 1) cl wx hx).mono ?_
  rintro e w' (⟨v, val, a', hM, rfl, hP', hM', hval⟩ | ⟨y, a', hM, rfl, h2, h3⟩)
  ·obtain rfl : val = .tuple #[] := hval
   exact .inl ⟨a', by simp only [clM, hM], rfl, hP', hlm.trans (Lm.ofMv hM' hsx), uh HIK wx w' s n hix hsx hM'⟩
  ·exact .inr ⟨y, a', by simp only [clM, hM], rfl, h2, hlm.trans (Lm.ofMv h3 hsx)⟩
 clear HB HI2 HM2 HM3 HS3 HRES
 have HSZ3 : Hid (lo ≤ w3.heap.size) := Nat.le_trans (uh HSZ) (uh HMw).size
 have HL3 : Hid (Lm w w3 P V lo) := Lm.ofMv (uh HMw) (uh HSZ)
 by_cases hcl : nxI (T.drop a3) = (cl.toNat : Int)
 ·obtain ⟨r3, hr3⟩ : ∃ r3, T.drop a3 = cl :: r3 := by
   cases hl3 : T.drop a3 with
   | nil => rw [hl3] at hcl; simp [nxI] at hcl
   | cons x r3 =>
    rw [hl3] at hcl
    simp only [nxI] at hcl
    exact ⟨r3, by rw [show x = cl from UInt8.toNat_inj.1 (by omega)]⟩
  rw [hcl] at HN3
  have HRES4 : Hid (RES = clM cl (.ok s0 (T.drop a3))) := by show _ = _; rw [uh HRES3, hr3]; simp
  clear HRES3 hcl
  go_wp2_with fail
  refine (uh HN3).mono ?_
  rintro e w4 ⟨rfl, HP4, HB4⟩
  have HI4 := hide (uh HIK w3 w4 s0 0 (uh HI3) (uh HSZ3) (Mv.ofB (uh HB4)))
  have HT := hide (uh HEnd w4 s0 0 a3 (uh HP4) ((uh HL3).trans (Lm.ofMv (Mv.ofB (uh HB4)) (uh HSZ3))) (uh HI4) (Nat.le_trans (uh HSZ3) (uh HB4).size))
  clear HN3 HEnd
  go_wp2_with fail
  refine (uh HT).mono ?_
  rintro e w5 (⟨a5, hM5, rfl, hP5, hL5, hI5⟩ | ⟨y, a5, hM5, rfl, h2, h3⟩)
  ·obtain ⟨q0, q1, q2, qf⟩ := hP5.cells
   have fq := qf 2
   rw [show ((d + 1 : Nat) : Int) = (d : Int) + 1 by omega] at q2
   have HPF : Hid (Pa (w5.setCell ⟨P, 2, none⟩ (.int .i64 (d : Int))) P T a5 d) := hP5.around d (by omega)
   have HLF : Hid (Lm w (w5.setCell ⟨P, 2, none⟩ (.int .i64 (d : Int))) P V lo) := hL5.trans (Lm.ofMv (Mv.set _ _ _ _) (Nat.le_trans (uh HSZ) hL5.size))
   have HIF := hide (uh HIK w5 (w5.setCell ⟨P, 2, none⟩ (.int .i64 (d : Int))) _ _ hI5 (Nat.le_trans (uh HSZ) hL5.size) (Mv.set _ _ _ _))
   have HRF := hide (uh HRES4 |>.trans hM5)
   clear HT hP5 hL5 hI5 hM5 qf q0 q1
   go_wp2_with fail
   go_end0
   exact .inl ⟨_, a5, _, uh HRF, rfl, uh HPF, uh HLF, uh HIF⟩
  ·exact ⟨rfl, MeP.nay (by rw [uh HRES4, hM5]) h2 h3⟩
 ·have hcl2 : (T.drop a3).head? ≠ some cl := by
   intro e
   apply hcl
   cases hl3 : T.drop a3 with
   | nil => rw [hl3] at e; simp at e
   | cons x r3 => rw [hl3] at e; simp at e; subst e; rfl
  have HRES4 : Hid (RES = clM cl (meL mb ((T.drop a3).length + 1) s0 (T.drop a3))) := by
   show _ = _
   rw [uh HRES3]
   cases hl3 : T.drop a3 with
   | nil => rfl
   | cons x r3 =>
    have : ¬ x = cl := by rw [hl3] at hcl2; simpa using hcl2
    simp only
    rw [if_neg this]
  obtain ⟨X, hX⟩ : ∃ X, nxI (T.drop a3) = X := ⟨_, rfl⟩
  rw [hX] at HN3 hcl
  clear HRES3 hcl2 hX
  go_wp2_with fail
  refine (uh HN3).mono ?_
  rintro e w4 ⟨rfl, HP4, HB4⟩
  have HI4 := hide (uh HIK w3 w4 s0 0 (uh HI3) (uh HSZ3) (Mv.ofB (uh HB4)))
  have HL4 : Hid (Lm w w4 P V lo) := (uh HL3).trans (Lm.ofMv (Mv.ofB (uh HB4)) (uh HSZ3))
  have HSZ4 : Hid (lo ≤ w4.heap.size) := Nat.le_trans (uh HSZ3) (uh HB4).size
  have HMm := hide (uh HMem w4 a3 s0 0 (uh HP4) (uh HI4) (uh HSZ4) (by omega))
  rw [meL_step] at HRES4
  clear HN3
  go_wp2_with fail
  refine (uh HMm).mono ?_
  rintro e w5 (⟨s5, a5, hM5, rfl, hP5, hL5, hI5⟩ | ⟨y, a5, hM5, rfl, h2, h3⟩)
  rotate_left 1
  ·rw [hM5] at HRES4
   exact ⟨rfl, MeP.nay (uh HRES4) h2 ((uh HL4).trans h3)⟩
  rw [hM5] at HRES4
  simp only at HRES4
  have hln5 := uh HLen _ _ _ _ hM5
  have ha5 := dlen hln5 hP5.le hle3
  have HBl := hide (blanks_any P T a5 (d + 1) w5 hP5)
  have HL5 : Hid (Lm w w5 P V lo) := (uh HL4).trans hL5
  have HSZ5 : Hid (lo ≤ w5.heap.size) := Nat.le_trans (uh HSZ4) hL5.size
  have HI5 := hide hI5
  have HLN5 := hide hln5
  clear HMm hP5 hL5 hI5 hM5 hln5 HI4 HI3
  go_wp2_with fail
  refine (uh HBl).mono ?_
  rintro e w6 ⟨a6, rfl, HP6, HM6, HS6⟩
  have hle6 := (uh HP6).le
  have hsk : (T.drop a6).length ≤ (T.drop a5).length := by rw [← uh HS6]; exact skB_le _
  rw [uh HS6] at HRES4
  have hln5 : (T.drop a5).length ≤ (T.drop a3).length := uh HLN5
  have hln6 : (T.drop a6).length ≤ (T.drop a3).length := Nat.le_trans hsk hln5
  have ha6 : a3 ≤ a6 := dlen hln6 hle6 hle3
  have h1a6 : 1 ≤ a6 := by omega
  have HI6 := hide (uh HIK w5 w6 s5 1 (uh HI5) (uh HSZ5) (uh HM6))
  have HL6 : Hid (Lm w w6 P V lo) := (uh HL5).trans (Lm.ofMv (uh HM6) (uh HSZ5))
  have HF6 := hide hln6
  obtain ⟨F6, hF6⟩ : ∃ F6, F6 = (T.drop a3).length := ⟨_, rfl⟩
  rw [← hF6] at HF6 HRES4
  clear HBl HI5 HL5 HSZ5 HLN5 hln5 hsk hln6 HS6 HM6 ha6 hF6 HP3 HP4 HB4 HL3 HL4 HSZ3 HSZ4 HMw
  go_wp2_with fail
  go_loopw [38] (fun _ wr => ∃ (F a' n : Nat) (s : σ), Hid (Pa wr P T a' (d + 1)) ∧ Hid (Lm w wr P V lo) ∧ Hid (I wr s n) ∧ n ≤ a' ∧ Hid ((T.drop a').length ≤ F) ∧ Hid (RES = clM cl (meT mb F s (T.drop a')))) (fun _ wr => 70000 - (match wr.cell? ⟨P, 1, none⟩ with | some (.int .i64 x) => x.toNat | _ => 0))
  case atStart => exact ⟨F6, a6, 1, s5, HP6, HL6, HI6, h1a6, HF6, HRES4⟩
  case round =>
   clear HP6 HL6 HI6 h1a6 HF6 HRES4
   obtain ⟨F, a', n, s, HPr, HLr, HIr, hna, HFr, HSr⟩ := hrel
   have hle := (uh HPr).le
   have hcl' := (uh HPr).cells.2.1
   have HN := hide (next_any P T a' (d + 1) wr (uh HPr))
   have HSZr : Hid (lo ≤ wr.heap.size) := Nat.le_trans (uh HSZ) (uh HLr).size
   by_cases h44 : nxI (T.drop a') = 44
   ·obtain ⟨r', hr'⟩ : ∃ r', T.drop a' = 44 :: r' := by
     cases hl4 : T.drop a' with
     | nil => rw [hl4] at h44; simp [nxI] at h44
     | cons x r' =>
      rw [hl4] at h44
      simp only [nxI] at h44
      exact ⟨r', by rw [show x = 44 from UInt8.toNat_inj.1 (by show x.toNat = 44; omega)]⟩
    obtain ⟨hlt, _, hdr⟩ := drop_cons hr'
    obtain ⟨f, rfl⟩ : ∃ f, F = f + 1 := ⟨F - 1, by have h9 : (T.drop a').length ≤ F := HFr; rw [hr'] at h9; simp at h9; omega⟩
    have hfr : r'.length ≤ f := by have h9 : (T.drop a').length ≤ f + 1 := HFr; rw [hr'] at h9; simp at h9; omega
    rw [h44] at HN
    have HS7 : Hid (RES = clM cl (meL mb (f + 1) s (skB (T.drop (a' + 1))))) := by show _ = _; rw [uh HSr, hr', hdr]; simp [meT]
    clear HSr HFr h44
    go_wp2_with fail
    refine (uh HN).mono ?_
    rintro e w7 ⟨rfl, HP7, HB7⟩
    obtain ⟨q0, q1, q2, qf⟩ := (uh HP7).cells
    have fq := qf 1
    obtain ⟨k1, k2⟩ := (uh HP7).inc hlt
    obtain ⟨W8, hW8⟩ : ∃ W8, W8 = w7.setCell ⟨P, 1, none⟩ (.int .i64 ((a' : Int) + 1)) := ⟨_, rfl⟩
    rw [← hW8] at k1 k2
    have HM8 : Hid (Mv wr W8 P) := (Mv.ofB (uh HB7)).trans k2
    have HB8 := hide (blanks_any P T (a' + 1) (d + 1) W8 k1)
    clear HN qf q0 q2 k1 k2
    go_wp2_with fail
    rw [← hW8]
    clear hW8 q1 fq
    refine (uh HB8).mono ?_
    rintro e w9 ⟨a9, rfl, HP9, HM9, HS9⟩
    have hle9 := (uh HP9).le
    have hsk9 : (T.drop a9).length ≤ (T.drop (a' + 1)).length := by rw [← uh HS9]; exact skB_le _
    rw [uh HS9, meL_step] at HS7
    have ha9 : a' + 1 ≤ a9 := dlen hsk9 hle9 hlt
    have HM9' : Hid (Mv wr w9 P) := (uh HM8).trans (uh HM9)
    have HI9 := hide (uh HIK wr w9 s n (uh HIr) (uh HSZr) (uh HM9'))
    have HL9 : Hid (Lm w w9 P V lo) := (uh HLr).trans (Lm.ofMv (uh HM9') (uh HSZr))
    have HSZ9 : Hid (lo ≤ w9.heap.size) := Nat.le_trans (uh HSZr) (uh HM9').size
    have HMm := hide (uh HMem w9 a9 s n (uh HP9) (uh HI9) (uh HSZ9) (by omega))
    have hlf : (T.drop a9).length ≤ f := by rw [hdr] at hsk9; omega
    clear HB8 HM8 HM9 HS9 hsk9 hfr
    go_wp2_with fail
    refine (uh HMm).mono ?_
    rintro e wa (⟨sa, aa, hMa, rfl, hPa, hLa, hIa⟩ | ⟨y, aa, hMa, rfl, h2, h3⟩)
    rotate_left 1
    ·rw [hMa] at HS7
     exact ⟨rfl, MeP.nay (uh HS7) h2 ((uh HL9).trans h3)⟩
    rw [hMa] at HS7
    simp only at HS7
    have hlna := uh HLen _ _ _ _ hMa
    have haa := dlen hlna hPa.le hle9
    have hleA := hPa.le
    have HBl := hide (blanks_any P T aa (d + 1) wa hPa)
    have HLa : Hid (Lm w wa P V lo) := (uh HL9).trans hLa
    have HSZa : Hid (lo ≤ wa.heap.size) := Nat.le_trans (uh HSZ9) hLa.size
    have HIa := hide hIa
    clear HMm hPa hLa hIa hMa
    go_wp2_with fail
    refine (uh HBl).mono ?_
    rintro e wb ⟨ab, rfl, HPb, HMb, HSb⟩
    have hleb := (uh HPb).le
    have hskb : (T.drop ab).length ≤ (T.drop aa).length := by rw [← uh HSb]; exact skB_le _
    rw [uh HSb] at HS7
    have hab2 : aa ≤ ab := dlen hskb hleb hleA
    have HIb := hide (uh HIK wa wb sa (n + 1) (uh HIa) (uh HSZa) (uh HMb))
    have HLb : Hid (Lm w wb P V lo) := (uh HLa).trans (Lm.ofMv (uh HMb) (uh HSZa))
    have HFb : Hid ((T.drop ab).length ≤ f) := Nat.le_trans hskb (Nat.le_trans hlna hlf)
    clear HBl hskb hlna hlf HSb
    go_wp2_with fail
    go_roundw
    case rel => exact ⟨f, ab, n + 1, sa, HPb, HLb, HIb, by omega, HFb, HS7⟩
    case measure =>
     have e1 := (uh HPb).cells.2.1
     rw [hcl', e1]
     simp only
     omega
   ·have HRES4 : Hid (RES = clM cl (.ok s (T.drop a'))) := by
     show _ = _
     rw [uh HSr]
     cases hl4 : T.drop a' with
     | nil => rfl
     | cons x r' =>
      have : ¬ x = 44 := by rintro rfl; apply h44; rw [hl4]; rfl
      simp [meT, this]
    obtain ⟨X, hX⟩ : ∃ X, nxI (T.drop a') = X := ⟨_, rfl⟩
    rw [hX] at HN h44
    clear HSr hX
    go_wp2_with fail
    refine (uh HN).mono ?_
    rintro e w4 ⟨rfl, HP4, HB4⟩
    have HI4 := hide (uh HIK wr w4 s n (uh HIr) (uh HSZr) (Mv.ofB (uh HB4)))
    have HT := hide (uh HEnd w4 s n a' (uh HP4) ((uh HLr).trans (Lm.ofMv (Mv.ofB (uh HB4)) (uh HSZr))) (uh HI4) (Nat.le_trans (uh HSZr) (uh HB4).size))
    clear HN HEnd
    go_wp2_with fail
    refine (uh HT).mono ?_
    rintro e w5 (⟨a5, hM5, rfl, hP5, hL5, hI5⟩ | ⟨y, a5, hM5, rfl, h2, h3⟩)
    ·obtain ⟨q0, q1, q2, qf⟩ := hP5.cells
     have fq := qf 2
     rw [show ((d + 1 : Nat) : Int) = (d : Int) + 1 by omega] at q2
     have HPF : Hid (Pa (w5.setCell ⟨P, 2, none⟩ (.int .i64 (d : Int))) P T a5 d) := hP5.around d (by omega)
     have HLF : Hid (Lm w (w5.setCell ⟨P, 2, none⟩ (.int .i64 (d : Int))) P V lo) := hL5.trans (Lm.ofMv (Mv.set _ _ _ _) (Nat.le_trans (uh HSZ) hL5.size))
     have HIF := hide (uh HIK w5 (w5.setCell ⟨P, 2, none⟩ (.int .i64 (d : Int))) _ _ hI5 (Nat.le_trans (uh HSZ) hL5.size) (Mv.set _ _ _ _))
     have HRF := hide (uh HRES4 |>.trans hM5)
     clear HT hP5 hL5 hI5 hM5 qf q0 q1
     go_wp2_with fail
     go_end0
     exact .inl ⟨_, a5, _, uh HRF, rfl, uh HPF, uh HLF, uh HIF⟩
    ·exact ⟨rfl, MeP.nay (by rw [uh HRES4, hM5]) h2 h3⟩
set_option maxHeartbeats 8000000 in
theorem members_o {σ : Type} (P : Nat) (T : List UInt8) (d V lo : Nat) (Q N : Nat) (cl : UInt8) (mb : σ → List UInt8 → Rs σ) (I : World → σ → Nat → Prop)
  (hI : ∀ w w' s n, I w s n → lo ≤ w.heap.size → Mv w w' P → I w' s n)
  (hMem : ∀ (w : World) (a : Nat) (s : σ) (n : Nat), Pa w P T a (d + 1) → I w s n → lo ≤ w.heap.size → n ≤ 65536 → Calls Tryz.prog 138 #[.pointer (some ⟨Q, 0, none⟩), .pointer (some ⟨N, 0, none⟩), .pointer (some ⟨V, 0, none⟩)] w fun e w' => (∃ s' a', mb s (T.drop a) = .ok s' (T.drop a') ∧ e = .returned (.tuple #[]) ∧ Pa w' P T a' (d + 1) ∧ Lm w w' P V lo ∧ I w' s' (n + 1)) ∨ (∃ y a', mb s (T.drop a) = .no (T.drop a') y ∧ e = flt a' y ∧ a' ≤ T.length ∧ Lm w w' P V lo))
  (hlen : ∀ s l s' r, mb s l = .ok s' r → r.length ≤ l.length) (a : Nat) (s0 : σ) (c : UInt8) (r : List UInt8) (w : World) (h : Pa w P T a d) (hd : d < 16) (hl : T.drop a = c :: r) (hI0 : I w s0 0) (hsz : lo ≤ w.heap.size) :
  Calls Tryz.prog 137 #[.pointer (some ⟨P, 0, none⟩), .int .u8 (cl.toNat : Int), .func (.func 138) #[] #[.pointer (some ⟨Q, 0, none⟩), .pointer (some ⟨N, 0, none⟩), .pointer (some ⟨V, 0, none⟩)]] w fun e w' => MeP I w P V lo d T (mmM cl s0 (fun l => meL mb (l.length + 1) s0 l) r) e w' := by
 obtain ⟨hlt, _, hdr⟩ := drop_cons hl
 have hbig := h.big
 obtain ⟨RES, hRES⟩ : ∃ RES, RES = mmM cl s0 (fun l => meL mb (l.length + 1) s0 l) r := ⟨_, rfl⟩
 rw [← hRES]
 rw [mm_cl, ← hdr] at hRES
 obtain ⟨W1, hW1⟩ : ∃ W1, W1 = w.setCell ⟨P, 2, none⟩ (.int .i64 ((d : Int) + 1)) := ⟨_, rfl⟩
 have hP1 : Pa W1 P T a (d + 1) := by
  have := h.around (d + 1) (by omega)
  rw [show ((d + 1 : Nat) : Int) = (d : Int) + 1 by omega, ← hW1] at this
  exact this
 have hM1 : Mv w W1 P := by rw [hW1]; exact Mv.set _ _ _ _
 obtain ⟨k1, k2⟩ := hP1.inc hlt
 obtain ⟨W2, hW2⟩ : ∃ W2, W2 = W1.setCell ⟨P, 1, none⟩ (.int .i64 ((a : Int) + 1)) := ⟨_, rfl⟩
 rw [← hW2] at k1 k2
 have hM2 : Mv w W2 P := hM1.trans k2
 have HB := hide (blanks_any P T (a + 1) (d + 1) W2 k1)
 have HI2 := hide (hI w W2 s0 0 hI0 hsz hM2)
 have HM2 := hide hM2
 obtain ⟨c0, c1, c2, cf⟩ := h.cells
 have f2 := cf 2
 obtain ⟨e0, e1, e2, ef⟩ := hP1.cells
 have g1 := ef 1
 have hd16 : ¬ (d : Int) = 16 := by omega
 have HIK := hide hI
 have HMem := hide hMem
 have HLen := hide hlen
 have HSZ := hide hsz
 have HRES := hide hRES
 have hab : a + 1 ≤ T.length := hlt
 have hc256 := cl.toNat_lt
 have hwr : wrap64 (cl.toNat : Int) = (cl.toNat : Int) := by unfold wrap64; omega
 clear h hP1 hM1 k1 k2 hM2 cf ef c0 e0 e2 hI hMem hlen hI0 hsz hRES hl hlt hdr
 go_enter Tryz.func137, Tryz.ntmps137
 go_upto_region 3 with fail
 rw [← hW1]
 clear hW1 c1 c2 f2
 go_upto_region 4 with fail
 rw [← hW2]
 clear hW2 e1 g1
 go_wp2_with fail
 refine (uh HB).mono ?_
 rintro e w3 ⟨a3, rfl, HP3, HM3, HS3⟩
 have HI3 := hide (uh HIK W2 w3 s0 0 (uh HI2) (Nat.le_trans (uh HSZ) (uh HM2).size) (uh HM3))
 have HMw : Hid (Mv w w3 P) := (uh HM2).trans (uh HM3)
 have HRES3 : Hid (RES = clM cl (match T.drop a3 with | [] => meL mb 1 s0 [] | c :: r => if c = cl then .ok s0 (c :: r) else meL mb ((c :: r).length + 1) s0 (c :: r))) := by show _ = _; rw [uh HRES, uh HS3]; cases T.drop a3 <;> rfl
 have HN3 := hide (next_any P T a3 (d + 1) w3 (uh HP3))
 have hle3 := (uh HP3).le
 have ha3 : a + 1 ≤ a3 := dlen (by rw [← uh HS3]; exact skB_le _) hle3 hab
 have HEnd : Hid (∀ (wx : World) (s : σ) (n ax : Nat), Pa wx P T ax (d + 1) → Lm w wx P V lo → I wx s n → lo ≤ wx.heap.size → Calls Tryz.prog 105 #[.pointer (some ⟨P, 0, none⟩), .int .u8 (cl.toNat : Int)] wx fun e w' => (∃ a', clM cl (.ok s (T.drop ax)) = .ok s (T.drop a') ∧ e = .returned (.tuple #[]) ∧ Pa w' P T a' (d + 1) ∧ Lm w w' P V lo ∧ I w' s n) ∨ (∃ y a', clM cl (.ok s (T.drop ax)) = .no (T.drop a') y ∧ e = flt a' y ∧ a' ≤ T.length ∧ Lm w w' P V lo)) := by
  intro wx s n ax hx hlm hix hsx
  refine (take_any P T ax (d + 1) cl wx hx).mono ?_
  rintro e w' (⟨v, val, a', hM, rfl, hP', hM', hval⟩ | ⟨y, a', hM, rfl, h2, h3⟩)
  ·obtain rfl : val = .tuple #[] := hval
   exact .inl ⟨a', by simp only [clM, hM], rfl, hP', hlm.trans (Lm.ofMv hM' hsx), uh HIK wx w' s n hix hsx hM'⟩
  ·exact .inr ⟨y, a', by simp only [clM, hM], rfl, h2, hlm.trans (Lm.ofMv h3 hsx)⟩
 clear HB HI2 HM2 HM3 HS3 HRES
 have HSZ3 : Hid (lo ≤ w3.heap.size) := Nat.le_trans (uh HSZ) (uh HMw).size
 have HL3 : Hid (Lm w w3 P V lo) := Lm.ofMv (uh HMw) (uh HSZ)
 by_cases hcl : nxI (T.drop a3) = (cl.toNat : Int)
 ·obtain ⟨r3, hr3⟩ : ∃ r3, T.drop a3 = cl :: r3 := by
   cases hl3 : T.drop a3 with
   | nil => rw [hl3] at hcl; simp [nxI] at hcl
   | cons x r3 =>
    rw [hl3] at hcl
    simp only [nxI] at hcl
    exact ⟨r3, by rw [show x = cl from UInt8.toNat_inj.1 (by omega)]⟩
  rw [hcl] at HN3
  have HRES4 : Hid (RES = clM cl (.ok s0 (T.drop a3))) := by show _ = _; rw [uh HRES3, hr3]; simp
  clear HRES3 hcl
  go_wp2_with fail
  refine (uh HN3).mono ?_
  rintro e w4 ⟨rfl, HP4, HB4⟩
  have HI4 := hide (uh HIK w3 w4 s0 0 (uh HI3) (uh HSZ3) (Mv.ofB (uh HB4)))
  have HT := hide (uh HEnd w4 s0 0 a3 (uh HP4) ((uh HL3).trans (Lm.ofMv (Mv.ofB (uh HB4)) (uh HSZ3))) (uh HI4) (Nat.le_trans (uh HSZ3) (uh HB4).size))
  clear HN3 HEnd
  go_wp2_with fail
  refine (uh HT).mono ?_
  rintro e w5 (⟨a5, hM5, rfl, hP5, hL5, hI5⟩ | ⟨y, a5, hM5, rfl, h2, h3⟩)
  ·obtain ⟨q0, q1, q2, qf⟩ := hP5.cells
   have fq := qf 2
   rw [show ((d + 1 : Nat) : Int) = (d : Int) + 1 by omega] at q2
   have HPF : Hid (Pa (w5.setCell ⟨P, 2, none⟩ (.int .i64 (d : Int))) P T a5 d) := hP5.around d (by omega)
   have HLF : Hid (Lm w (w5.setCell ⟨P, 2, none⟩ (.int .i64 (d : Int))) P V lo) := hL5.trans (Lm.ofMv (Mv.set _ _ _ _) (Nat.le_trans (uh HSZ) hL5.size))
   have HIF := hide (uh HIK w5 (w5.setCell ⟨P, 2, none⟩ (.int .i64 (d : Int))) _ _ hI5 (Nat.le_trans (uh HSZ) hL5.size) (Mv.set _ _ _ _))
   have HRF := hide (uh HRES4 |>.trans hM5)
   clear HT hP5 hL5 hI5 hM5 qf q0 q1
   go_wp2_with fail
   go_end0
   exact .inl ⟨_, a5, _, uh HRF, rfl, uh HPF, uh HLF, uh HIF⟩
  ·exact ⟨rfl, MeP.nay (by rw [uh HRES4, hM5]) h2 h3⟩
 ·have hcl2 : (T.drop a3).head? ≠ some cl := by
   intro e
   apply hcl
   cases hl3 : T.drop a3 with
   | nil => rw [hl3] at e; simp at e
   | cons x r3 => rw [hl3] at e; simp at e; subst e; rfl
  have HRES4 : Hid (RES = clM cl (meL mb ((T.drop a3).length + 1) s0 (T.drop a3))) := by
   show _ = _
   rw [uh HRES3]
   cases hl3 : T.drop a3 with
   | nil => rfl
   | cons x r3 =>
    have : ¬ x = cl := by rw [hl3] at hcl2; simpa using hcl2
    simp only
    rw [if_neg this]
  obtain ⟨X, hX⟩ : ∃ X, nxI (T.drop a3) = X := ⟨_, rfl⟩
  rw [hX] at HN3 hcl
  clear HRES3 hcl2 hX
  go_wp2_with fail
  refine (uh HN3).mono ?_
  rintro e w4 ⟨rfl, HP4, HB4⟩
  have HI4 := hide (uh HIK w3 w4 s0 0 (uh HI3) (uh HSZ3) (Mv.ofB (uh HB4)))
  have HL4 : Hid (Lm w w4 P V lo) := (uh HL3).trans (Lm.ofMv (Mv.ofB (uh HB4)) (uh HSZ3))
  have HSZ4 : Hid (lo ≤ w4.heap.size) := Nat.le_trans (uh HSZ3) (uh HB4).size
  have HMm := hide (uh HMem w4 a3 s0 0 (uh HP4) (uh HI4) (uh HSZ4) (by omega))
  rw [meL_step] at HRES4
  clear HN3
  go_wp2_with fail
  refine (uh HMm).mono ?_
  rintro e w5 (⟨s5, a5, hM5, rfl, hP5, hL5, hI5⟩ | ⟨y, a5, hM5, rfl, h2, h3⟩)
  rotate_left 1
  ·rw [hM5] at HRES4
   exact ⟨rfl, MeP.nay (uh HRES4) h2 ((uh HL4).trans h3)⟩
  rw [hM5] at HRES4
  simp only at HRES4
  have hln5 := uh HLen _ _ _ _ hM5
  have ha5 := dlen hln5 hP5.le hle3
  have HBl := hide (blanks_any P T a5 (d + 1) w5 hP5)
  have HL5 : Hid (Lm w w5 P V lo) := (uh HL4).trans hL5
  have HSZ5 : Hid (lo ≤ w5.heap.size) := Nat.le_trans (uh HSZ4) hL5.size
  have HI5 := hide hI5
  have HLN5 := hide hln5
  clear HMm hP5 hL5 hI5 hM5 hln5 HI4 HI3
  go_wp2_with fail
  refine (uh HBl).mono ?_
  rintro e w6 ⟨a6, rfl, HP6, HM6, HS6⟩
  have hle6 := (uh HP6).le
  have hsk : (T.drop a6).length ≤ (T.drop a5).length := by rw [← uh HS6]; exact skB_le _
  rw [uh HS6] at HRES4
  have hln5 : (T.drop a5).length ≤ (T.drop a3).length := uh HLN5
  have hln6 : (T.drop a6).length ≤ (T.drop a3).length := Nat.le_trans hsk hln5
  have ha6 : a3 ≤ a6 := dlen hln6 hle6 hle3
  have h1a6 : 1 ≤ a6 := by omega
  have HI6 := hide (uh HIK w5 w6 s5 1 (uh HI5) (uh HSZ5) (uh HM6))
  have HL6 : Hid (Lm w w6 P V lo) := (uh HL5).trans (Lm.ofMv (uh HM6) (uh HSZ5))
  have HF6 := hide hln6
  obtain ⟨F6, hF6⟩ : ∃ F6, F6 = (T.drop a3).length := ⟨_, rfl⟩
  rw [← hF6] at HF6 HRES4
  clear HBl HI5 HL5 HSZ5 HLN5 hln5 hsk hln6 HS6 HM6 ha6 hF6 HP3 HP4 HB4 HL3 HL4 HSZ3 HSZ4 HMw
  go_wp2_with fail
  go_loopw [38] (fun _ wr => ∃ (F a' n : Nat) (s : σ), Hid (Pa wr P T a' (d + 1)) ∧ Hid (Lm w wr P V lo) ∧ Hid (I wr s n) ∧ n ≤ a' ∧ Hid ((T.drop a').length ≤ F) ∧ Hid (RES = clM cl (meT mb F s (T.drop a')))) (fun _ wr => 70000 - (match wr.cell? ⟨P, 1, none⟩ with | some (.int .i64 x) => x.toNat | _ => 0))
  case atStart => exact ⟨F6, a6, 1, s5, HP6, HL6, HI6, h1a6, HF6, HRES4⟩
  case round =>
   clear HP6 HL6 HI6 h1a6 HF6 HRES4
   obtain ⟨F, a', n, s, HPr, HLr, HIr, hna, HFr, HSr⟩ := hrel
   have hle := (uh HPr).le
   have hcl' := (uh HPr).cells.2.1
   have HN := hide (next_any P T a' (d + 1) wr (uh HPr))
   have HSZr : Hid (lo ≤ wr.heap.size) := Nat.le_trans (uh HSZ) (uh HLr).size
   by_cases h44 : nxI (T.drop a') = 44
   ·obtain ⟨r', hr'⟩ : ∃ r', T.drop a' = 44 :: r' := by
     cases hl4 : T.drop a' with
     | nil => rw [hl4] at h44; simp [nxI] at h44
     | cons x r' =>
      rw [hl4] at h44
      simp only [nxI] at h44
      exact ⟨r', by rw [show x = 44 from UInt8.toNat_inj.1 (by show x.toNat = 44; omega)]⟩
    obtain ⟨hlt, _, hdr⟩ := drop_cons hr'
    obtain ⟨f, rfl⟩ : ∃ f, F = f + 1 := ⟨F - 1, by have h9 : (T.drop a').length ≤ F := HFr; rw [hr'] at h9; simp at h9; omega⟩
    have hfr : r'.length ≤ f := by have h9 : (T.drop a').length ≤ f + 1 := HFr; rw [hr'] at h9; simp at h9; omega
    rw [h44] at HN
    have HS7 : Hid (RES = clM cl (meL mb (f + 1) s (skB (T.drop (a' + 1))))) := by show _ = _; rw [uh HSr, hr', hdr]; simp [meT]
    clear HSr HFr h44
    go_wp2_with fail
    refine (uh HN).mono ?_
    rintro e w7 ⟨rfl, HP7, HB7⟩
    obtain ⟨q0, q1, q2, qf⟩ := (uh HP7).cells
    have fq := qf 1
    obtain ⟨k1, k2⟩ := (uh HP7).inc hlt
    obtain ⟨W8, hW8⟩ : ∃ W8, W8 = w7.setCell ⟨P, 1, none⟩ (.int .i64 ((a' : Int) + 1)) := ⟨_, rfl⟩
    rw [← hW8] at k1 k2
    have HM8 : Hid (Mv wr W8 P) := (Mv.ofB (uh HB7)).trans k2
    have HB8 := hide (blanks_any P T (a' + 1) (d + 1) W8 k1)
    clear HN qf q0 q2 k1 k2
    go_wp2_with fail
    rw [← hW8]
    clear hW8 q1 fq
    refine (uh HB8).mono ?_
    rintro e w9 ⟨a9, rfl, HP9, HM9, HS9⟩
    have hle9 := (uh HP9).le
    have hsk9 : (T.drop a9).length ≤ (T.drop (a' + 1)).length := by rw [← uh HS9]; exact skB_le _
    rw [uh HS9, meL_step] at HS7
    have ha9 : a' + 1 ≤ a9 := dlen hsk9 hle9 hlt
    have HM9' : Hid (Mv wr w9 P) := (uh HM8).trans (uh HM9)
    have HI9 := hide (uh HIK wr w9 s n (uh HIr) (uh HSZr) (uh HM9'))
    have HL9 : Hid (Lm w w9 P V lo) := (uh HLr).trans (Lm.ofMv (uh HM9') (uh HSZr))
    have HSZ9 : Hid (lo ≤ w9.heap.size) := Nat.le_trans (uh HSZr) (uh HM9').size
    have HMm := hide (uh HMem w9 a9 s n (uh HP9) (uh HI9) (uh HSZ9) (by omega))
    have hlf : (T.drop a9).length ≤ f := by rw [hdr] at hsk9; omega
    clear HB8 HM8 HM9 HS9 hsk9 hfr
    go_wp2_with fail
    refine (uh HMm).mono ?_
    rintro e wa (⟨sa, aa, hMa, rfl, hPa, hLa, hIa⟩ | ⟨y, aa, hMa, rfl, h2, h3⟩)
    rotate_left 1
    ·rw [hMa] at HS7
     exact ⟨rfl, MeP.nay (uh HS7) h2 ((uh HL9).trans h3)⟩
    rw [hMa] at HS7
    simp only at HS7
    have hlna := uh HLen _ _ _ _ hMa
    have haa := dlen hlna hPa.le hle9
    have hleA := hPa.le
    have HBl := hide (blanks_any P T aa (d + 1) wa hPa)
    have HLa : Hid (Lm w wa P V lo) := (uh HL9).trans hLa
    have HSZa : Hid (lo ≤ wa.heap.size) := Nat.le_trans (uh HSZ9) hLa.size
    have HIa := hide hIa
    clear HMm hPa hLa hIa hMa
    go_wp2_with fail
    refine (uh HBl).mono ?_
    rintro e wb ⟨ab, rfl, HPb, HMb, HSb⟩
    have hleb := (uh HPb).le
    have hskb : (T.drop ab).length ≤ (T.drop aa).length := by rw [← uh HSb]; exact skB_le _
    rw [uh HSb] at HS7
    have hab2 : aa ≤ ab := dlen hskb hleb hleA
    have HIb := hide (uh HIK wa wb sa (n + 1) (uh HIa) (uh HSZa) (uh HMb))
    have HLb : Hid (Lm w wb P V lo) := (uh HLa).trans (Lm.ofMv (uh HMb) (uh HSZa))
    have HFb : Hid ((T.drop ab).length ≤ f) := Nat.le_trans hskb (Nat.le_trans hlna hlf)
    clear HBl hskb hlna hlf HSb
    go_wp2_with fail
    go_roundw
    case rel => exact ⟨f, ab, n + 1, sa, HPb, HLb, HIb, by omega, HFb, HS7⟩
    case measure =>
     have e1 := (uh HPb).cells.2.1
     rw [hcl', e1]
     simp only
     omega
   ·have HRES4 : Hid (RES = clM cl (.ok s (T.drop a'))) := by
     show _ = _
     rw [uh HSr]
     cases hl4 : T.drop a' with
     | nil => rfl
     | cons x r' =>
      have : ¬ x = 44 := by rintro rfl; apply h44; rw [hl4]; rfl
      simp [meT, this]
    obtain ⟨X, hX⟩ : ∃ X, nxI (T.drop a') = X := ⟨_, rfl⟩
    rw [hX] at HN h44
    clear HSr hX
    go_wp2_with fail
    refine (uh HN).mono ?_
    rintro e w4 ⟨rfl, HP4, HB4⟩
    have HI4 := hide (uh HIK wr w4 s n (uh HIr) (uh HSZr) (Mv.ofB (uh HB4)))
    have HT := hide (uh HEnd w4 s n a' (uh HP4) ((uh HLr).trans (Lm.ofMv (Mv.ofB (uh HB4)) (uh HSZr))) (uh HI4) (Nat.le_trans (uh HSZr) (uh HB4).size))
    clear HN HEnd
    go_wp2_with fail
    refine (uh HT).mono ?_
    rintro e w5 (⟨a5, hM5, rfl, hP5, hL5, hI5⟩ | ⟨y, a5, hM5, rfl, h2, h3⟩)
    ·obtain ⟨q0, q1, q2, qf⟩ := hP5.cells
     have fq := qf 2
     rw [show ((d + 1 : Nat) : Int) = (d : Int) + 1 by omega] at q2
     have HPF : Hid (Pa (w5.setCell ⟨P, 2, none⟩ (.int .i64 (d : Int))) P T a5 d) := hP5.around d (by omega)
     have HLF : Hid (Lm w (w5.setCell ⟨P, 2, none⟩ (.int .i64 (d : Int))) P V lo) := hL5.trans (Lm.ofMv (Mv.set _ _ _ _) (Nat.le_trans (uh HSZ) hL5.size))
     have HIF := hide (uh HIK w5 (w5.setCell ⟨P, 2, none⟩ (.int .i64 (d : Int))) _ _ hI5 (Nat.le_trans (uh HSZ) hL5.size) (Mv.set _ _ _ _))
     have HRF := hide (uh HRES4 |>.trans hM5)
     clear HT hP5 hL5 hI5 hM5 qf q0 q1
     go_wp2_with fail
     go_end0
     exact .inl ⟨_, a5, _, uh HRF, rfl, uh HPF, uh HLF, uh HIF⟩
    ·exact ⟨rfl, MeP.nay (by rw [uh HRES4, hM5]) h2 h3⟩
end Go.Proofs.YtmpjeahibfdehaaGreatDoor
end
