/-
  jsonx's statements: a value in memory of its own: own.; jsonx's statements: a member of one's own value is written anew.; jsonx: slices.Clone of a value's items; a value in the midst of being copied by deepCopy.; jsonx: deepCopy.; jsonx: slices.Index of names; Get, and the document's own.; object: members, and the object of them.; object: what an object has at a name: TextIn, NumberIn, ItemsIn.
-/
import Derived.Test.YtmpjeahibfdehaaGreatDoorPkMtesay
import Derived.Deep.RegionLaw
import Derived.Test.YtmpjeahibfdehaaGreatDoorPkMtesat
import Derived.Test.YtmpjeahibfdehaaGreatDoorPkMtesbd
section
set_option linter.unusedVariables false
set_option maxRecDepth 1000000
namespace Go.Proofs.YtmpjeahibfdehaaGreatDoor
open Go.RowKit

/-- What own hands back. -/
def OwP (w : World) (j : Js) (e : Ending) (w' : World) : Prop := ∃ v lo, e = .returned v ∧ w.heap.size ≤ lo ∧ CpJ lo w' v j ∧ Below w.heap.size w w'
end Go.Proofs.YtmpjeahibfdehaaGreatDoor
end
section
set_option linter.unusedVariables false
set_option maxRecDepth 1000000
namespace Go.Proofs.YtmpjeahibfdehaaGreatDoor
open Go.RowKit

def st5 (xs : List Value) (q : Nat) (v0 v1 v2 v3 v4 : Value) : List Value := ((((xs.set (q * 5) v0).set (q * 5 + 1) v1).set (q * 5 + 2) v2).set (q * 5 + 3) v3).set (q * 5 + 4) v4
theorem st5_far {xs : List Value} {q m : Nat} {v0 v1 v2 v3 v4 v : Value} (hne : m ≠ q) (h : At5 xs m v) : At5 (st5 xs q v0 v1 v2 v3 v4) m v := by
 obtain ⟨z0, z1, z2, z3, z4, e, h0, h1, h2, h3, h4⟩ := h
 have key : ∀ i, i < 5 → (st5 xs q v0 v1 v2 v3 v4)[m * 5 + i]? = xs[m * 5 + i]? := fun i hi => by
  unfold st5
  rw [List.getElem?_set_ne (by omega), List.getElem?_set_ne (by omega), List.getElem?_set_ne (by omega), List.getElem?_set_ne (by omega), List.getElem?_set_ne (by omega)]
 exact ⟨z0, z1, z2, z3, z4, e, (key 0 (by omega)).trans h0, (key 1 (by omega)).trans h1, (key 2 (by omega)).trans h2, (key 3 (by omega)).trans h3, (key 4 (by omega)).trans h4⟩
theorem st5_at {xs : List Value} {q : Nat} (v0 v1 v2 v3 v4 : Value) (h : q * 5 + 4 < xs.length) : At5 (st5 xs q v0 v1 v2 v3 v4) q (.agg #[v0, v1, v2, v3, v4]) := by
 refine ⟨v0, v1, v2, v3, v4, rfl, ?_, ?_, ?_, ?_, ?_⟩
 ·unfold st5
  rw [List.getElem?_set_ne (by omega), List.getElem?_set_ne (by omega), List.getElem?_set_ne (by omega), List.getElem?_set_ne (by omega), List.getElem?_set_self (by omega)]
 ·unfold st5
  rw [List.getElem?_set_ne (by omega), List.getElem?_set_ne (by omega), List.getElem?_set_ne (by omega), List.getElem?_set_self (by rw [List.length_set]; omega)]
 ·unfold st5
  rw [List.getElem?_set_ne (by omega), List.getElem?_set_ne (by omega), List.getElem?_set_self (by rw [List.length_set, List.length_set]; omega)]
 ·unfold st5
  rw [List.getElem?_set_ne (by omega), List.getElem?_set_self (by rw [List.length_set, List.length_set, List.length_set]; omega)]
 ·unfold st5
  rw [List.getElem?_set_self (by rw [List.length_set, List.length_set, List.length_set, List.length_set]; omega)]
theorem Bw.put {u w8 w9 : World} {V lo old : Nat} {k n : Int} {t : List UInt8} {ns : List (List UInt8)} {is : List Js} {g1 c1 g2 c2 : Nat} {xs : List Value} (h : Bw u V lo k n t ns is (some ⟨g1, 0, none⟩) c1 (some ⟨g2, 0, none⟩) c2 xs) (q : Nat) (hqn : q < ns.length) (hqi : q < is.length) (s : List UInt8) {v0 v1 v2 v3 v4 : Value} {j : Js} (hj : JV u (fun k => old ≤ k ∧ k < u.heap.size) (.agg #[v0, v1, v2, v3, v4]) j) (hold : lo ≤ old) (hV : V < old) (h1 : g1 < old) (h2 : g2 < old)
  (e8 : w8 = u.setCell ⟨g1, q, none⟩ (.string (str s))) (e9 : w9 = ((((w8.setCell ⟨g2, q * 5, none⟩ v0).setCell ⟨g2, q * 5 + 1, none⟩ v1).setCell ⟨g2, q * 5 + 2, none⟩ v2).setCell ⟨g2, q * 5 + 3, none⟩ v3).setCell ⟨g2, q * 5 + 4, none⟩ v4) :
  Bw w9 V lo k n t (ns.set q s) (is.set q j) (some ⟨g1, 0, none⟩) c1 (some ⟨g2, 0, none⟩) c2 (st5 xs q v0 v1 v2 v3 v4) := by
 have n1 : g1 ≠ V := fun e => h.v1 (by rw [e]; rfl)
 have n2 : g2 ≠ V := fun e => h.v2 (by rw [e]; rfl)
 have n3 : g2 ≠ g1 := fun e => h.v3 g1 rfl (by rw [e]; rfl)
 have hxl : xs.length = is.length * 5 := h.it.1
 have k8 : ∀ k, k ≠ g1 → w8.heap[k]? = u.heap[k]? := fun k hk => by rw [e8]; exact Below.heap_setCell _ ⟨g1, q, none⟩ _ k hk
 have k9 : ∀ k, k ≠ g2 → w9.heap[k]? = w8.heap[k]? := fun k hk => by rw [e9]; exact far5 _ _ _ _ _ _ _ _ _ _ _ _ _ hk
 have z9 : w9.heap.size = u.heap.size := by rw [e9, siz5, e8, siz1]
 have kk : ∀ k, k ≠ g1 → k ≠ g2 → w9.heap[k]? = u.heap[k]? := fun k m1 m2 => (k9 k m2).trans (k8 k m1)
 refine ⟨?_, ?_, ?_, fun m x hx => ?_, h.v1, h.v2, h.v3⟩
 ·rw [List.length_set, List.length_set]
  exact (kk V (Ne.symm n1) (Ne.symm n2)).trans h.row
 ·have o := owns_set h.nm q (.string (str s)) (by unfold nsv; simpa using hqn)
  rw [← e8] at o
  have o9 := owns_same (w' := w9) o (fun k hk => k9 k (fun e => n3 (by simp [blk] at hk; omega)))
  have en : nsv (ns.set q s) = (nsv ns).set q (.string (str s)) := by unfold nsv; rw [List.map_set]
  show w9.ownsRow _ _ _ _ _ _
  rw [en, List.length_set]
  exact o9
 ·have o := owns_same (w' := w8) h.it (fun k hk => k8 k (fun e => n3 (by simp [blk] at hk; omega)))
  rw [List.length_set, e9]
  exact owns_set (owns_set (owns_set (owns_set (owns_set o _ _ (by omega)) _ _ (by rw [List.length_set]; omega)) _ _ (by rw [List.length_set, List.length_set]; omega)) _ _ (by rw [List.length_set, List.length_set, List.length_set]; omega)) _ _ (by rw [List.length_set, List.length_set, List.length_set, List.length_set]; omega)
 ·by_cases e : m = q
  ·subst e
   rw [List.getElem?_set_self (by simpa using hqi)] at hx
   obtain rfl := Option.some.inj hx
   refine ⟨_, st5_at v0 v1 v2 v3 v4 (by omega), JV.keep (fun b hb => ?_) _ _ hj⟩
   have b1 : b ≠ g1 := by omega
   have b2 : b ≠ g2 := by omega
   refine ⟨⟨by omega, by omega, by omega, ?_, ?_⟩, kk b b1 b2⟩
   ·simp [blk]; omega
   ·simp [blk]; omega
  ·rw [List.getElem?_set_ne (fun k => e k.symm)] at hx
   obtain ⟨v, p1, p2⟩ := h.el m x hx
   refine ⟨v, st5_far e p1, JV.keep (fun b hb => ?_) _ _ p2⟩
   have b1 : b ≠ g1 := fun k => hb.2.2.2.1 (by rw [k]; rfl)
   have b2 : b ≠ g2 := fun k => hb.2.2.2.2 (by rw [k]; rfl)
   exact ⟨⟨hb.1, by have := hb.2.1; omega, hb.2.2.1, hb.2.2.2.1, hb.2.2.2.2⟩, kk b b1 b2⟩
end Go.Proofs.YtmpjeahibfdehaaGreatDoor
end
section
set_option linter.unusedVariables false
set_option maxRecDepth 1000000
namespace Go.Proofs.YtmpjeahibfdehaaGreatDoor
open Go.RowKit

/-- The cells of a row of values, as they stand. -/
def jcs (w : World) (b off n : Nat) : List Value := (List.range (n * 5)).map fun j => (w.cell? ⟨b, off + j, none⟩).getD (.int .i64 0)
theorem jcs_length (w : World) (b off n : Nat) : (jcs w b off n).length = n * 5 := by simp [jcs]
theorem jcs_get {w : World} {b off n j : Nat} (h : j < n * 5) {u : Value} (hu : w.cell? ⟨b, off + j, none⟩ = some u) : (jcs w b off n)[j]? = some u := by
 unfold jcs
 rw [List.getElem?_map, List.getElem?_range h]
 simp [hu]
theorem jel_parts {w : World} {S : Nat → Prop} {b off m : Nat} {j : Js} (h : JEl w S (some ⟨b, off, none⟩) m j) : ∃ (k n : Int) (t : List UInt8) (a1 : Option Addr) (n1 c1 : Nat) (a2 : Option Addr) (n2 c2 : Nat), w.cell? ⟨b, off + m * 5, none⟩ = some (.int .i64 k) ∧ w.cell? ⟨b, off + m * 5 + 1, none⟩ = some (.int .i64 n) ∧ w.cell? ⟨b, off + m * 5 + 2, none⟩ = some (.string (str t)) ∧ w.cell? ⟨b, off + m * 5 + 3, none⟩ = some (.slice a1 n1 c1) ∧ w.cell? ⟨b, off + m * 5 + 4, none⟩ = some (.slice a2 n2 c2) ∧ JV w S (.agg #[.int .i64 k, .int .i64 n, .string (str t), .slice a1 n1 c1, .slice a2 n2 c2]) j := by
 obtain ⟨b', off', v0, v1, v2, v3, v4, e, _, h0, h1, h2, h3, h4, hj⟩ := h
 obtain ⟨rfl, rfl⟩ : b = b' ∧ off = off' := by simpa using e
 obtain ⟨k, n, t, a1, n1, c1, a2, n2, c2, e⟩ := hj.form
 simp only [Value.agg.injEq, Array.mk.injEq, List.cons.injEq, and_true] at e
 obtain ⟨rfl, rfl, rfl, rfl, rfl⟩ := e
 exact ⟨k, n, t, a1, n1, c1, a2, n2, c2, h0, h1, h2, h3, h4, hj⟩
theorem jcs_ok {w : World} {S : Nat → Prop} {b off : Nat} {is : List Js} (h : JVs w S (some ⟨b, off, none⟩) 0 is) : ∀ j u, (jcs w b off is.length)[j]? = some u → w.cell? ⟨b, off + j, none⟩ = some u ∧ u.oneCell' = true := by
 intro j u hu
 have hj := (List.getElem?_eq_some_iff.1 hu).1
 rw [jcs_length] at hj
 have hm : j / 5 < is.length := by omega
 have he := (jvs_iff w S _ is 0).1 h (j / 5) _ (List.getElem?_eq_getElem hm)
 rw [Nat.zero_add] at he
 obtain ⟨k, n, t, a1, n1, c1, a2, n2, c2, h0, h1, h2, h3, h4, _⟩ := jel_parts he
 obtain ⟨q, hq⟩ : ∃ q, q = j % 5 := ⟨_, rfl⟩
 have hq5 : q < 5 := by omega
 have key : ∀ x, w.cell? ⟨b, off + j, none⟩ = some x → x.oneCell' = true → w.cell? ⟨b, off + j, none⟩ = some u ∧ u.oneCell' = true := fun x hx h1 => by
  have e := (jcs_get (w := w) (b := b) (off := off) (n := is.length) hj hx).symm.trans hu
  obtain rfl := Option.some.inj e
  exact ⟨hx, h1⟩
 match q, hq5, hq with
 | 0, _, hq => exact key _ (by rw [show off + j = off + j / 5 * 5 by omega]; exact h0) rfl
 | 1, _, hq => exact key _ (by rw [show off + j = off + j / 5 * 5 + 1 by omega]; exact h1) rfl
 | 2, _, hq => exact key _ (by rw [show off + j = off + j / 5 * 5 + 2 by omega]; exact h2) rfl
 | 3, _, hq => exact key _ (by rw [show off + j = off + j / 5 * 5 + 3 by omega]; exact h3) rfl
 | 4, _, hq => exact key _ (by rw [show off + j = off + j / 5 * 5 + 4 by omega]; exact h4) rfl
theorem jcs_at {w : World} {S : Nat → Prop} {b off : Nat} {is : List Js} (h : JVs w S (some ⟨b, off, none⟩) 0 is) : ∀ m x, is[m]? = some x → ∃ v, At5 (jcs w b off is.length) m v ∧ JV w S v x := by
 intro m x hx
 have hm := (List.getElem?_eq_some_iff.1 hx).1
 have he := (jvs_iff w S _ is 0).1 h m x hx
 rw [Nat.zero_add] at he
 obtain ⟨k, n, t, a1, n1, c1, a2, n2, c2, h0, h1, h2, h3, h4, hj⟩ := jel_parts he
 exact ⟨_, ⟨_, _, _, _, _, rfl, jcs_get (by omega) h0, jcs_get (by omega) h1, jcs_get (by omega) h2, jcs_get (by omega) h3, jcs_get (by omega) h4⟩, hj⟩
/-- What a clone of items reads. -/
theorem jsrc {w : World} {S : Nat → Prop} {ad : Addr} {is : List Js} (h : JVs w S (some ad) 0 is) : ∃ zs : List Value, zs.length = is.length * 5 ∧ (∀ j u, zs[j]? = some u → w.cell? (ad.add j) = some u ∧ u.oneCell' = true) ∧ ∀ m x, is[m]? = some x → ∃ v, At5 zs m v ∧ JV w S v x := by
 cases is with
 | nil => exact ⟨[], rfl, fun j u h => by simp at h, fun m x h => by simp at h⟩
 | cons x r =>
  have h2 := h
  simp only [JVs] at h2
  obtain ⟨⟨b, off, _, _, _, _, _, e, _⟩, _⟩ := h2
  obtain rfl : ad = ⟨b, off, none⟩ := by simpa using e
  refine ⟨jcs w b off (x :: r).length, jcs_length _ _ _ _, fun j u hu => ?_, jcs_at h⟩
  rw [addr_add]
  exact jcs_ok h j u hu
/-- What a clone of items hands back. -/
def JclP (w : World) (S : Nat → Prop) (is : List Js) (e : Ending) (w' : World) : Prop := ∃ a' c' xs, e = .returned (.slice a' is.length c') ∧ Hid (OwnJ w' w.heap.size a' c' is.length xs) ∧ Hid (∀ m x, is[m]? = some x → ∃ v, At5 xs m v ∧ JV w' S v x) ∧ Hid (Below w.heap.size w w')
set_option maxHeartbeats 4000000 in
/-- slices.Clone of items. -/
theorem jclone_any (a : Option Addr) (cp : Nat) (is : List Js) (S : Nat → Prop) (w : World) (hr : JVs w S a 0 is) (ha : a = none → cp = 0) (hlc : is.length ≤ cp) (hl : is.length ≤ 1000000) (hS : ∀ k, S k → k < w.heap.size) :
  Calls Tryz.prog 136 #[.slice a is.length cp] w fun e w' => JclP w S is e w' := by
 have hq := fun (wx : World) (a : Option Addr) (n c : Nat) => Lib.run_eql_slice_nil (P := Tryz.prog) wx 42 44 a n c 0 0 Tryz.underlying42
 cases a with
 | none =>
  have hc0 := ha rfl
  have hl0 : is = [] := List.eq_nil_of_length_eq_zero (by omega)
  subst hl0
  subst hc0
  have HO : Hid (OwnJ w w.heap.size none 0 0 []) := ⟨rfl, .inl ⟨rfl, rfl⟩⟩
  have HE : Hid (∀ (m : Nat) (x : Js), ([] : List Js)[m]? = some x → ∃ v, At5 [] m v ∧ JV w S v x) := fun m x h => by simp at h
  clear hr hS
  go_enter Tryz.func136, Tryz.ntmps136
  go_wp2
  go_ret
  exact ⟨none, 0, [], rfl, HO, HE, Below.refl _ _⟩
 | some ad =>
  obtain ⟨zs, hzl, hzc, hze⟩ := jsrc hr
  have HSR : Hid (∀ o j u, zs[j]? = some u → (w.alloc o).cell? (ad.add j) = some u) := fun o j u hu => Lib.cell?_alloc_some o (hzc j u hu).1
  have HZ1 : Hid (∀ u ∈ zs, u.oneCell' = true) := fun u hu => by
   obtain ⟨j, hj⟩ := List.mem_iff_getElem?.1 hu
   exact (hzc j u hj).2
  have HZE := hide hze
  have HS := hide hS
  obtain ⟨i, hi, hz0, hz1, hz2⟩ := info_parts Tryz.infoJ
  have HEM : Hid ((w.alloc (.cells #[] 44)).ownsRow w.heap.size 44 5 (.slice (some ⟨w.heap.size, 0, none⟩) 0 0) 0 []) := World.ownsRow_made w #[] 0 (Nat.le_refl _) (by unfold maxLen; omega) rfl
  clear hr ha hzc hze hS
  go_enter Tryz.func136, Tryz.ntmps136
  go_wp2_with (at_builtin; refine wpList_append_own _ rfl _ _ 42 rfl w.heap.size 44 i _ 5 80 Tryz.underlying42 hi hz0 hz1 hz2 rfl (by decide) _ _ _ rfl (uh HEM) ad is.length cp zs rfl hzl (uh HSR _) (uh HZ1) ?k1 ?k2 ?k3 ?_)
  case k1 => unfold maxLen; omega
  case k2 => omega
  case k3 => simp
  intro v2 w2 ho2 hg2 _
  have HB : Hid (Below w.heap.size w w2) := below_grown (a := some ⟨w.heap.size, 0, none⟩) (bA _) hg2 (Nat.le_refl _) (fun k hk => by simp [blk] at hk; omega)
  obtain ⟨a', c', rfl⟩ : ∃ a' c', v2 = .slice a' is.length c' := by
   rcases ho2.2 with ⟨hv, hn⟩ | ⟨g, cap, cur, hv, _⟩
   ·have : is.length = 0 := by omega
    exact ⟨none, 0, by rw [hv, this]⟩
   ·exact ⟨some ⟨g, 0, none⟩, cap, by rw [hv]⟩
  have HO : Hid (OwnJ w2 w.heap.size a' c' is.length zs) := by show OwnJ _ _ _ _ _ _; simpa [OwnJ] using ho2
  have HE : Hid (∀ m x, is[m]? = some x → ∃ v, At5 zs m v ∧ JV w2 S v x) := fun m x hx => by
   obtain ⟨v, h1, h2⟩ := uh HZE m x hx
   exact ⟨v, h1, JV.keep (fun k hk => ⟨hk, (uh HB).block k (uh HS k hk)⟩) _ _ h2⟩
  clear ho2 hg2
  go_wp2
  go_ret
  exact ⟨a', c', zs, rfl, HO, HE, HB⟩
/-! ### A value in the midst of being copied -/
structure Bd (w : World) (V lo q : Nat) (S : Nat → Prop) (k n : Int) (t : List UInt8) (ns : List (List UInt8)) (is : List Js) (a1 : Option Addr) (c1 : Nat) (a2 : Option Addr) (c2 : Nat) (xs : List Value) : Prop where
 row : w.heap[V]? = some (.cells #[.int .i64 k, .int .i64 n, .string (str t), .slice a1 ns.length c1, .slice a2 is.length c2] 44 (0, 0))
 nm : OwnT w lo a1 c1 ns
 it : OwnJ w lo a2 c2 is.length xs
 elN : ∀ m j, m < q → is[m]? = some j → ∃ v, At5 xs m v ∧ JV w (Fp lo w.heap.size V a1 a2) v j
 elO : ∀ m j, q ≤ m → is[m]? = some j → ∃ v, At5 xs m v ∧ JV w S v j
 v1 : blk a1 ≠ some V
 v2 : blk a2 ≠ some V
 v3 : ∀ k, blk a1 = some k → blk a2 ≠ some k
theorem Bd.lt {w : World} {V lo q : Nat} {S : Nat → Prop} {k n : Int} {t : List UInt8} {ns : List (List UInt8)} {is : List Js} {a1 : Option Addr} {c1 : Nat} {a2 : Option Addr} {c2 : Nat} {xs : List Value} (h : Bd w V lo q S k n t ns is a1 c1 a2 c2 xs) : V < w.heap.size := (aI h.row).1
theorem Bd.below {w w' : World} {V lo q : Nat} {S : Nat → Prop} {k n : Int} {t : List UInt8} {ns : List (List UInt8)} {is : List Js} {a1 : Option Addr} {c1 : Nat} {a2 : Option Addr} {c2 : Nat} {xs : List Value} (h : Bd w V lo q S k n t ns is a1 c1 a2 c2 xs) (hS : ∀ k, S k → k < w.heap.size) (m : Below w.heap.size w w') : Bd w' V lo q S k n t ns is a1 c1 a2 c2 xs :=
 { h with
  row := (m.block V h.lt).trans h.row
  nm := owns_same h.nm (fun k hk => m.block k (owns_lt h.nm k hk).2)
  it := owns_same h.it (fun k hk => m.block k (owns_lt h.it k hk).2)
  elN := fun i j hi hj => by
   obtain ⟨v, h1, h2⟩ := h.elN i j hi hj
   exact ⟨v, h1, JV.keep (fun k hk => ⟨⟨hk.1, by have := hk.2.1; have := m.size; omega, hk.2.2⟩, m.block k hk.2.1⟩) j v h2⟩
  elO := fun i j hi hj => by
   obtain ⟨v, h1, h2⟩ := h.elO i j hi hj
   exact ⟨v, h1, JV.keep (fun k hk => ⟨hk, m.block k (hS k hk)⟩) j v h2⟩ }
/-- One item more is copied. -/
theorem Bd.put {u w9 : World} {V lo q old : Nat} {S : Nat → Prop} {k n : Int} {t : List UInt8} {ns : List (List UInt8)} {is : List Js} {a1 : Option Addr} {c1 g2 c2 : Nat} {xs : List Value} (h : Bd u V lo q S k n t ns is a1 c1 (some ⟨g2, 0, none⟩) c2 xs) (hqi : q < is.length) {v0 v1 v2 v3 v4 : Value} {j : Js} (hjq : is[q]? = some j) (hj : JV u (fun k => old ≤ k ∧ k < u.heap.size) (.agg #[v0, v1, v2, v3, v4]) j) (hold : lo ≤ old) (hV : V < old) (h1 : ∀ k, blk a1 = some k → k < old) (h2 : g2 < old) (hSg : ∀ k, S k → k ≠ g2)
  (e9 : w9 = ((((u.setCell ⟨g2, q * 5, none⟩ v0).setCell ⟨g2, q * 5 + 1, none⟩ v1).setCell ⟨g2, q * 5 + 2, none⟩ v2).setCell ⟨g2, q * 5 + 3, none⟩ v3).setCell ⟨g2, q * 5 + 4, none⟩ v4) :
  Bd w9 V lo (q + 1) S k n t ns is a1 c1 (some ⟨g2, 0, none⟩) c2 (st5 xs q v0 v1 v2 v3 v4) := by
 have n2 : g2 ≠ V := fun e => h.v2 (by rw [e]; rfl)
 have n3 : ∀ k, blk a1 = some k → k ≠ g2 := fun k hk e => h.v3 k hk (by rw [e]; rfl)
 have hxl : xs.length = is.length * 5 := h.it.1
 have k9 : ∀ k, k ≠ g2 → w9.heap[k]? = u.heap[k]? := fun k hk => by rw [e9]; exact far5 _ _ _ _ _ _ _ _ _ _ _ _ _ hk
 have z9 : w9.heap.size = u.heap.size := by rw [e9, siz5]
 refine ⟨(k9 V (Ne.symm n2)).trans h.row, owns_same h.nm (fun k hk => k9 k (n3 k hk)), ?_, fun m x hm hx => ?_, fun m x hm hx => ?_, h.v1, h.v2, h.v3⟩
 ·rw [e9]
  exact owns_set (owns_set (owns_set (owns_set (owns_set h.it _ _ (by omega)) _ _ (by rw [List.length_set]; omega)) _ _ (by rw [List.length_set, List.length_set]; omega)) _ _ (by rw [List.length_set, List.length_set, List.length_set]; omega)) _ _ (by rw [List.length_set, List.length_set, List.length_set, List.length_set]; omega)
 ·by_cases e : m = q
  ·subst e
   obtain rfl := Option.some.inj (hjq.symm.trans hx)
   refine ⟨_, st5_at v0 v1 v2 v3 v4 (by omega), JV.keep (fun b hb => ?_) _ _ hj⟩
   have b2 : b ≠ g2 := by omega
   refine ⟨⟨by omega, by omega, by omega, fun e => ?_, ?_⟩, k9 b b2⟩
   ·have := h1 b e; omega
   ·simp [blk]; omega
  ·obtain ⟨v, p1, p2⟩ := h.elN m x (by omega) hx
   refine ⟨v, st5_far e p1, JV.keep (fun b hb => ?_) _ _ p2⟩
   have b2 : b ≠ g2 := fun k => hb.2.2.2.2 (by rw [k]; rfl)
   exact ⟨⟨hb.1, by have := hb.2.1; omega, hb.2.2.1, hb.2.2.2.1, hb.2.2.2.2⟩, k9 b b2⟩
 ·obtain ⟨v, p1, p2⟩ := h.elO m x (by omega) hx
  exact ⟨v, st5_far (by omega) p1, JV.keep (fun b hb => ⟨hb, k9 b (hSg b hb)⟩) _ _ p2⟩
theorem Bd.cp {w : World} {V lo : Nat} {S : Nat → Prop} {k n : Int} {t : List UInt8} {ns : List (List UInt8)} {is : List Js} {a1 : Option Addr} {c1 : Nat} {a2 : Option Addr} {c2 : Nat} {xs : List Value} (h : Bd w V lo is.length S k n t ns is a1 c1 a2 c2 xs) : CpJ lo w (.agg #[.int .i64 k, .int .i64 n, .string (str t), .slice a1 ns.length c1, .slice a2 is.length c2]) (.mk k n t ns is) :=
 ⟨a1, c1, a2, c2, xs, rfl, h.nm, h.it, fun m j hj => by
  obtain ⟨v, h1, h2⟩ := h.elN m j (List.getElem?_eq_some_iff.1 hj).1 hj
  exact ⟨v, h1, JV.keep (fun k hk => ⟨⟨hk.1, hk.2.1, hk.2.2.2.1, hk.2.2.2.2⟩, rfl⟩) _ _ h2⟩, h.v3⟩
end Go.Proofs.YtmpjeahibfdehaaGreatDoor
end
section
set_option linter.unusedVariables false
set_option maxRecDepth 1000000
namespace Go.Proofs.YtmpjeahibfdehaaGreatDoor
open Go.RowKit

def DcC (j : Js) : Prop := ∀ (S : Nat → Prop) (v : Value) (w : World), JV w S v j → (∀ k, S k → k < w.heap.size) → Sz j → Calls Tryz.prog 99 #[v] w fun e w' => OwP w j e w'
set_option maxHeartbeats 16000000 in
theorem deep_core (k n : Int) (t : List UInt8) (ns : List (List UInt8)) (is : List Js) (hrec : ∀ x ∈ is, DcC x) : DcC (.mk k n t ns is) := by
 intro S v w hJ hS hz
 simp only [JV] at hJ
 obtain ⟨a1, c1, a2, c2, rfl, hN, hnc, hnm, hnn, hic, him, hin, hIt⟩ := hJ
 simp only [Sz] at hz
 obtain ⟨hz1, hz2, hz3, hz4, hz5, hz6⟩ := hz
 obtain ⟨m, hm⟩ : ∃ m, m = is.length := ⟨_, rfl⟩
 obtain ⟨g, hg⟩ : ∃ g, g = ns.length := ⟨_, rfl⟩
 have HM := hide hm
 have HG := hide hg
 obtain ⟨V1, hV1⟩ : ∃ V1, V1 = w.heap.size := ⟨_, rfl⟩
 obtain ⟨V2, hV2⟩ : ∃ V2, V2 = w.heap.size + 1 := ⟨_, rfl⟩
 obtain ⟨W, hW⟩ : ∃ W, W = (w.alloc (.cells #[.int .i64 k, .int .i64 n, .string (str t), .slice a1 ns.length c1, .slice a2 is.length c2] 44)).alloc (.cells #[.int .i64 0, .int .i64 0, .string ⟨#[]⟩, .slice none 0 0, .slice none 0 0] 44) := ⟨_, rfl⟩
 have bW : Below w.heap.size w W := by rw [hW]; exact below2 w _ _
 have sW : W.heap.size = w.heap.size + 2 := by rw [hW]; simp
 have rV1 : W.heap[V1]? = some (.cells #[.int .i64 k, .int .i64 n, .string (str t), .slice a1 g c1, .slice a2 m c2] 44 (0, 0)) := by
  rw [hW, hV1, hm, hg, heap_alloc_old _ _ (by simp)]
  exact heap_alloc_new _ _
 have rV2 : W.heap[V2]? = some (.cells #[.int .i64 0, .int .i64 0, .string ⟨#[]⟩, .slice none 0 0, .slice none 0 0] 44 (0, 0)) := by
  rw [hW, hV2]
  exact heap_alloc2_new _ _ _
 have h12 : V1 < V2 ∧ w.heap.size ≤ V1 := by omega
 have hsz3 : W.heap.size = V2 + 1 := by omega
 have hSV : ∀ y, S y → y < V1 := fun y hy => by have := hS y hy; omega
 have HCL := hide (nclone_any a1 c1 ns S W (hN.keep (fun q hq => ⟨hq, bW.block q (hS q hq)⟩)) hnn hnc (by omega))
 rw [← hg] at HCL
 have HI := hide hIt
 have HS := hide hS
 have HSV := hide hSV
 have HREC := hide hrec
 have HZ6 := hide hz6
 have HbW := hide bW
 have HsW := hide hsz3
 have H12 := hide h12
 have HRV1 := hide rV1
 have HRV2 := hide rV2
 have HIN := hide hin
 have HIC : Hid (m ≤ c2) := by show _ ≤ _; omega
 have hmB : m ≤ 100000 := by omega
 have hgB : g ≤ 100000 := by omega
 obtain ⟨p0, p1, p2, p3, p4⟩ := cells5 rV1
 rw [← hg, ← hm] at hW
 rw [← hg, ← hm]
 clear hN hIt hS hSV hrec hz1 hz2 hz3 hz4 hz5 hz6 bW sW rV1 rV2 h12 hsz3 hm hg hnc hnm hnn hic him hin
 go_enter Tryz.func99, Tryz.ntmps99
 go_upto_region 1 with fail
 rw [← hW, ← hV2, ← hV1]
 clear hW hV1 hV2
 go_wp2_with fail
 refine (uh HCL).mono ?_
 rintro e w2 ⟨a', c', rfl, HO2, HB2⟩
 have HR2 := hide (((uh HB2).block V1 (by rw [uh HsW]; have := uh H12; omega)).trans (uh HRV1))
 have f3 := frozen_of_row w2 V1 3 _ _ (uh HR2)
 have d3 := cell_of_row w2 V1 3 _ _ _ (uh HR2)
 simp only [xq1, xq2, xq3] at d3
 obtain ⟨w3, hw3⟩ : ∃ w3, w3 = w2.setCell ⟨V1, 3, none⟩ (.slice a' g c') := ⟨_, rfl⟩
 have hk3 : ∀ x, x ≠ V1 → w3.heap[x]? = w2.heap[x]? := fun x hx => by rw [hw3, Below.heap_setCell _ ⟨V1, 3, none⟩ _ x hx]
 have hs3 : w3.heap.size = w2.heap.size := by rw [hw3]; simp
 have hr3 : w3.heap[V1]? = some (.cells #[.int .i64 k, .int .i64 n, .string (str t), .slice a' g c', .slice a2 m c2] 44 (0, 0)) := by rw [hw3]; exact hS6 (uh HR2)
 have HM3 : Hid (Mv W w3 V1) := by
  show Mv _ _ _
  rw [hw3]
  exact (Mv.ofB (uh HB2)).trans (Mv.set w2 V1 3 _)
 have hne : ∀ x, blk a' = some x → x ≠ V1 := fun x hx e => by have := (owns_lt (uh HO2) x hx).1; rw [uh HsW] at this; have := uh H12; omega
 have HNE := hide hne
 have HO3 : Hid (OwnT w3 W.heap.size a' c' ns) := owns_same (uh HO2) (fun x hx => hk3 x (hne x hx))
 have HR3 := hide hr3
 have hk : ∀ y, S y → w3.heap[y]? = w.heap[y]? := fun y hy => ((uh HM3).block y (Nat.lt_of_lt_of_le (uh HS y hy) (uh HbW).size) (fun e => by have := Option.some.inj e; have := uh HSV y hy; omega)).trans ((uh HbW).block y (uh HS y hy))
 have HCI := hide (jclone_any a2 c2 is S w3 (JVs.keep (fun y hy => ⟨hy, hk y hy⟩) _ _ _ (uh HI)) (uh HIN) (by have := uh HIC; have := uh HM; omega) (by have := uh HM; omega) (fun y hy => by have := uh HSV y hy; have := (aI hr3).1; omega))
 rw [← uh HM] at HCI
 clear HCL p0 p1 p2 p3 p4 HO2 HB2 HR2 hk3 hs3 hne hk hr3
 go_upto_region 2 with fail
 rw [← hw3]
 clear hw3 f3 d3
 obtain ⟨p0, p1, p2, p3, p4⟩ := cells5 (uh HR3)
 go_wp2_with fail
 refine (uh HCI).mono ?_
 rintro e w4 ⟨b', d', xs0, rfl, HO4, HE4, HB4⟩
 rw [← uh HM] at HO4 ⊢
 have HR4 := hide (((uh HB4).block V1 (aI (uh HR3)).1).trans (uh HR3))
 have f4 := frozen_of_row w4 V1 4 _ _ (uh HR4)
 have d4 := cell_of_row w4 V1 4 _ _ _ (uh HR4)
 simp only [xq1, xq2, xq3] at d4
 obtain ⟨w5, hw5⟩ : ∃ w5, w5 = w4.setCell ⟨V1, 4, none⟩ (.slice b' m d') := ⟨_, rfl⟩
 have hk5 : ∀ x, x ≠ V1 → w5.heap[x]? = w4.heap[x]? := fun x hx => by rw [hw5, Below.heap_setCell _ ⟨V1, 4, none⟩ _ x hx]
 have hs5 : w5.heap.size = w4.heap.size := by rw [hw5]; simp
 have h43 := (uh HB4)
 have HM5 : Hid (Mv W w5 V1) := by
  show Mv _ _ _
  rw [hw5]
  exact ((uh HM3).trans (Mv.ofB h43)).trans (Mv.set w4 V1 4 _)
 have hwsz : W.heap.size ≤ w3.heap.size := (uh HM3).size
 have HB5 : Hid (Bd w5 V1 W.heap.size 0 S k n t ns is a' c' b' d' xs0) := by
  have ne2 : ∀ x, blk b' = some x → x ≠ V1 := fun x hx e => by have := (owns_lt (uh HO4) x hx).1; have := (aI (uh HR3)).1; omega
  refine ⟨?_, ?_, ?_, fun i j hi => absurd hi (Nat.not_lt_zero i), fun i j _ hj => ?_, fun e => uh HNE V1 e rfl, fun e => ne2 V1 e rfl, fun x hx e => ?_⟩
  ·rw [hw5, ← uh HG, ← uh HM]; exact hS6 (uh HR4)
  ·exact owns_same (owns_same (uh HO3) (fun x hx => h43.block x (owns_lt (uh HO3) x hx).2)) (fun x hx => hk5 x (uh HNE x hx))
  ·have := owns_same (w' := w5) (uh HO4) (fun x hx => hk5 x (ne2 x hx))
   rw [← uh HM]
   exact owns_low this hwsz
  ·obtain ⟨v, h1, h2⟩ := uh HE4 i j hj
   exact ⟨v, h1, JV.keep (fun y hy => ⟨hy, hk5 y (by have := uh HSV y hy; omega)⟩) _ _ h2⟩
  ·have h1 := (owns_lt (uh HO3) x hx).2
   have h2 := (owns_lt (uh HO4) x e).1
   omega
 have HR5 := hide (uh HB5).row
 rw [← uh HG, ← uh HM] at HR5
 clear HCI p0 p1 p2 p3 p4 HO3 HO4 HE4 HB4 HR4 hk5 hs5 h43 hwsz HR3 HM3 HNE HI
 go_upto_region 3 with fail
 rw [← hw5]
 clear hw5 f4 d4
 obtain ⟨p0, p1, p2, p3, p4⟩ := cells5 (uh HR5)
 go_wp2_with fail
 clear p0 p1 p2 p3 p4 HR5
 go_loopw [15] (fun v wr => ∃ (q : Nat) (xs : List Value), q ≤ m ∧ v = .int .i64 (q : Int) ∧ Hid (Bd wr V1 W.heap.size q S k n t ns is a' c' b' d' xs) ∧ Hid (Mv W wr V1)) (fun v _ => m - (intOf v).toNat)
 case atStart => exact ⟨0, xs0, Nat.zero_le _, rfl, HB5, HM5⟩
 case round =>
  clear HB5 HM5
  obtain ⟨q, xs, hq, rfl, HBq, HMq⟩ := hrel
  by_cases hlt : q < m
  ·have hlt' : (q : Int) < (m : Int) := by omega
   obtain ⟨x, hx⟩ : ∃ x, is[q]? = some x := ⟨_, List.getElem?_eq_getElem (by rw [← uh HM]; exact hlt)⟩
   have HX := hide hx
   have hmem := List.mem_of_getElem? hx
   obtain ⟨vv, ⟨v0, v1, v2, v3, v4, rfl, g0, g1, g2, g3, g4⟩, hj⟩ := (uh HBq).elO q x (Nat.le_refl _) hx
   obtain ⟨jk, jn, jt, ja1, jn1, jc1, ja2, jn2, jc2, e⟩ := hj.form
   simp only [Value.agg.injEq, Array.mk.injEq, List.cons.injEq, and_true] at e
   obtain ⟨rfl, rfl, rfl, rfl, rfl⟩ := e
   obtain ⟨G2, rfl⟩ : ∃ G2, b' = some ⟨G2, 0, none⟩ := by
    rcases owns_cases (uh HBq).it with ⟨_, _, h3, _⟩ | ⟨gg, _, h, _⟩
    ·have := uh HM; omega
    ·exact ⟨gg, h⟩
   have hsl : ∀ y, S y → y < wr.heap.size := fun y hy => by have := uh HSV y hy; have := (uh HBq).lt; omega
   have HC : ∀ u, Hid (Below wr.heap.size wr u → Calls Tryz.prog 99 #[.agg #[.int .i64 jk, .int .i64 jn, .string (str jt), .slice ja1 jn1 jc1, .slice ja2 jn2 jc2]] u fun e w' => OwP u x e w') := fun u hb => uh HREC x hmem S _ u (JV.keep (fun y hy => ⟨hy, hb.block y (hsl y hy)⟩) _ _ hj) (fun y hy => Nat.lt_of_lt_of_le (hsl y hy) hb.size) ((szs_iff is).1 (uh HZ6) x hmem)
   have HSL := hide hsl
   have hrow := (uh HBq).row
   rw [← uh HG, ← uh HM] at hrow
   obtain ⟨_, _, _, _, p4⟩ := cells5 hrow
   obtain ⟨i0, _⟩ := owns_cell (uh HBq).it _ _ g0
   obtain ⟨i1, _⟩ := owns_cell (uh HBq).it _ _ g1
   obtain ⟨i2, _⟩ := owns_cell (uh HBq).it _ _ g2
   obtain ⟨i3, _⟩ := owns_cell (uh HBq).it _ _ g3
   obtain ⟨i4, _⟩ := owns_cell (uh HBq).it _ _ g4
   have HAT : Hid (xs[q * 5]? = some (.int .i64 jk) ∧ xs[q * 5 + 1]? = some (.int .i64 jn) ∧ xs[q * 5 + 2]? = some (.string (str jt)) ∧ xs[q * 5 + 3]? = some (.slice ja1 jn1 jc1) ∧ xs[q * 5 + 4]? = some (.slice ja2 jn2 jc2)) := ⟨g0, g1, g2, g3, g4⟩
   have HLQ := hide (uh HBq).lt
   have HLO : Hid (W.heap.size ≤ wr.heap.size) := (uh HMq).size
   clear hx hmem hj hsl hrow g0 g1 g2 g3 g4
   go_upto_region 6 with fail
   go_region_law (first
    | (go_simp
       go_at_call 99
       refine (uh (HC _) ((Below.refl _ _).drew)).mono ?_
       rintro e w7 ⟨v', lo', rfl, hlo', hcp, hb7⟩
       have hj7 : JV w7 (fun y => wr.heap.size ≤ y ∧ y < w7.heap.size) v' x := hcp.jv (fun y h1 h2 => ⟨Nat.le_trans hlo' h1, h2⟩)
       obtain ⟨rk, rn, rt, ra1, rn1, rc1, ra2, rn2, rc2, rfl⟩ := hj7.form
       have HJ7 := hide hj7
       have hb8 : Below wr.heap.size wr w7 := (Below.refl _ _).drew.trans hb7
       have HB7 := hide ((uh HBq).below (uh HSL) hb8)
       have HM7 : Hid (Mv W w7 V1) := (uh HMq).trans (Mv.ofB hb8)
       have HZ7 : Hid (wr.heap.size ≤ w7.heap.size) := hb8.size
       have hrow7 := (uh HB7).row
       rw [← uh HG, ← uh HM] at hrow7
       obtain ⟨_, _, _, _, r4⟩ := cells5 hrow7
       obtain ⟨e0, f0⟩ := owns_cell (uh HB7).it _ _ (uh HAT).1
       obtain ⟨e1, f1⟩ := owns_cell (uh HB7).it _ _ (uh HAT).2.1
       obtain ⟨e2, f2⟩ := owns_cell (uh HB7).it _ _ (uh HAT).2.2.1
       obtain ⟨e3, f3⟩ := owns_cell (uh HB7).it _ _ (uh HAT).2.2.2.1
       obtain ⟨e4, f4⟩ := owns_cell (uh HB7).it _ _ (uh HAT).2.2.2.2
       clear hcp hb7 hlo' hj7 hb8 hrow7))
   all_goals
    obtain ⟨w9, hw9⟩ : ∃ w9, w9 = ((((w7.setCell ⟨G2, q * 5, none⟩ (.int .i64 rk)).setCell ⟨G2, q * 5 + 1, none⟩ (.int .i64 rn)).setCell ⟨G2, q * 5 + 2, none⟩ (.string (str rt))).setCell ⟨G2, q * 5 + 3, none⟩ (.slice ra1 rn1 rc1)).setCell ⟨G2, q * 5 + 4, none⟩ (.slice ra2 rn2 rc2) := ⟨_, rfl⟩
    have hg2 := owns_lt (uh HBq).it G2 rfl
    have HB9 := hide ((uh HB7).put (by rw [← uh HM]; exact hlt) (uh HX) (uh HJ7) (uh HLO) (uh HLQ) (fun k hk => (owns_lt (uh HBq).nm k hk).2) hg2.2 (fun y hy e => by have := uh HSV y hy; have := hg2.1; have := uh HsW; have := uh H12; omega) hw9)
    have HM9 : Hid (Mv W w9 V1) := by
     show Mv _ _ _
     have m7 := uh HM7
     obtain ⟨o1, o2, o3⟩ := oth5 w7 G2 (q * 5) (q * 5 + 1) (q * 5 + 2) (q * 5 + 3) (q * 5 + 4) (.int .i64 rk) (.int .i64 rn) (.string (str rt)) (.slice ra1 rn1 rc1) (.slice ra2 rn2 rc2)
     have z9 : w9.heap.size = w7.heap.size := by rw [hw9, siz5]
     rw [← hw9] at o1 o2 o3
     exact ⟨o1.trans m7.os, o2.trans m7.tape, o3.trans m7.output, by rw [z9]; exact m7.size, fun y hy hne => (by rw [hw9]; exact far5 _ _ _ _ _ _ _ _ _ _ _ _ _ (fun e => by have := hg2.1; omega) : w9.heap[y]? = w7.heap[y]?).trans (m7.block y hy hne)⟩
    rw [← hw9]
    clear hw9 hg2 r4 e0 f0 e1 f1 e2 f2 e3 f3 e4 f4 p4 i0 i1 i2 i3 i4
    go_wp2_with fail
    go_roundw
    case rel => exact ⟨q + 1, _, by omega, by go_num, HB9, HM9⟩
    case measure => simp [intOf]; omega
  ·have hqm : q = m := by omega
   subst hqm
   have hlt' : ¬ (q : Int) < (q : Int) := by omega
   have hrow := (uh HBq).row
   rw [← uh HG, ← uh HM] at hrow
   obtain ⟨p0, p1, p2, p3, p4⟩ := cells5 hrow
   have r2 := ((uh HMq).block V2 (by have := uh H12; have := uh HsW; omega) (fun e => by have := Option.some.inj e; have := uh H12; omega)).trans (uh HRV2)
   obtain ⟨q0, q1, q2, q3, q4⟩ := cells5 r2
   have f0 := frozen_of_row wr V2 0 _ _ r2
   have f1 := frozen_of_row wr V2 1 _ _ r2
   have f2 := frozen_of_row wr V2 2 _ _ r2
   have f3 := frozen_of_row wr V2 3 _ _ r2
   have f4 := frozen_of_row wr V2 4 _ _ r2
   obtain ⟨w9, hw9⟩ : ∃ w9, w9 = ((((wr.setCell ⟨V2, 0, none⟩ (.int .i64 k)).setCell ⟨V2, 1, none⟩ (.int .i64 n)).setCell ⟨V2, 2, none⟩ (.string (str t))).setCell ⟨V2, 3, none⟩ (.slice a' g c')).setCell ⟨V2, 4, none⟩ (.slice b' q d') := ⟨_, rfl⟩
   have r9 : w9.heap[V2]? = some (.cells #[.int .i64 k, .int .i64 n, .string (str t), .slice a' g c', .slice b' q d'] 44 (0, 0)) := by
    rw [hw9]
    exact hS6 (hS6 (hS6 (hS6 (hS6 r2))))
   have k9 : ∀ y, y ≠ V2 → w9.heap[y]? = wr.heap[y]? := fun y hy => by rw [hw9]; exact far5 _ _ _ _ _ _ _ _ _ _ _ _ _ hy
   have s9 : w9.heap.size = wr.heap.size := by rw [hw9]; exact siz5 _ _ _ _ _ _ _ _ _ _ _ _
   have b9 : Below w.heap.size w w9 := by
    have mm := (Mv.ofB (uh HbW)).trans (uh HMq)
    obtain ⟨o1, o2, o3⟩ := oth5 wr V2 0 1 2 3 4 (.int .i64 k) (.int .i64 n) (.string (str t)) (.slice a' g c') (.slice b' q d')
    rw [← hw9] at o1 o2 o3
    exact ⟨o1.trans mm.os, o2.trans mm.tape, o3.trans mm.output, by rw [s9]; exact mm.size, fun y hy => (k9 y (by have := uh H12; omega)).trans (mm.block y hy (fun e => by have := Option.some.inj e; have := uh H12; omega))⟩
   have HE : Hid (OwP w (.mk k n t ns is) (.returned (.agg #[.int .i64 k, .int .i64 n, .string (str t), .slice a' g c', .slice b' q d'])) w9) := by
    have hb := uh HBq
    rw [uh HM] at hb
    have hc := hb.cp
    have e1 := uh HsW
    have hne : ∀ y, W.heap.size ≤ y → y ≠ V2 := fun y hy e => by omega
    obtain ⟨z1, z2, z3, z4, zs, ez, zT, zJ, zE, zD⟩ := hc
    simp only [Value.agg.injEq, Array.mk.injEq, List.cons.injEq, and_true, Value.slice.injEq, true_and] at ez
    obtain ⟨⟨rfl, rfl⟩, rfl, rfl⟩ := ez
    refine ⟨_, W.heap.size, rfl, (uh HbW).size, ⟨a', c', b', d', zs, by rw [uh HG, uh HM], owns_same zT (fun y hy => k9 y (hne y (owns_lt zT y hy).1)), owns_same zJ (fun y hy => k9 y (hne y (owns_lt zJ y hy).1)), fun i j hj => ?_, zD⟩, b9⟩
    obtain ⟨v, h1, h2⟩ := zE i j hj
    exact ⟨v, h1, JV.keep (fun y hy => ⟨⟨hy.1, by have := hy.2.1; omega, hy.2.2⟩, k9 y (hne y hy.1)⟩) _ _ h2⟩
   have HR9 := hide r9
   clear hlt hrow r2 r9 k9 s9 b9
   go_wp2_with fail
   rw [← hw9]
   obtain ⟨e0, e1, e2, e3, e4⟩ := cells5 (uh HR9)
   clear hw9
   refine ⟨rfl, _, by simp [results, Tryz.results99, go_sem, e0, e1, e2, e3, e4]; rfl, ?_⟩
   exact uh HE
theorem deep_any : ∀ (N : Nat) (j : Js), SizeOf.sizeOf j < N → DcC j
 | 0, j, h => by omega
 | N + 1, .mk k n t ns is, h => deep_core k n t ns is (fun x hx => deep_any N x (by
   have h1 := List.sizeOf_lt_of_mem hx
   simp only [Js.mk.sizeOf_spec] at h
   omega))
theorem deep4 (j : Js) : DcC j := deep_any _ j (Nat.lt_succ_self _)
end Go.Proofs.YtmpjeahibfdehaaGreatDoor
end
section
set_option linter.unusedVariables false
set_option maxRecDepth 1000000
namespace Go.Proofs.YtmpjeahibfdehaaGreatDoor
open Go.RowKit

/-- The first place of a name. -/
def ixN (x : List UInt8) : List (List UInt8) → Option Nat
 | [] => none
 | y :: r => if x = y then some 0 else (ixN x r).map (· + 1)
def ixI : Option Nat → Int
 | none => -1
 | some i => (i : Int)
theorem ixN_some {x : List UInt8} : ∀ {ns : List (List UInt8)} {i : Nat}, ns[i]? = some x → (∀ k, k < i → ns[k]? ≠ some x) → ixN x ns = some i
 | [], i, h, _ => by simp at h
 | y :: r, 0, h, _ => by
  obtain rfl : y = x := by simpa using h
  simp [ixN]
 | y :: r, i + 1, h, hf => by
  have h0 : ¬ x = y := fun e => hf 0 (by omega) (by simp [e])
  have := ixN_some (ns := r) (i := i) (by simpa using h) (fun k hk => by simpa using hf (k + 1) (by omega))
  simp [ixN, h0, this]
theorem ixN_none {x : List UInt8} : ∀ {ns : List (List UInt8)}, (∀ k, k < ns.length → ns[k]? ≠ some x) → ixN x ns = none
 | [], _ => rfl
 | y :: r, hf => by
  have h0 : ¬ x = y := fun e => hf 0 (by simp) (by simp [e])
  have := ixN_none (ns := r) (fun k hk => by simpa using hf (k + 1) (by simp; omega))
  simp [ixN, h0, this]
theorem ixN_lt {x : List UInt8} : ∀ {ns : List (List UInt8)} {i : Nat}, ixN x ns = some i → i < ns.length
 | [], i, h => by simp [ixN] at h
 | y :: r, i, h => by
  by_cases e : x = y
  ·simp [ixN, e] at h; subst h; simp
  ·simp [ixN, e] at h
   obtain ⟨j, hj, rfl⟩ := h
   have := ixN_lt hj
   simp; omega
/-- An object's item of a name. -/
def gtM (x : List UInt8) : Js → Option Js
 | .mk k _ _ ns is => if k = 5 then (match ixN x ns with | some i => is[i]? | none => none) else none
theorem gtM_not {x : List UInt8} {k n : Int} {t : List UInt8} {ns : List (List UInt8)} {is : List Js} (h : k ≠ 5) : gtM x (.mk k n t ns is) = none := by rw [gtM, if_neg h]
theorem gtM_none {x : List UInt8} {k n : Int} {t : List UInt8} {ns : List (List UInt8)} {is : List Js} (h : ixN x ns = none) : gtM x (.mk k n t ns is) = none := by
 rw [gtM, h]
 split <;> rfl
theorem gtM_far {x : List UInt8} {k n : Int} {t : List UInt8} {ns : List (List UInt8)} {is : List Js} {i : Nat} (h : ixN x ns = some i) (hi : is.length ≤ i) : gtM x (.mk k n t ns is) = none := by
 rw [gtM, h]
 split
 ·exact List.getElem?_eq_none hi
 ·rfl
theorem gtM_at {x : List UInt8} {n : Int} {t : List UInt8} {ns : List (List UInt8)} {is : List Js} {i : Nat} {j : Js} (h : ixN x ns = some i) (hj : is[i]? = some j) : gtM x (.mk 5 n t ns is) = some j := by
 rw [gtM, h, if_pos rfl]
 exact hj
set_option maxHeartbeats 2000000 in
theorem nidx_any (a : Option Addr) (c : Nat) (ns : List (List UInt8)) (x : List UInt8) (S : Nat → Prop) (w : World) (hN : NsF w S a ns) (hl : ns.length ≤ 1000001) :
  Calls Tryz.prog 98 #[.slice a ns.length c, .string (str x)] w fun e w' => e = .returned (.int .i64 (ixI (ixN x ns))) ∧ w' = w := by
 have HN := hide hN
 obtain ⟨m, hm⟩ : ∃ m, m = ns.length := ⟨_, rfl⟩
 have HM := hide hm
 obtain ⟨R, hR⟩ : ∃ R, R = ixI (ixN x ns) := ⟨_, rfl⟩
 rw [← hR, ← hm]
 have HR := hide hR
 have hm9 : m ≤ 1000001 := by omega
 clear hN hm hR hl
 go_enter Tryz.func98, Tryz.ntmps98
 go_wp2
 go_loop [8] (fun v => ∃ q : Nat, q ≤ m ∧ v = .int .i64 (q : Int) ∧ Hid (∀ k, k < q → ns[k]? ≠ some x)) (fun v => m - (intOf v).toNat)
 case atStart => exact ⟨0, Nat.zero_le _, rfl, fun k hk => absurd hk (Nat.not_lt_zero k)⟩
 case round =>
  obtain ⟨q, hq, rfl, HQ⟩ := hrel
  by_cases hlt : q < m
  ·have hlt' : (q : Int) < (m : Int) := by omega
   obtain ⟨s, hs⟩ : ∃ s, ns[q]? = some s := ⟨_, List.getElem?_eq_getElem (by rw [← uh HM]; exact hlt)⟩
   obtain ⟨B, ob, rfl, hSB, hBc⟩ := (uh HN) (fun e => by rw [e] at hs; simp at hs)
   have z1 := hBc q s hs
   by_cases e : x = s
   ·subst e
    have e3 : ((str x).toList == (str x).toList) = true := by simp
    have HE : Hid (R = (q : Int)) := by show _ = _; rw [uh HR, ixN_some hs (uh HQ)]; rfl
    clear hBc hs hSB
    go_wp2
    go_ret
    rw [uh HE]
    exact ⟨rfl, rfl⟩
   ·have e3 : ((str x).toList == (str s).toList) = false := by rw [toList_str, toList_str]; simpa using e
    have HQ1 : Hid (∀ k, k < q + 1 → ns[k]? ≠ some x) := fun k hk => by
     by_cases ek : k = q
     ·subst ek; rw [hs]; exact fun h => e (Option.some.inj h).symm
     ·exact uh HQ k (by omega)
    clear hBc hs hSB e HQ
    go_wp2
    go_round
    case rel => exact ⟨q + 1, by omega, by go_num, HQ1⟩
    case measure => simp [intOf]; omega
  ·have hlt' : ¬ (q : Int) < (m : Int) := by omega
   have HE : Hid (R = -1) := by show _ = _; rw [uh HR, ixN_none (fun k hk => uh HQ k (by have := uh HM; omega))]; rfl
   go_wp2
   go_ret
   rw [uh HE]
   exact ⟨rfl, rfl⟩
/-- What Get hands back. -/
def GtP (w : World) (o : Option Js) (e : Ending) (w' : World) : Prop := ∃ v lo, e = .returned (.tuple #[v, .bool o.isSome]) ∧ w.heap.size ≤ lo ∧ CpJ lo w' v (o.getD Js.nul) ∧ Below w.heap.size w w'
theorem nul_cp (lo : Nat) (w : World) : CpJ lo w (.agg #[.int .i64 0, .int .i64 0, .string ⟨#[]⟩, .slice none 0 0, .slice none 0 0]) Js.nul :=
 ⟨none, 0, none, 0, [], rfl, ⟨rfl, .inl ⟨rfl, rfl⟩⟩, ⟨rfl, .inl ⟨rfl, rfl⟩⟩, fun m j h => by simp at h, fun k h => by cases h⟩
set_option maxHeartbeats 8000000 in
theorem get_any (x : List UInt8) (j : Js) (S : Nat → Prop) (v : Value) (w : World) (hJ : JV w S v j) (hS : ∀ k, S k → k < w.heap.size) (hz : Sz j) :
  Calls Tryz.prog 71 #[v, .string (str x)] w fun e w' => GtP w (gtM x j) e w' := by
 obtain ⟨k, n, t, ns, is⟩ := j
 simp only [JV] at hJ
 obtain ⟨a1, c1, a2, c2, rfl, hN, hnc, hnm, hnn, hic, him, hin, hIt⟩ := hJ
 simp only [Sz] at hz
 obtain ⟨hz1, hz2, hz3, hz4, hz5, hz6⟩ := hz
 obtain ⟨m, hm⟩ : ∃ m, m = is.length := ⟨_, rfl⟩
 obtain ⟨g, hg⟩ : ∃ g, g = ns.length := ⟨_, rfl⟩
 have HM := hide hm
 have HG := hide hg
 obtain ⟨V1, hV1⟩ : ∃ V1, V1 = w.heap.size := ⟨_, rfl⟩
 obtain ⟨V2, hV2⟩ : ∃ V2, V2 = w.heap.size + 1 := ⟨_, rfl⟩
 obtain ⟨W, hW⟩ : ∃ W, W = (w.alloc (.cells #[.int .i64 k, .int .i64 n, .string (str t), .slice a1 ns.length c1, .slice a2 is.length c2] 44)).alloc (.cells #[.int .i64 0, .int .i64 0, .string ⟨#[]⟩, .slice none 0 0, .slice none 0 0] 44) := ⟨_, rfl⟩
 have bW : Below w.heap.size w W := by rw [hW]; exact below2 w _ _
 have sW : W.heap.size = w.heap.size + 2 := by rw [hW]; simp
 have rV1 : W.heap[V1]? = some (.cells #[.int .i64 k, .int .i64 n, .string (str t), .slice a1 g c1, .slice a2 m c2] 44 (0, 0)) := by
  rw [hW, hV1, hm, hg, heap_alloc_old _ _ (by simp)]
  exact heap_alloc_new _ _
 have rV2 : W.heap[V2]? = some (.cells #[.int .i64 0, .int .i64 0, .string ⟨#[]⟩, .slice none 0 0, .slice none 0 0] 44 (0, 0)) := by
  rw [hW, hV2]
  exact heap_alloc2_new _ _ _
 have h12 : V1 < V2 ∧ w.heap.size ≤ V1 := by omega
 have hsz3 : W.heap.size = V2 + 1 := by omega
 have HIX := hide (nidx_any a1 c1 ns x S W (hN.keep (fun q hq => ⟨hq, bW.block q (hS q hq)⟩)) (by omega))
 rw [← hg] at HIX
 obtain ⟨RES, hRES⟩ : ∃ RES, RES = gtM x (.mk k n t ns is) := ⟨_, rfl⟩
 rw [← hRES]
 have HRES := hide hRES
 have HI := hide (JVs.keep (S' := S) (w' := W) (fun q hq => ⟨hq, bW.block q (hS q hq)⟩) _ _ _ hIt)
 have HSW : Hid (∀ k, S k → k < W.heap.size) := fun k hk => Nat.lt_of_lt_of_le (hS k hk) bW.size
 have HZ6 := hide hz6
 have HbW := hide bW
 have HsW := hide hsz3
 have H12 := hide h12
 have HRV2 := hide rV2
 have hmB : m ≤ 100000 := by omega
 have hgB : g ≤ 100000 := by omega
 obtain ⟨p0, p1, p2, p3, p4⟩ := cells5 rV1
 obtain ⟨q0, q1, q2, q3, q4⟩ := cells5 rV2
 have f0 := frozen_of_row W V2 0 _ _ rV2
 have f1 := frozen_of_row W V2 1 _ _ rV2
 have f2 := frozen_of_row W V2 2 _ _ rV2
 have f3 := frozen_of_row W V2 3 _ _ rV2
 have f4 := frozen_of_row W V2 4 _ _ rV2
 -- a nothing, stored where a nothing lies
 obtain ⟨w0, hw0⟩ : ∃ w0, w0 = ((((W.setCell ⟨V2, 0, none⟩ (.int .i64 0)).setCell ⟨V2, 1, none⟩ (.int .i64 0)).setCell ⟨V2, 2, none⟩ (.string ⟨#[]⟩)).setCell ⟨V2, 3, none⟩ (.slice none 0 0)).setCell ⟨V2, 4, none⟩ (.slice none 0 0) := ⟨_, rfl⟩
 have r0 : w0.heap[V2]? = some (.cells #[.int .i64 0, .int .i64 0, .string ⟨#[]⟩, .slice none 0 0, .slice none 0 0] 44 (0, 0)) := by
  rw [hw0]
  exact hS6 (hS6 (hS6 (hS6 (hS6 rV2))))
 have k0 : ∀ y, y ≠ V2 → w0.heap[y]? = W.heap[y]? := fun y hy => by rw [hw0]; exact far5 _ _ _ _ _ _ _ _ _ _ _ _ _ hy
 have s0 : w0.heap.size = W.heap.size := by rw [hw0]; exact siz5 _ _ _ _ _ _ _ _ _ _ _ _
 have HB0 : Hid (Below w.heap.size w w0) := by
  obtain ⟨o1, o2, o3⟩ := oth5 W V2 0 1 2 3 4 (.int .i64 0) (.int .i64 0) (.string ⟨#[]⟩) (.slice none 0 0) (.slice none 0 0)
  rw [← hw0] at o1 o2 o3
  exact ⟨o1.trans bW.os, o2.trans bW.tape, o3.trans bW.output, by rw [s0]; exact bW.size, fun y hy => (k0 y (by omega)).trans (bW.block y hy)⟩
 have HR0 := hide r0
 have HW0 := hide hw0
 rw [← hg, ← hm] at hW
 rw [← hg, ← hm]
 clear hRES hN hIt hS hz1 hz2 hz3 hz4 hz5 hz6 bW sW rV1 rV2 h12 hsz3 hm hg hnc hnm hnn hic him hin k0 s0 r0 hw0
 go_enter Tryz.func71, Tryz.ntmps71
 go_upto_region 1 with fail
 rw [← hW, ← hV2, ← hV1]
 clear hW hV1 hV2
 by_cases hk5 : k = 5
 ·subst hk5
  go_wp2_with fail
  refine (uh HIX).mono ?_
  rintro e w1 ⟨rfl, rfl⟩
  clear HIX
  cases hix : ixN x ns with
  | none =>
   have HE : Hid (RES = none) := by show _ = _; rw [uh HRES, gtM_none hix]
   simp only [ixI]
   clear hix HRES
   go_wp2_with fail
   rw [← uh HW0]
   obtain ⟨e0, e1, e2, e3, e4⟩ := cells5 (uh HR0)
   clear HW0
   refine ⟨rfl, _, by simp [results, Tryz.results71, go_sem, e0, e1, e2, e3, e4]; rfl, ?_⟩
   rw [uh HE]
   exact ⟨_, w0.heap.size, rfl, (uh HB0).size, nul_cp _ _, uh HB0⟩
  | some i =>
   have hig := ixN_lt hix
   rw [← uh HG] at hig
   have hi0 : ¬ (i : Int) < 0 := by omega
   simp only [ixI]
   by_cases him : i < m
   ·have him' : ¬ (m : Int) ≤ (i : Int) := by omega
    have him2 : (i : Int) < (m : Int) := by omega
    obtain ⟨y, hy⟩ : ∃ y, is[i]? = some y := ⟨_, List.getElem?_eq_getElem (by rw [← uh HM]; exact him)⟩
    have HE : Hid (RES = some y) := by show _ = _; rw [uh HRES, gtM_at hix hy]
    have hmem := List.mem_of_getElem? hy
    have hel := (jvs_iff w1 S a2 is 0).1 (uh HI) i y hy
    rw [Nat.zero_add] at hel
    obtain ⟨B, o2, u0, u1, u2, u3, u4, rfl, hSb, g0, g1, g2, g3, g4, hj⟩ := hel
    obtain ⟨jk, jn, jt, ja1, jn1, jc1, ja2, jn2, jc2, e⟩ := hj.form
    simp only [Value.agg.injEq, Array.mk.injEq, List.cons.injEq, and_true] at e
    obtain ⟨rfl, rfl, rfl, rfl, rfl⟩ := e
    have HC := hide (deep4 y S _ w1 hj (uh HSW) ((szs_iff is).1 (uh HZ6) y hmem))
    clear hix HRES hy hmem hSb hj f0 f1 f2 f3 f4 q0 q1 q2 q3 q4 HW0 HR0 HB0
    go_wp2_with fail
    refine (uh HC).mono ?_
    rintro e w7 ⟨v', lo', rfl, hlo', hcp, hb7⟩
    have hj7 : JV w7 (fun y => w1.heap.size ≤ y ∧ y < w7.heap.size) v' y := hcp.jv (fun y h1 h2 => ⟨Nat.le_trans hlo' h1, h2⟩)
    obtain ⟨rk, rn, rt, ra1, rn1, rc1, ra2, rn2, rc2, rfl⟩ := hj7.form
    have HCP := hide hcp
    have HLO := hide hlo'
    have HB7 := hide hb7
    have r2 := ((uh HB7).block V2 (by have := uh HsW; omega)).trans (uh HRV2)
    obtain ⟨q0, q1, q2, q3, q4⟩ := cells5 r2
    have f0 := frozen_of_row w7 V2 0 _ _ r2
    have f1 := frozen_of_row w7 V2 1 _ _ r2
    have f2 := frozen_of_row w7 V2 2 _ _ r2
    have f3 := frozen_of_row w7 V2 3 _ _ r2
    have f4 := frozen_of_row w7 V2 4 _ _ r2
    obtain ⟨w9, hw9⟩ : ∃ w9, w9 = ((((w7.setCell ⟨V2, 0, none⟩ (.int .i64 rk)).setCell ⟨V2, 1, none⟩ (.int .i64 rn)).setCell ⟨V2, 2, none⟩ (.string (str rt))).setCell ⟨V2, 3, none⟩ (.slice ra1 rn1 rc1)).setCell ⟨V2, 4, none⟩ (.slice ra2 rn2 rc2) := ⟨_, rfl⟩
    have r9 : w9.heap[V2]? = some (.cells #[.int .i64 rk, .int .i64 rn, .string (str rt), .slice ra1 rn1 rc1, .slice ra2 rn2 rc2] 44 (0, 0)) := by
     rw [hw9]
     exact hS6 (hS6 (hS6 (hS6 (hS6 r2))))
    have k9 : ∀ y, y ≠ V2 → w9.heap[y]? = w7.heap[y]? := fun y hy => by rw [hw9]; exact far5 _ _ _ _ _ _ _ _ _ _ _ _ _ hy
    have s9 : w9.heap.size = w7.heap.size := by rw [hw9]; exact siz5 _ _ _ _ _ _ _ _ _ _ _ _
    have HF : Hid (GtP w (some y) (.returned (.tuple #[.agg #[.int .i64 rk, .int .i64 rn, .string (str rt), .slice ra1 rn1 rc1, .slice ra2 rn2 rc2], .bool true])) w9) := by
     have b9 : Below w.heap.size w w9 := by
      have mm := (uh HbW).trans ((uh HB7).mono (uh HbW).size)
      obtain ⟨o1, o2, o3⟩ := oth5 w7 V2 0 1 2 3 4 (.int .i64 rk) (.int .i64 rn) (.string (str rt)) (.slice ra1 rn1 rc1) (.slice ra2 rn2 rc2)
      rw [← hw9] at o1 o2 o3
      exact ⟨o1.trans mm.os, o2.trans mm.tape, o3.trans mm.output, by rw [s9]; exact mm.size, fun y hy => (k9 y (by have := uh H12; omega)).trans (mm.block y hy)⟩
     have e1 := uh HsW
     have e2 := uh HLO
     have hne : ∀ z, lo' ≤ z → z ≠ V2 := fun z hz e => by omega
     refine ⟨_, lo', rfl, Nat.le_trans (uh HbW).size e2, ?_, b9⟩
     obtain ⟨yk, yn, yt, yns, yis⟩ := y
     obtain ⟨z1, z2, z3, z4, zs, ez, zT, zJ, zE, zD⟩ := uh HCP
     exact ⟨z1, z2, z3, z4, zs, ez, owns_same zT (fun y hy => k9 y (hne y (owns_lt zT y hy).1)), owns_same zJ (fun y hy => k9 y (hne y (owns_lt zJ y hy).1)), fun i j hj => by
      obtain ⟨v, h1, h2⟩ := zE i j hj
      exact ⟨v, h1, JV.keep (fun y hy => ⟨⟨hy.1, by have := hy.2.1; omega, hy.2.2⟩, k9 y (hne y hy.1)⟩) _ _ h2⟩, zD⟩
    have HR9 := hide r9
    clear hcp hlo' hb7 hj7 r2 r9 k9 s9 HC HCP HB7 HLO g0 g1 g2 g3 g4 p0 p1 p2 p3 p4
    go_wp2_with fail
    rw [← hw9]
    obtain ⟨e0, e1, e2, e3, e4⟩ := cells5 (uh HR9)
    clear hw9
    refine ⟨rfl, _, by simp [results, Tryz.results71, go_sem, e0, e1, e2, e3, e4]; rfl, ?_⟩
    rw [uh HE]
    exact uh HF
   ·have him' : (m : Int) ≤ (i : Int) := by omega
    have HE : Hid (RES = none) := by show _ = _; rw [uh HRES, gtM_far hix (by rw [← uh HM]; omega)]
    clear hix HRES
    go_wp2_with fail
    rw [← uh HW0]
    obtain ⟨e0, e1, e2, e3, e4⟩ := cells5 (uh HR0)
    clear HW0
    refine ⟨rfl, _, by simp [results, Tryz.results71, go_sem, e0, e1, e2, e3, e4]; rfl, ?_⟩
    rw [uh HE]
    exact ⟨_, w0.heap.size, rfl, (uh HB0).size, nul_cp _ _, uh HB0⟩
 ·have hkb : (k != 5) = true := by simpa using hk5
  have HE : Hid (RES = none) := by show _ = _; rw [uh HRES, gtM_not hk5]
  clear HRES HIX
  go_wp2_with fail
  rw [← uh HW0]
  obtain ⟨e0, e1, e2, e3, e4⟩ := cells5 (uh HR0)
  clear HW0
  refine ⟨rfl, _, by simp [results, Tryz.results71, go_sem, e0, e1, e2, e3, e4]; rfl, ?_⟩
  rw [uh HE]
  exact ⟨_, w0.heap.size, rfl, (uh HB0).size, nul_cp _ _, uh HB0⟩
end Go.Proofs.YtmpjeahibfdehaaGreatDoor
end
section
set_option linter.unusedVariables false
set_option maxRecDepth 1000000
namespace Go.Proofs.YtmpjeahibfdehaaGreatDoor
open Go.RowKit

theorem fm_get {α : Type} (f : α → List Value) (c : Nat) (hc : ∀ x, (f x).length = c) : ∀ (l : List α) (i : Nat) (x : α), l[i]? = some x → ∀ r, r < c → (l.flatMap f)[i * c + r]? = (f x)[r]?
 | [], i, x, h => by simp at h
 | y :: l, 0, x, h => fun r hr => by
  obtain rfl : y = x := by simpa using h
  rw [List.flatMap_cons, Nat.zero_mul, Nat.zero_add, List.getElem?_append_left (by rw [hc]; exact hr)]
 | y :: l, i + 1, x, h => fun r hr => by
  have := fm_get f c hc l i x (by simpa using h) r hr
  have e : (i + 1) * c = i * c + c := by rw [Nat.add_mul, Nat.one_mul]
  rw [List.flatMap_cons, List.getElem?_append_right (by rw [hc]; omega), hc, show (i + 1) * c + r - c = i * c + r by omega]
  exact this
/-- A member: its name, the five cells of its value, and what that tells. -/
structure Mm where
 a : List UInt8
 v0 : Value
 v1 : Value
 v2 : Value
 v3 : Value
 v4 : Value
 j : Js
def Mm.cs (m : Mm) : List Value := [.string (str m.a), m.v0, m.v1, m.v2, m.v3, m.v4]
def Mm.vs (m : Mm) : List Value := [m.v0, m.v1, m.v2, m.v3, m.v4]
def Mm.ok (w : World) (S : Nat → Prop) (m : Mm) : Prop := JV w S (.agg #[m.v0, m.v1, m.v2, m.v3, m.v4]) m.j ∧ ∀ u ∈ m.vs, u.oneCell' = true
def tMm (a b : List UInt8) : Mm := ⟨a, .int .i64 3, .int .i64 0, .string (str b), .slice none 0 0, .slice none 0 0, .mk 3 0 b [] []⟩
def nMm (a : List UInt8) (n : Int) : Mm := ⟨a, .int .i64 2, .int .i64 n, .string ⟨#[]⟩, .slice none 0 0, .slice none 0 0, .mk 2 n [] [] []⟩
theorem tMm_ok (w : World) (S : Nat → Prop) (a b : List UInt8) : (tMm a b).ok w S := ⟨JV.flat _ _ 3 0 b, by simp [tMm, Mm.vs, Value.oneCell']⟩
theorem nMm_ok (w : World) (S : Nat → Prop) (a : List UInt8) (n : Int) : (nMm a n).ok w S := ⟨JV.flat _ _ 2 n [], by simp [nMm, Mm.vs, Value.oneCell']⟩
/-- append(names, name), append(items, item), each by its cells. -/
theorem wp_appS (w : World) {ops : Array Oper} {rest : List Oper} {o : Oper} {a : Act} {Q : Exit → Act → World → Prop} (hgd : o.guard = none) (s x : Operand)
  (ho : o.op = .call { callee := .builtin .append, args := #[s, x], argTypes := #[41, 41] })
  (base : Nat) (a1 : Option Addr) (cap1 n1 : Nat) (xs : List Value) (hs : a.eval s = .slice a1 n1 cap1) (hown : w.ownsRow base 9 1 (.slice a1 n1 cap1) n1 xs)
  (B c2 : Nat) (nm : List UInt8) (hx : a.eval x = .slice (some ⟨B, 0, none⟩) 1 c2) (hsrc : w.heap[B]? = some (.cells #[.string (str nm)] 9 (0, 0))) (hlen : n1 ≤ 1000000) (hb : base ≤ w.heap.size)
  (h : ∀ g cap w', Hid (w'.ownsRow base 9 1 (.slice (some ⟨g, 0, none⟩) (n1 + 1) cap) (n1 + 1) (xs ++ [.string (str nm)])) → Hid (w.grownBy w' (blk a1)) → Hid (blk a1 = some g ∨ g = w.heap.size) → Hid (g < w'.heap.size) → wpList Tryz.prog ops Q rest (a.put o.dst (.slice (some ⟨g, 0, none⟩) (n1 + 1) cap)) w') : wpList Tryz.prog ops Q (o :: rest) a w := by
 obtain ⟨i, hi, hz0, hz1, hz2⟩ := info_parts Tryz.infoT4
 refine wpList_append_lies w hgd s x 41 ho base 9 i _ 1 16 Tryz.underlying41 hi hz0 hz1 hz2 rfl (by decide) _ _ _ hs hown ⟨B, 0, none⟩ 1 c2 [.string (str nm)] hx rfl ?_ (by simp [Value.oneCell']) (by decide) (by unfold maxLen; omega) (by omega) hb _ rfl ?_
 ·intro j u hu
  rw [addr_add, Nat.zero_add, cell_of_row w B j _ _ _ hsrc]
  simpa using hu
 ·intro g cap w' h1 h2 h3 h4
  have hblk : (Value.slice a1 n1 cap1).ownBlock = blk a1 := by cases a1 <;> rfl
  rw [hblk] at h2 h3
  exact h g cap w' h1 h2 h3 h4
theorem wp_appJ (w : World) {ops : Array Oper} {rest : List Oper} {o : Oper} {a : Act} {Q : Exit → Act → World → Prop} (hgd : o.guard = none) (s x : Operand)
  (ho : o.op = .call { callee := .builtin .append, args := #[s, x], argTypes := #[42, 42] })
  (base : Nat) (a1 : Option Addr) (cap1 n1 : Nat) (xs : List Value) (hs : a.eval s = .slice a1 n1 cap1) (hown : w.ownsRow base 44 5 (.slice a1 n1 cap1) n1 xs)
  (B c2 : Nat) (zs : List Value) (hz5 : zs.length = 5) (hzo : ∀ u ∈ zs, u.oneCell' = true) (hx : a.eval x = .slice (some ⟨B, 0, none⟩) 1 c2) (hsrc : w.heap[B]? = some (.cells zs.toArray 44 (0, 0))) (hlen : n1 ≤ 1000000) (hb : base ≤ w.heap.size)
  (h : ∀ g cap w', Hid (w'.ownsRow base 44 5 (.slice (some ⟨g, 0, none⟩) (n1 + 1) cap) (n1 + 1) (xs ++ zs)) → Hid (w.grownBy w' (blk a1)) → Hid (blk a1 = some g ∨ g = w.heap.size) → Hid (g < w'.heap.size) → wpList Tryz.prog ops Q rest (a.put o.dst (.slice (some ⟨g, 0, none⟩) (n1 + 1) cap)) w') : wpList Tryz.prog ops Q (o :: rest) a w := by
 obtain ⟨i, hi, hz0, hz1, hz2⟩ := info_parts Tryz.infoJ
 refine wpList_append_lies w hgd s x 42 ho base 44 i _ 5 80 Tryz.underlying42 hi hz0 hz1 hz2 rfl (by decide) _ _ _ hs hown ⟨B, 0, none⟩ 1 c2 zs hx (by rw [hz5]) ?_ hzo (by decide) (by unfold maxLen; omega) (by omega) hb _ rfl ?_
 ·intro j u hu
  rw [addr_add, Nat.zero_add, cell_of_row w B j _ _ _ hsrc]
  simpa using hu
 ·intro g cap w' h1 h2 h3 h4
  have hblk : (Value.slice a1 n1 cap1).ownBlock = blk a1 := by cases a1 <;> rfl
  rw [hblk] at h2 h3
  exact h g cap w' h1 h2 h3 h4
set_option maxHeartbeats 2000000 in
theorem textM_any (a b : List UInt8) (w : World) :
  Calls Tryz.prog 57 #[.string (str a), .string (str b)] w fun e w' => e = .returned (.agg #[.string (str a), .int .i64 3, .int .i64 0, .string (str b), .slice none 0 0, .slice none 0 0]) ∧ Hid (Below w.heap.size w w') := by
 obtain ⟨R, hR⟩ : ∃ R, R = w.heap.size := ⟨_, rfl⟩
 obtain ⟨W, hW⟩ : ∃ W, W = w.alloc (.cells #[.string ⟨#[]⟩, .int .i64 0, .int .i64 0, .string ⟨#[]⟩, .slice none 0 0, .slice none 0 0] 85) := ⟨_, rfl⟩
 have bW : Below w.heap.size w W := by rw [hW]; exact bA _
 have rW : W.heap[R]? = some (.cells #[.string ⟨#[]⟩, .int .i64 0, .int .i64 0, .string ⟨#[]⟩, .slice none 0 0, .slice none 0 0] 85 (0, 0)) := by rw [hW, hR]; exact heap_alloc_new _ _
 obtain ⟨w9, h9⟩ : ∃ w9, w9 = (((((W.setCell ⟨R, 0, none⟩ (.string (str a))).setCell ⟨R, 1, none⟩ (.int .i64 3)).setCell ⟨R, 2, none⟩ (.int .i64 0)).setCell ⟨R, 3, none⟩ (.string (str b))).setCell ⟨R, 4, none⟩ (.slice none 0 0)).setCell ⟨R, 5, none⟩ (.slice none 0 0) := ⟨_, rfl⟩
 have r9 : w9.heap[R]? = some (.cells #[.string (str a), .int .i64 3, .int .i64 0, .string (str b), .slice none 0 0, .slice none 0 0] 85 (0, 0)) := by
  rw [h9]
  exact hS6 (hS6 (hS6 (hS6 (hS6 (hS6 rW)))))
 have HB : Hid (Below w.heap.size w w9) := by
  show Below _ _ _
  rw [h9]
  have q : w.heap.size ≤ R := Nat.le_of_eq hR.symm
  exact (((((bW.setCell q _).setCell q _).setCell q _).setCell q _).setCell q _).setCell q _
 obtain ⟨c0, c1, c2, c3, c4, c5⟩ := cells6 rW
 obtain ⟨e0, e1, e2, e3, e4, e5⟩ := cells6 r9
 have f0 := frozen_of_row W R 0 _ _ rW
 have f1 := frozen_of_row W R 1 _ _ rW
 have f2 := frozen_of_row W R 2 _ _ rW
 have f3 := frozen_of_row W R 3 _ _ rW
 have f4 := frozen_of_row W R 4 _ _ rW
 have f5 := frozen_of_row W R 5 _ _ rW
 clear bW rW r9
 go_enter Tryz.func57, Tryz.ntmps57
 go_upto_region 1 with fail
 rw [← hW, ← hR]
 clear hW hR
 go_wp2_with fail
 rw [← h9]
 clear h9
 refine ⟨rfl, _, by simp [results, Tryz.results57, go_sem, e0, e1, e2, e3, e4, e5]; rfl, ?_⟩
 exact ⟨rfl, HB⟩
set_option maxHeartbeats 2000000 in
theorem numM_any (a : List UInt8) (n : Int) (w : World) :
  Calls Tryz.prog 59 #[.string (str a), .int .i64 n] w fun e w' => e = .returned (.agg #[.string (str a), .int .i64 2, .int .i64 n, .string ⟨#[]⟩, .slice none 0 0, .slice none 0 0]) ∧ Hid (Below w.heap.size w w') := by
 obtain ⟨R, hR⟩ : ∃ R, R = w.heap.size := ⟨_, rfl⟩
 obtain ⟨W, hW⟩ : ∃ W, W = w.alloc (.cells #[.string ⟨#[]⟩, .int .i64 0, .int .i64 0, .string ⟨#[]⟩, .slice none 0 0, .slice none 0 0] 85) := ⟨_, rfl⟩
 have bW : Below w.heap.size w W := by rw [hW]; exact bA _
 have rW : W.heap[R]? = some (.cells #[.string ⟨#[]⟩, .int .i64 0, .int .i64 0, .string ⟨#[]⟩, .slice none 0 0, .slice none 0 0] 85 (0, 0)) := by rw [hW, hR]; exact heap_alloc_new _ _
 obtain ⟨w9, h9⟩ : ∃ w9, w9 = (((((W.setCell ⟨R, 0, none⟩ (.string (str a))).setCell ⟨R, 1, none⟩ (.int .i64 2)).setCell ⟨R, 2, none⟩ (.int .i64 n)).setCell ⟨R, 3, none⟩ (.string ⟨#[]⟩)).setCell ⟨R, 4, none⟩ (.slice none 0 0)).setCell ⟨R, 5, none⟩ (.slice none 0 0) := ⟨_, rfl⟩
 have r9 : w9.heap[R]? = some (.cells #[.string (str a), .int .i64 2, .int .i64 n, .string ⟨#[]⟩, .slice none 0 0, .slice none 0 0] 85 (0, 0)) := by
  rw [h9]
  exact hS6 (hS6 (hS6 (hS6 (hS6 (hS6 rW)))))
 have HB : Hid (Below w.heap.size w w9) := by
  show Below _ _ _
  rw [h9]
  have q : w.heap.size ≤ R := Nat.le_of_eq hR.symm
  exact (((((bW.setCell q _).setCell q _).setCell q _).setCell q _).setCell q _).setCell q _
 obtain ⟨c0, c1, c2, c3, c4, c5⟩ := cells6 rW
 obtain ⟨e0, e1, e2, e3, e4, e5⟩ := cells6 r9
 have f0 := frozen_of_row W R 0 _ _ rW
 have f1 := frozen_of_row W R 1 _ _ rW
 have f2 := frozen_of_row W R 2 _ _ rW
 have f3 := frozen_of_row W R 3 _ _ rW
 have f4 := frozen_of_row W R 4 _ _ rW
 have f5 := frozen_of_row W R 5 _ _ rW
 clear bW rW r9
 go_enter Tryz.func59, Tryz.ntmps59
 go_upto_region 1 with fail
 rw [← hW, ← hR]
 clear hW hR
 go_wp2_with fail
 rw [← h9]
 clear h9
 refine ⟨rfl, _, by simp [results, Tryz.results59, go_sem, e0, e1, e2, e3, e4, e5]; rfl, ?_⟩
 exact ⟨rfl, HB⟩
set_option maxHeartbeats 2000000 in
theorem listM_any (a : List UInt8) (x : Option Addr) (n c : Nat) (w : World) :
  Calls Tryz.prog 61 #[.string (str a), .slice x n c] w fun e w' => e = .returned (.agg #[.string (str a), .int .i64 4, .int .i64 0, .string ⟨#[]⟩, .slice none 0 0, .slice x n c]) ∧ Hid (Below w.heap.size w w') := by
 obtain ⟨R, hR⟩ : ∃ R, R = w.heap.size := ⟨_, rfl⟩
 obtain ⟨W, hW⟩ : ∃ W, W = w.alloc (.cells #[.string ⟨#[]⟩, .int .i64 0, .int .i64 0, .string ⟨#[]⟩, .slice none 0 0, .slice none 0 0] 85) := ⟨_, rfl⟩
 have bW : Below w.heap.size w W := by rw [hW]; exact bA _
 have rW : W.heap[R]? = some (.cells #[.string ⟨#[]⟩, .int .i64 0, .int .i64 0, .string ⟨#[]⟩, .slice none 0 0, .slice none 0 0] 85 (0, 0)) := by rw [hW, hR]; exact heap_alloc_new _ _
 obtain ⟨w9, h9⟩ : ∃ w9, w9 = (((((W.setCell ⟨R, 0, none⟩ (.string (str a))).setCell ⟨R, 1, none⟩ (.int .i64 4)).setCell ⟨R, 2, none⟩ (.int .i64 0)).setCell ⟨R, 3, none⟩ (.string ⟨#[]⟩)).setCell ⟨R, 4, none⟩ (.slice none 0 0)).setCell ⟨R, 5, none⟩ (.slice x n c) := ⟨_, rfl⟩
 have r9 : w9.heap[R]? = some (.cells #[.string (str a), .int .i64 4, .int .i64 0, .string ⟨#[]⟩, .slice none 0 0, .slice x n c] 85 (0, 0)) := by
  rw [h9]
  exact hS6 (hS6 (hS6 (hS6 (hS6 (hS6 rW)))))
 have HB : Hid (Below w.heap.size w w9) := by
  show Below _ _ _
  rw [h9]
  have q : w.heap.size ≤ R := Nat.le_of_eq hR.symm
  exact (((((bW.setCell q _).setCell q _).setCell q _).setCell q _).setCell q _).setCell q _
 obtain ⟨c0, c1, c2, c3, c4, c5⟩ := cells6 rW
 obtain ⟨e0, e1, e2, e3, e4, e5⟩ := cells6 r9
 have f0 := frozen_of_row W R 0 _ _ rW
 have f1 := frozen_of_row W R 1 _ _ rW
 have f2 := frozen_of_row W R 2 _ _ rW
 have f3 := frozen_of_row W R 3 _ _ rW
 have f4 := frozen_of_row W R 4 _ _ rW
 have f5 := frozen_of_row W R 5 _ _ rW
 clear bW rW r9
 go_enter Tryz.func61, Tryz.ntmps61
 go_upto_region 1 with fail
 rw [← hW, ← hR]
 clear hW hR
 go_wp2_with fail
 rw [← h9]
 clear h9
 refine ⟨rfl, _, by simp [results, Tryz.results61, go_sem, e0, e1, e2, e3, e4, e5]; rfl, ?_⟩
 exact ⟨rfl, HB⟩
/-- An object of members in the midst of being made: q of them are in it. -/
def OfI (W : World) (V : Nat) (ms : List Mm) (q : Nat) (wr : World) : Prop := ∃ a1 c1 a2 c2,
 wr.heap[V]? = some (.cells #[.int .i64 5, .int .i64 0, .string ⟨#[]⟩, .slice a1 q c1, .slice a2 q c2] 44 (0, 0)) ∧
 wr.ownsRow W.heap.size 9 1 (.slice a1 q c1) q ((ms.take q).map fun m => .string (str m.a)) ∧ wr.ownsRow W.heap.size 44 5 (.slice a2 q c2) q ((ms.take q).flatMap Mm.vs) ∧
 blk a1 ≠ some V ∧ blk a2 ≠ some V ∧ (∀ k, blk a1 = some k → blk a2 ≠ some k) ∧ Mv W wr V
theorem take_snoc {ms : List Mm} {q : Nat} {m : Mm} (h : ms[q]? = some m) : ms.take (q + 1) = ms.take q ++ [m] := by
 rw [List.take_add_one, h]; rfl
/-- A name more. -/
theorem mv_grown {W u w7 : World} {V : Nat} {row : Option Nat} (h : Mv W u V) (g : u.grownBy w7 row) (hr : ∀ k, row = some k → W.heap.size ≤ k) : Mv W w7 V :=
 ⟨g.os.trans h.os, g.tape.trans h.tape, g.output.trans h.output, Nat.le_trans h.size g.size, fun k hk hn => (g.block k (Nat.lt_of_lt_of_le hk h.size) (fun e => by have := hr k e.symm; omega)).trans (h.block k hk hn)⟩
theorem OfI.done {w W : World} {V : Nat} {ms : List Mm} {wr w' : World} (h : OfI W V ms ms.length wr) (hb : Below w.heap.size w w') (hk : ∀ k, k ≠ V → W.heap.size ≤ k → k < wr.heap.size → w'.heap[k]? = wr.heap[k]?) {S : Nat → Prop} (hS : ∀ k, S k → k < w.heap.size) (hWw : w.heap.size ≤ W.heap.size) (hm : ∀ m ∈ ms, Mm.ok w S m) :
  ∃ a1 c1 a2 c2, wr.heap[V]? = some (.cells #[.int .i64 5, .int .i64 0, .string ⟨#[]⟩, .slice a1 ms.length c1, .slice a2 ms.length c2] 44 (0, 0)) ∧
   JV w' (fun k => S k ∨ Nw w w' k) (.agg #[.int .i64 5, .int .i64 0, .string ⟨#[]⟩, .slice a1 ms.length c1, .slice a2 ms.length c2]) (.mk 5 0 [] (ms.map (·.a)) (ms.map (·.j))) := by
 obtain ⟨a1, c1, a2, c2, hr, h1, h2, n1, n2, n3, hbw⟩ := h
 refine ⟨a1, c1, a2, c2, hr, ?_⟩
 rw [List.take_length] at h1 h2
 have k1 : w'.ownsRow W.heap.size 9 1 (.slice a1 ms.length c1) ms.length (ms.map fun m => .string (str m.a)) := owns_same h1 (fun k hk2 => hk k (fun e => n1 (by rw [hk2, e])) (owns_lt h1 k hk2).1 (owns_lt h1 k hk2).2)
 have k2 : w'.ownsRow W.heap.size 44 5 (.slice a2 ms.length c2) ms.length (ms.flatMap Mm.vs) := owns_same h2 (fun k hk2 => hk k (fun e => n2 (by rw [hk2, e])) (owns_lt h2 k hk2).1 (owns_lt h2 k hk2).2)
 simp only [JV]
 obtain ⟨t1, t2, t3⟩ := owns_cap k1
 obtain ⟨u1, u2, u3⟩ := owns_cap k2
 refine ⟨a1, c1, a2, c2, by simp; rfl, ?_, by simpa using t1, t2, t3, by simpa using u1, u2, u3, ?_⟩
 ·intro hne
  rcases owns_cases k1 with ⟨_, _, h3, _⟩ | ⟨g, cur, rfl, hb2, hg, hle, hm2, hs2, ht, hl⟩
  ·exact absurd (by simpa using h3) hne
  ·refine ⟨g, 0, rfl, .inr ⟨Nat.le_trans hWw hb2, (aI hg).1⟩, fun i s hs3 => ?_⟩
   rw [Nat.zero_add]
   refine (owns_cell k1 i _ ?_).1
   rw [List.getElem?_map] at hs3 ⊢
   cases hx : ms[i]? with
   | none => rw [hx] at hs3; cases hs3
   | some m => rw [hx] at hs3; obtain rfl := Option.some.inj hs3; rfl
 ·refine (jvs_iff _ _ _ _ _).2 (fun i j hj => ?_)
  rw [List.getElem?_map] at hj
  cases hx : ms[i]? with
  | none => rw [hx] at hj; cases hj
  | some m =>
   rw [hx] at hj
   obtain rfl := Option.some.inj hj
   rcases owns_cases k2 with ⟨_, _, h3, _⟩ | ⟨g, cur, rfl, hb2, hg, hle, hm2, hs2, ht, hl⟩
   ·have := (List.getElem?_eq_some_iff.1 hx).1; omega
   ·have fm := fm_get Mm.vs 5 (fun _ => rfl) ms i m hx
    have q0 := (owns_cell k2 (i * 5) _ (fm 0 (by omega))).1
    refine ⟨g, 0, m.v0, m.v1, m.v2, m.v3, m.v4, rfl, .inr ⟨Nat.le_trans hWw hb2, (aI hg).1⟩, ?_, ?_, ?_, ?_, ?_, ?_⟩
    ·rw [Nat.zero_add, Nat.zero_add]; exact q0
    ·rw [Nat.zero_add, Nat.zero_add]; exact (owns_cell k2 (i * 5 + 1) _ (fm 1 (by omega))).1
    ·rw [Nat.zero_add, Nat.zero_add]; exact (owns_cell k2 (i * 5 + 2) _ (fm 2 (by omega))).1
    ·rw [Nat.zero_add, Nat.zero_add]; exact (owns_cell k2 (i * 5 + 3) _ (fm 3 (by omega))).1
    ·rw [Nat.zero_add, Nat.zero_add]; exact (owns_cell k2 (i * 5 + 4) _ (fm 4 (by omega))).1
    ·exact JV.keep (fun k hk => ⟨.inl hk, hb.block k (hS k hk)⟩) _ _ (hm m (List.mem_of_getElem? hx)).1
/-- Between the two appends of a round. -/
theorem of_mid {W wr W5 U6 w7 : World} {V E q g1 : Nat} {m : Mm} {a1 a2 : Option Addr} {c2 : Nat} {xs2 : List Value} {ro : Obj} {re : Obj} (rV : wr.heap[V]? = some ro) (h1 : ∀ k, blk a1 = some k → k < wr.heap.size) (h2 : wr.ownsRow W.heap.size 44 5 (.slice a2 q c2) q xs2)
  (n1 : blk a1 ≠ some V) (n3 : ∀ k, blk a1 = some k → blk a2 ≠ some k) (b5 : Below wr.heap.size wr W5) (rE : W5.heap[E]? = some re) (hE : wr.heap.size ≤ E) (e6 : U6 = W5.alloc (.cells #[.string (str m.a)] 9)) (HG : U6.grownBy w7 (blk a1)) (HAT : blk a1 = some g1 ∨ g1 = U6.heap.size) :
  w7.heap[V]? = some ro ∧ w7.heap[E]? = some re ∧ w7.ownsRow W.heap.size 44 5 (.slice a2 q c2) q xs2 ∧ g1 ≠ V ∧ g1 ≠ E ∧ blk a2 ≠ some g1 := by
 have hV := (aI rV).1
 have hEl := (aI rE).1
 have b6 : Below W5.heap.size W5 U6 := by rw [e6]; exact bA _
 have s5 := b5.size
 have s6 := b6.size
 have k7 : ∀ k, k < wr.heap.size → blk a1 ≠ some k → w7.heap[k]? = wr.heap[k]? := fun k hk hn => (HG.block k (by omega) (fun e => hn e.symm)).trans ((b6.block k (by omega)).trans (b5.block k hk))
 refine ⟨(k7 V hV n1).trans rV, ?_, owns_same h2 (fun k hk => k7 k (owns_lt h2 k hk).2 (fun e => n3 k e hk)), ?_, ?_, ?_⟩
 ·exact (HG.block E (by omega) (fun e => by have := h1 E e.symm; omega)).trans ((b6.block E hEl).trans rE)
 ·rintro rfl
  rcases HAT with e | e
  ·exact n1 e
  ·omega
 ·rintro rfl
  rcases HAT with e | e
  ·have := h1 _ e; omega
  ·omega
 ·intro e
  rcases HAT with e2 | e2
  ·exact n3 _ e2 e
  ·have := (owns_lt h2 _ e).2; omega
theorem of_step {W wr W5 U6 w7 W8 U9 w10 W11 : World} {V q g1 cp1 g2 cp2 : Nat} {ms : List Mm} {m : Mm} {a1 a2 : Option Addr} {c1 c2 : Nat} (hVw : V < W.heap.size)
  (h1 : wr.ownsRow W.heap.size 9 1 (.slice a1 q c1) q ((ms.take q).map fun m => .string (str m.a))) (h2 : wr.ownsRow W.heap.size 44 5 (.slice a2 q c2) q ((ms.take q).flatMap Mm.vs)) (hbw : Mv W wr V) (hm : ms[q]? = some m)
  (n2 : blk a2 ≠ some V) (b5 : Below wr.heap.size wr W5) (e6 : U6 = W5.alloc (.cells #[.string (str m.a)] 9)) (HO : w7.ownsRow W.heap.size 9 1 (.slice (some ⟨g1, 0, none⟩) (q + 1) cp1) (q + 1) (((ms.take q).map fun m => .string (str m.a)) ++ [.string (str m.a)])) (HG : U6.grownBy w7 (blk a1)) (HGL : g1 < w7.heap.size)
  (r7 : w7.heap[V]? = some (.cells #[.int .i64 5, .int .i64 0, .string ⟨#[]⟩, .slice a1 q c1, .slice a2 q c2] 44 (0, 0))) (x1 : g1 ≠ V) (x2 : blk a2 ≠ some g1)
  (e8 : W8 = w7.setCell ⟨V, 3, none⟩ (.slice (some ⟨g1, 0, none⟩) (q + 1) cp1)) (e9 : U9 = W8.alloc (.cells #[m.v0, m.v1, m.v2, m.v3, m.v4] 44)) (HO2 : w10.ownsRow W.heap.size 44 5 (.slice (some ⟨g2, 0, none⟩) (q + 1) cp2) (q + 1) ((ms.take q).flatMap Mm.vs ++ m.vs)) (HG2 : U9.grownBy w10 (blk a2)) (HAT2 : blk a2 = some g2 ∨ g2 = U9.heap.size)
  (e11 : W11 = w10.setCell ⟨V, 4, none⟩ (.slice (some ⟨g2, 0, none⟩) (q + 1) cp2)) : OfI W V ms (q + 1) W11 := by
 have hV := (aI r7).1
 have b6 : Below W5.heap.size W5 U6 := by rw [e6]; exact bA _
 have b9 : Below W8.heap.size W8 U9 := by rw [e9]; exact bA _
 have s8 : W8.heap.size = w7.heap.size := by rw [e8, siz1]
 have s9 := b9.size
 have r8 : W8.heap[V]? = some (.cells #[.int .i64 5, .int .i64 0, .string ⟨#[]⟩, .slice (some ⟨g1, 0, none⟩) (q + 1) cp1, .slice a2 q c2] 44 (0, 0)) := by rw [e8]; exact hS6 r7
 have r9 := (b9.block V (by omega)).trans r8
 have r10 := (HG2.block V (by omega) (fun e => n2 e.symm)).trans r9
 have k1 : ∀ k, blk a1 = some k → W.heap.size ≤ k := fun k hk => (owns_lt h1 k hk).1
 have k2 : ∀ k, blk a2 = some k → W.heap.size ≤ k := fun k hk => (owns_lt h2 k hk).1
 have bw6 : Mv W U6 V := (hbw.trans (Mv.ofB b5)).trans (Mv.ofB b6)
 have bw7 : Mv W w7 V := mv_grown bw6 HG k1
 have bw8 : Mv W W8 V := bw7.trans (by rw [e8]; exact Mv.set _ _ _ _)
 have bw10 : Mv W w10 V := mv_grown (bw8.trans (Mv.ofB b9)) HG2 k2
 have g2V : g2 ≠ V := by
  rintro rfl
  rcases HAT2 with e | e
  ·exact n2 e
  ·omega
 have g12 : g1 ≠ g2 := by
  rintro rfl
  rcases HAT2 with e | e
  ·exact x2 e
  ·omega
 refine ⟨some ⟨g1, 0, none⟩, cp1, some ⟨g2, 0, none⟩, cp2, ?_, ?_, ?_, fun e => x1 (by simpa [blk] using e), fun e => g2V (by simpa [blk] using e), fun k hk e => g12 (by simp [blk] at hk e; omega), ?_⟩
 ·rw [e11]; exact hS6 r10
 ·rw [take_snoc hm, List.map_append]
  refine owns_same HO (fun k hk => ?_)
  obtain rfl : g1 = k := by simpa [blk] using hk
  rw [e11, Below.heap_setCell _ ⟨V, 4, none⟩ _ g1 x1]
  exact (HG2.block g1 (by omega) (fun e => x2 e.symm)).trans ((b9.block g1 (by omega)).trans (by rw [e8]; exact Below.heap_setCell _ ⟨V, 3, none⟩ _ g1 x1))
 ·rw [take_snoc hm, List.flatMap_append, List.flatMap_cons, List.flatMap_nil, List.append_nil]
  refine owns_same HO2 (fun k hk => ?_)
  obtain rfl : g2 = k := by simpa [blk] using hk
  rw [e11, Below.heap_setCell _ ⟨V, 4, none⟩ _ g2 g2V]
 ·exact bw10.trans (by rw [e11]; exact Mv.set _ _ _ _)
set_option maxHeartbeats 16000000 in
theorem of_any (ms : List Mm) (n B cap : Nat) (hn : n = ms.length) (w : World) (hrow : w.heap[B]? = some (.cells (ms.flatMap Mm.cs).toArray 85 (0, 0))) (S : Nat → Prop) (hS : ∀ k, S k → k < w.heap.size) (hm : ∀ m ∈ ms, Mm.ok w S m) (hl : ms.length ≤ 1000) :
  Calls Tryz.prog 60 #[.slice (some ⟨B, 0, none⟩) n cap] w fun e w' => ∃ v, e = .returned v ∧ Hid (JV w' (fun k => S k ∨ Nw w w' k) v (.mk 5 0 [] (ms.map (·.a)) (ms.map (·.j)))) ∧ Hid (Below w.heap.size w w') := by
 obtain ⟨R, hR⟩ : ∃ R, R = w.heap.size := ⟨_, rfl⟩
 obtain ⟨V, hV⟩ : ∃ V, V = w.heap.size + 1 := ⟨_, rfl⟩
 obtain ⟨W, hW⟩ : ∃ W, W = (w.alloc (.cells #[.int .i64 0, .int .i64 0, .string ⟨#[]⟩, .slice none 0 0, .slice none 0 0] 44)).alloc (.cells #[.int .i64 5, .int .i64 0, .string ⟨#[]⟩, .slice none 0 0, .slice none 0 0] 44) := ⟨_, rfl⟩
 have bW : Below w.heap.size w W := by rw [hW]; exact below2 w _ _
 have sW : W.heap.size = w.heap.size + 2 := by rw [hW]; simp
 have rR : W.heap[R]? = some (.cells #[.int .i64 0, .int .i64 0, .string ⟨#[]⟩, .slice none 0 0, .slice none 0 0] 44 (0, 0)) := by
  rw [hW, hR, heap_alloc_old _ _ (by simp)]
  exact heap_alloc_new _ _
 have rV : W.heap[V]? = some (.cells #[.int .i64 5, .int .i64 0, .string ⟨#[]⟩, .slice none 0 0, .slice none 0 0] 44 (0, 0)) := by
  rw [hW, hV]
  exact heap_alloc2_new _ _ _
 have HRV : Hid (R = w.heap.size ∧ V = R + 1 ∧ W.heap.size = R + 2) := ⟨hR, by omega, by omega⟩
 have HROW := hide ((bW.block B (aI hrow).1).trans hrow)
 have HBl : Hid (B < w.heap.size) := (aI hrow).1
 have HM := hide hm
 have HSS := hide hS
 have HNn := hide hn
 have HBW := hide bW
 have HRR := hide rR
 have hn9 : n ≤ 1000 := by omega
 have I0 : Hid (OfI W V ms 0 W) := ⟨none, 0, none, 0, rV, by simpa using World.ownsRow_nil _ _ _ _, by simpa using World.ownsRow_nil _ _ _ _, by simp [blk], by simp [blk], fun k hk => by simp [blk] at hk, Mv.ofB (Below.refl _ _)⟩
 clear hrow hm hS hn hl bW rR rV sW
 go_enter Tryz.func60, Tryz.ntmps60
 go_upto_region 2 with fail
 rw [← hW, ← hV, ← hR]
 clear hW hV hR
 go_wp2_with fail
 go_loopw [9] (fun v wr => ∃ q : Nat, q ≤ n ∧ v = .int .i64 (q : Int) ∧ Hid (OfI W V ms q wr)) (fun v _ => n - (intOf v).toNat)
 case atStart => exact ⟨0, Nat.zero_le _, rfl, I0⟩
 case round =>
  obtain ⟨q, hq, rfl, HI⟩ := hrel
  clear I0
  by_cases hlt : q < n
  ·have hlt' : (q : Int) < (n : Int) := by omega
   obtain ⟨m, hm⟩ : ∃ m, ms[q]? = some m := ⟨_, List.getElem?_eq_getElem (by have := uh HNn; omega)⟩
   obtain ⟨ma, v0, v1, v2, v3, v4, mj⟩ := m
   obtain ⟨jk, jn, jt, ja1, jn1, jc1, ja2, jn2, jc2, hf⟩ := (uh HM _ (List.mem_of_getElem? hm)).1.form
   simp only [Value.agg.injEq, Array.mk.injEq, List.cons.injEq, and_true] at hf
   obtain ⟨rfl, rfl, rfl, rfl, rfl⟩ := hf
   obtain ⟨a1, c1, a2, c2, hr, h1, h2, n1, n2, n3, hmv⟩ := uh HI
   have hBV : B ≠ V := by have := uh HBl; have := uh HRV; omega
   have rowB := (hmv.block B (by have := uh HBl; have := uh HRV; omega) (fun e => hBV (Option.some.inj e))).trans (uh HROW)
   have fm := fm_get Mm.cs 6 (fun _ => rfl) ms q (⟨ma, .int .i64 jk, .int .i64 jn, .string (str jt), .slice ja1 jn1 jc1, .slice ja2 jn2 jc2, mj⟩ : Mm) hm
   have mc : ∀ r v, (⟨ma, .int .i64 jk, .int .i64 jn, .string (str jt), .slice ja1 jn1 jc1, .slice ja2 jn2 jc2, mj⟩ : Mm).cs[r]? = some v → r < 6 → wr.cell? ⟨B, q * 6 + r, none⟩ = some v := fun r v hv hr => (cell_of_row wr B (q * 6 + r) _ _ _ rowB).trans (by rw [List.getElem?_toArray]; exact (fm r hr).trans hv)
   have g0 := mc 0 _ rfl (by omega)
   have g1 := mc 1 _ rfl (by omega)
   have g2 := mc 2 _ rfl (by omega)
   have g3 := mc 3 _ rfl (by omega)
   have g4 := mc 4 _ rfl (by omega)
   have g5 := mc 5 _ rfl (by omega)
   rw [Nat.add_zero] at g0
   obtain ⟨E, hE⟩ : ∃ E, E = wr.heap.size := ⟨_, rfl⟩
   obtain ⟨W5, h5⟩ : ∃ W5, W5 = wr.alloc (.cells #[.string (str ma), .int .i64 jk, .int .i64 jn, .string (str jt), .slice ja1 jn1 jc1, .slice ja2 jn2 jc2] 85) := ⟨_, rfl⟩
   have b5 : Below wr.heap.size wr W5 := by rw [h5]; exact bA _
   have r5 : W5.heap[E]? = some (.cells #[.string (str ma), .int .i64 jk, .int .i64 jn, .string (str jt), .slice ja1 jn1 jc1, .slice ja2 jn2 jc2] 85 (0, 0)) := by rw [h5, hE]; exact heap_alloc_new _ _
   have rV5 := (b5.block V (aI hr).1).trans hr
   obtain ⟨U6, h6⟩ : ∃ U6, U6 = W5.alloc (.cells #[.string (str ma)] 9) := ⟨_, rfl⟩
   have b6 : Below W5.heap.size W5 U6 := by rw [h6]; exact bA _
   have HU := hide h6
   have HR6 : Hid (U6.heap[W5.heap.size]? = some (.cells #[.string (str ma)] 9 (0, 0))) := by show _ = _; rw [h6]; exact heap_alloc_new _ _
   have HO1 : Hid (U6.ownsRow W.heap.size 9 1 (.slice a1 q c1) q ((ms.take q).map fun m => .string (str m.a))) := owns_same h1 (fun k hk => ((b6.block k (Nat.lt_of_lt_of_le (owns_lt h1 k hk).2 b5.size)).trans (b5.block k (owns_lt h1 k hk).2)))
   have HB6 : Hid (W.heap.size ≤ U6.heap.size) := Nat.le_trans hmv.size (Nat.le_trans b5.size b6.size)
   have HKEEP := hide (And.intro hr (And.intro h1 (And.intro h2 (And.intro n1 (And.intro n2 (And.intro n3 (And.intro hmv (And.intro b5 (And.intro r5 hE)))))))))
   obtain ⟨p0, p1, p2, p3, p4⟩ := cells5 rV5
   obtain ⟨e0, e1, e2, e3, e4, e5⟩ := cells6 r5
   have f3 := frozen_of_row W5 V 3 _ _ rV5
   have hq9 : q ≤ 1000000 := by omega
   clear hr h1 h2 n1 n2 n3 hmv b5 r5 b6 h6 rowB fm mc rV5 hBV
   go_upto_region 5 with fail
   rw [← h5, ← hE]
   clear h5 hE g0 g1 g2 g3 g4 g5
   go_wp2_with (at_builtin; rw [← uh HU]; refine wp_appS U6 rfl _ _ rfl W.heap.size a1 c1 q _ rfl (uh HO1) W5.heap.size 1 ma rfl (uh HR6) hq9 (uh HB6) ?_)
   intro y1 z1 w7 HO HG HAT HGL
   obtain ⟨hr, h1, h2, n1, n2, n3, hmv, b5, r5, hE⟩ := uh HKEEP
   obtain ⟨r7, re7, o7, x1, x2, x3⟩ := of_mid (W := W) (m := (⟨ma, .int .i64 jk, .int .i64 jn, .string (str jt), .slice ja1 jn1 jc1, .slice ja2 jn2 jc2, mj⟩ : Mm)) hr (fun k hk => (owns_lt h1 k hk).2) h2 n1 n3 b5 r5 (Nat.le_of_eq hE.symm) (uh HU) (uh HG) (uh HAT)
   obtain ⟨W8, h8⟩ : ∃ W8, W8 = w7.setCell ⟨V, 3, none⟩ (.slice (some ⟨y1, 0, none⟩) (q + 1) z1) := ⟨_, rfl⟩
   have r8 : W8.heap[V]? = some (.cells #[.int .i64 5, .int .i64 0, .string ⟨#[]⟩, .slice (some ⟨y1, 0, none⟩) (q + 1) z1, .slice a2 q c2] 44 (0, 0)) := by rw [h8]; exact hS6 r7
   have hEV : E ≠ V := by have := (aI hr).1; omega
   have re8 : W8.heap[E]? = some (.cells #[.string (str ma), .int .i64 jk, .int .i64 jn, .string (str jt), .slice ja1 jn1 jc1, .slice ja2 jn2 jc2] 85 (0, 0)) := by rw [h8, Below.heap_setCell _ ⟨V, 3, none⟩ _ E hEV]; exact re7
   obtain ⟨U9, h9⟩ : ∃ U9, U9 = W8.alloc (.cells #[.int .i64 jk, .int .i64 jn, .string (str jt), .slice ja1 jn1 jc1, .slice ja2 jn2 jc2] 44) := ⟨_, rfl⟩
   have b9 : Below W8.heap.size W8 U9 := by rw [h9]; exact bA _
   have s8 : W8.heap.size = w7.heap.size := by rw [h8, siz1]
   have HU9 := hide h9
   have HR9 : Hid (U9.heap[W8.heap.size]? = some (.cells #[.int .i64 jk, .int .i64 jn, .string (str jt), .slice ja1 jn1 jc1, .slice ja2 jn2 jc2] 44 (0, 0))) := by show _ = _; rw [h9]; exact heap_alloc_new _ _
   have HO2 : Hid (U9.ownsRow W.heap.size 44 5 (.slice a2 q c2) q ((ms.take q).flatMap Mm.vs)) := owns_same o7 (fun k hk => (b9.block k (by rw [s8]; exact (owns_lt o7 k hk).2)).trans (by rw [h8]; exact Below.heap_setCell _ ⟨V, 3, none⟩ _ k (fun e => n2 (by rw [hk, e]))))
   have HB9 : Hid (W.heap.size ≤ U9.heap.size) := by
    have := b9.size
    have := (uh HG).size
    have := uh HB6
    show _ ≤ _
    omega
   obtain ⟨l0, l1, l2, l3, l4⟩ := cells5 r8
   obtain ⟨t0, t1, t2, t3, t4, t5⟩ := cells6 re8
   have ff3 := frozen_of_row w7 V 3 _ _ r7
   have ff4 := frozen_of_row W8 V 4 _ _ r8
   have d3 := (cells5 r7).2.2.2.1
   have HONE : Hid (∀ u ∈ (⟨ma, .int .i64 jk, .int .i64 jn, .string (str jt), .slice ja1 jn1 jc1, .slice ja2 jn2 jc2, mj⟩ : Mm).vs, u.oneCell' = true) := (uh HM (⟨ma, .int .i64 jk, .int .i64 jn, .string (str jt), .slice ja1 jn1 jc1, .slice ja2 jn2 jc2, mj⟩ : Mm) (List.mem_of_getElem? hm)).2
   have HX := hide (And.intro r7 (And.intro x1 x3))
   have H8 := hide h8
   clear hr h1 h2 n1 n2 n3 hmv b5 r5 hE r7 re7 o7 x1 x2 x3 r8 hEV re8 h9 b9 s8 p0 p1 p2 p3 p4 e0 e1 e2 e3 e4 e5 f3
   go_upto_region 6 with fail
   rw [← h8]
   clear h8 d3 ff3
   go_wp2_with (at_builtin; rw [← uh HU9]; refine wp_appJ U9 rfl _ _ rfl W.heap.size a2 c2 q _ rfl (uh HO2) W8.heap.size 1 [.int .i64 jk, .int .i64 jn, .string (str jt), .slice ja1 jn1 jc1, .slice ja2 jn2 jc2] rfl (uh HONE) rfl (uh HR9) hq9 (uh HB9) ?_)
   intro y2 z2 w10 HP2 HG2 HAT2 HGL2
   obtain ⟨W11, h11⟩ : ∃ W11, W11 = w10.setCell ⟨V, 4, none⟩ (.slice (some ⟨y2, 0, none⟩) (q + 1) z2) := ⟨_, rfl⟩
   have HN : Hid (OfI W V ms (q + 1) W11) := by
    obtain ⟨hr, h1, h2, n1, n2, n3, hmv, b5, r5, hE⟩ := uh HKEEP
    obtain ⟨r7, x1, x3⟩ := uh HX
    exact of_step (m := (⟨ma, .int .i64 jk, .int .i64 jn, .string (str jt), .slice ja1 jn1 jc1, .slice ja2 jn2 jc2, mj⟩ : Mm)) (by have := uh HRV; omega) h1 h2 hmv hm n2 b5 (uh HU) (by have z := uh HO; rw [← List.map_take] at z; exact z) (uh HG) (uh HGL) r7 x1 x3 (uh H8) (uh HU9) (uh HP2) (uh HG2) (uh HAT2) h11
   have r10 : w10.heap[V]? = some (.cells #[.int .i64 5, .int .i64 0, .string ⟨#[]⟩, .slice (some ⟨y1, 0, none⟩) (q + 1) z1, .slice a2 q c2] 44 (0, 0)) := by
    obtain ⟨hr, h1, h2, n1, n2, n3, hmv, b5, r5, hE⟩ := uh HKEEP
    obtain ⟨r7, x1, x3⟩ := uh HX
    have b9 : Below W8.heap.size W8 U9 := by rw [uh HU9]; exact bA _
    have r8 : W8.heap[V]? = some (.cells #[.int .i64 5, .int .i64 0, .string ⟨#[]⟩, .slice (some ⟨y1, 0, none⟩) (q + 1) z1, .slice a2 q c2] 44 (0, 0)) := by rw [uh H8]; exact hS6 r7
    have := (aI r8).1
    exact ((uh HG2).block V (by have := b9.size; omega) (fun e => n2 e.symm)).trans ((b9.block V this).trans r8)
   have d4 := (cells5 r10).2.2.2.2
   have ff4' := frozen_of_row w10 V 4 _ _ r10
   clear l0 l1 l2 l3 l4 t0 t1 t2 t3 t4 t5 ff4 r10 HX H8 HU9 HR9 HO2 HB9 HONE HKEEP HU HR6 HO1 HB6 HO HG HAT HGL HP2 HG2 HAT2 HGL2 HI
   go_upto_region 7 with fail
   rw [← h11]
   clear h11 d4 ff4'
   go_wp2_with fail
   go_round
   case rel => exact ⟨q + 1, by omega, by go_num, HN⟩
   case measure => simp [intOf]; omega
  ·have hlt' : ¬ (q : Int) < (n : Int) := by omega
   obtain rfl : q = n := by omega
   have HI2 : Hid (OfI W V ms ms.length wr) := by rw [← uh HNn]; exact uh HI
   obtain ⟨x1, y1, x2, y2, hr, h1, h2, n1, n2, n3, hmv⟩ := uh HI
   have hRV : R ≠ V := by have := uh HRV; omega
   have rR := (hmv.block R (by have := uh HRV; omega) (fun e => hRV (Option.some.inj e))).trans (uh HRR)
   obtain ⟨w9, h9⟩ : ∃ w9, w9 = ((((wr.setCell ⟨R, 0, none⟩ (.int .i64 5)).setCell ⟨R, 1, none⟩ (.int .i64 0)).setCell ⟨R, 2, none⟩ (.string ⟨#[]⟩)).setCell ⟨R, 3, none⟩ (.slice x1 q y1)).setCell ⟨R, 4, none⟩ (.slice x2 q y2) := ⟨_, rfl⟩
   have r9 : w9.heap[R]? = some (.cells #[.int .i64 5, .int .i64 0, .string ⟨#[]⟩, .slice x1 q y1, .slice x2 q y2] 44 (0, 0)) := by
    rw [h9]
    exact hS6 (hS6 (hS6 (hS6 (hS6 rR))))
   have k9 : ∀ k, k ≠ R → w9.heap[k]? = wr.heap[k]? := fun k hk => by rw [h9]; exact far5 _ _ _ _ _ _ _ _ _ _ _ _ _ hk
   have s9 : w9.heap.size = wr.heap.size := by rw [h9]; exact siz5 _ _ _ _ _ _ _ _ _ _ _ _
   have HB9 : Hid (Below w.heap.size w w9) := by
    obtain ⟨o1, o2, o3⟩ := oth5 wr R 0 1 2 3 4 (.int .i64 5) (.int .i64 0) (.string ⟨#[]⟩) (.slice x1 q y1) (.slice x2 q y2)
    rw [← h9] at o1 o2 o3
    have bW := uh HBW
    obtain ⟨z1, z2, z3⟩ := uh HRV
    exact ⟨o1.trans (hmv.os.trans bW.os), o2.trans (hmv.tape.trans bW.tape), o3.trans (hmv.output.trans bW.output), by rw [s9]; exact Nat.le_trans bW.size hmv.size, fun k hk => (k9 k (by omega)).trans ((hmv.block k (by omega) (fun e => by have := Option.some.inj e; omega)).trans (bW.block k hk))⟩
   have HJ : Hid (JV w9 (fun k => S k ∨ Nw w w9 k) (.agg #[.int .i64 5, .int .i64 0, .string ⟨#[]⟩, .slice x1 q y1, .slice x2 q y2]) (.mk 5 0 [] (ms.map (·.a)) (ms.map (·.j)))) := by
    obtain ⟨z1, z2, z3⟩ := uh HRV
    obtain ⟨b1, d1, b2, d2, hr', hj⟩ := (uh HI2).done (uh HB9) (fun k h1 h2 h3 => k9 k (by omega)) (uh HSS) (by omega) (uh HM)
    rw [hr] at hr'
    simp only [Option.some.injEq, Obj.cells.injEq, Array.mk.injEq, List.cons.injEq, Value.slice.injEq] at hr'
    obtain ⟨⟨_, _, _, ⟨e1, _, e2⟩, ⟨e3, _, e4⟩, _⟩, _⟩ := hr'
    rw [uh HNn, e1, e2, e3, e4]
    exact hj
   obtain ⟨p0, p1, p2, p3, p4⟩ := cells5 hr
   obtain ⟨q0, q1, q2, q3, q4⟩ := cells5 rR
   obtain ⟨e0, e1, e2, e3, e4⟩ := cells5 r9
   have f0 := frozen_of_row wr R 0 _ _ rR
   have f1 := frozen_of_row wr R 1 _ _ rR
   have f2 := frozen_of_row wr R 2 _ _ rR
   have f3 := frozen_of_row wr R 3 _ _ rR
   have f4 := frozen_of_row wr R 4 _ _ rR
   clear hr h1 h2 n1 n2 n3 hmv rR r9 k9 s9 HI HI2
   go_wp2_with fail
   rw [← h9]
   clear h9
   refine ⟨rfl, _, by simp [results, Tryz.results60, go_sem, e0, e1, e2, e3, e4]; rfl, ?_⟩
   exact ⟨_, rfl, HJ, HB9⟩
/-- .. of members whose rows were made since a world W. -/
theorem of_nw (ms : List Mm) (n B cap : Nat) (hn : n = ms.length) (w : World) (hrow : w.heap[B]? = some (.cells (ms.flatMap Mm.cs).toArray 85 (0, 0))) (W : World) (hW : W.heap.size ≤ w.heap.size) (hm : ∀ m ∈ ms, Mm.ok w (Nw W w) m) (hl : ms.length ≤ 1000) :
  Calls Tryz.prog 60 #[.slice (some ⟨B, 0, none⟩) n cap] w fun e w' => ∃ v, e = .returned v ∧ Hid (JV w' (Nw W w') v (.mk 5 0 [] (ms.map (·.a)) (ms.map (·.j)))) ∧ Hid (Below w.heap.size w w') := by
 refine (of_any ms n B cap hn w hrow (Nw W w) (fun k hk => hk.2) hm hl).mono ?_
 rintro e w' ⟨v, rfl, hj, hb⟩
 refine ⟨v, rfl, JV.keep (fun k hk => ⟨?_, rfl⟩) _ _ (uh hj), hb⟩
 rcases hk with hk | hk
 ·exact ⟨hk.1, Nat.lt_of_lt_of_le hk.2 (uh hb).size⟩
 ·exact ⟨Nat.le_trans hW hk.1, hk.2⟩
end Go.Proofs.YtmpjeahibfdehaaGreatDoor
end
section
set_option linter.unusedVariables false
set_option maxRecDepth 1000000
namespace Go.Proofs.YtmpjeahibfdehaaGreatDoor
open Go.RowKit

def tIn (x : List UInt8) (j : Js) : List UInt8 := match (gtM x j).getD Js.nul with | .mk _ _ t _ _ => t
def nIn (x : List UInt8) (j : Js) : Int := match (gtM x j).getD Js.nul with | .mk _ n _ _ _ => n
def iIn (x : List UInt8) (j : Js) : List Js := match (gtM x j).getD Js.nul with | .mk _ _ _ _ is => is
def jIn (x : List UInt8) (j : Js) : Js := (gtM x j).getD Js.nul
/-- A row of values in memory. -/
def JRow (W w : World) (a : Option Addr) (n c : Nat) (is : List Js) : Prop := n = is.length ∧ is.length ≤ c ∧ c ≤ maxLen ∧ (a = none → c = 0) ∧ JVs w (Nw W w) a 0 is
set_option maxHeartbeats 4000000 in
theorem textIn_any (x : List UInt8) (j : Js) (v : Value) (w : World) (hJ : JV w (Al w) v j) (hz : Sz j) :
  Calls Tryz.prog 65 #[v, .string (str x)] w fun e w' => e = .returned (.string (str (tIn x j))) ∧ Hid (Below w.heap.size w w') := by
 obtain ⟨k, n, t, a1, n1, c1, a2, n2, c2, rfl⟩ := hJ.form
 obtain ⟨W, hW⟩ : ∃ W, W = w.alloc (.cells #[.int .i64 k, .int .i64 n, .string (str t), .slice a1 n1 c1, .slice a2 n2 c2] 44) := ⟨_, rfl⟩
 have bW : Below w.heap.size w W := by rw [hW]; exact bA _
 have HG := hide (get_any x j (Al W) _ W (hJ.al (fun k hk => hk) bW) (fun k hk => hk) hz)
 have HB := hide bW
 obtain ⟨X, hX⟩ : ∃ X, X = w.heap.size := ⟨_, rfl⟩
 obtain ⟨p0, p1, p2, p3, p4⟩ := cells5 (show W.heap[X]? = some (.cells #[.int .i64 k, .int .i64 n, .string (str t), .slice a1 n1 c1, .slice a2 n2 c2] 44 (0, 0)) by rw [hW, hX]; exact heap_alloc_new _ _)
 clear hJ hz bW
 go_enter Tryz.func65, Tryz.ntmps65
 go_upto_region 1 with fail
 rw [← hW, ← hX]
 clear hW hX
 go_wp2_with fail
 refine (uh HG).mono ?_
 rintro e w1 ⟨v', lo, rfl, hlo, hcp, hb1⟩
 have hj : JV w1 (Nw w w1) v' ((gtM x j).getD Js.nul) := hcp.jv (fun y h1 h2 => ⟨Nat.le_trans (uh HB).size (Nat.le_trans hlo h1), h2⟩)
 have HB1 : Hid (Below w.heap.size w w1) := (uh HB).trans (hb1.mono (uh HB).size)
 obtain ⟨⟨gk, gn, gt, gns, gis⟩, hg⟩ : ∃ g, g = (gtM x j).getD Js.nul := ⟨_, rfl⟩
 rw [← hg] at hj
 have HGE := hide hg
 have HJ := hide hj
 simp only [JV] at hj
 obtain ⟨b1, d1, b2, d2, rfl, hr⟩ := hj
 have HBF : ∀ o, Hid (Below w.heap.size w (w1.alloc o)) := fun o => hide ((uh HB1).trans (((Below.refl _ _).alloc (Nat.le_refl _) o).mono (uh HB1).size))
 have HR := hide hr
 clear hlo hcp hb1 hg HG HB hr
 go_wp2_with fail
 go_ret
 refine ⟨?_, HBF _⟩
 unfold tIn
 rw [← uh HGE]
 try rfl
set_option maxHeartbeats 4000000 in
theorem numIn_any (x : List UInt8) (j : Js) (v : Value) (w : World) (hJ : JV w (Al w) v j) (hz : Sz j) :
  Calls Tryz.prog 66 #[v, .string (str x)] w fun e w' => e = .returned (.int .i64 (nIn x j)) ∧ Hid (Below w.heap.size w w') := by
 obtain ⟨k, n, t, a1, n1, c1, a2, n2, c2, rfl⟩ := hJ.form
 obtain ⟨W, hW⟩ : ∃ W, W = w.alloc (.cells #[.int .i64 k, .int .i64 n, .string (str t), .slice a1 n1 c1, .slice a2 n2 c2] 44) := ⟨_, rfl⟩
 have bW : Below w.heap.size w W := by rw [hW]; exact bA _
 have HG := hide (get_any x j (Al W) _ W (hJ.al (fun k hk => hk) bW) (fun k hk => hk) hz)
 have HB := hide bW
 obtain ⟨X, hX⟩ : ∃ X, X = w.heap.size := ⟨_, rfl⟩
 obtain ⟨p0, p1, p2, p3, p4⟩ := cells5 (show W.heap[X]? = some (.cells #[.int .i64 k, .int .i64 n, .string (str t), .slice a1 n1 c1, .slice a2 n2 c2] 44 (0, 0)) by rw [hW, hX]; exact heap_alloc_new _ _)
 clear hJ hz bW
 go_enter Tryz.func66, Tryz.ntmps66
 go_upto_region 1 with fail
 rw [← hW, ← hX]
 clear hW hX
 go_wp2_with fail
 refine (uh HG).mono ?_
 rintro e w1 ⟨v', lo, rfl, hlo, hcp, hb1⟩
 have hj : JV w1 (Nw w w1) v' ((gtM x j).getD Js.nul) := hcp.jv (fun y h1 h2 => ⟨Nat.le_trans (uh HB).size (Nat.le_trans hlo h1), h2⟩)
 have HB1 : Hid (Below w.heap.size w w1) := (uh HB).trans (hb1.mono (uh HB).size)
 obtain ⟨⟨gk, gn, gt, gns, gis⟩, hg⟩ : ∃ g, g = (gtM x j).getD Js.nul := ⟨_, rfl⟩
 rw [← hg] at hj
 have HGE := hide hg
 have HJ := hide hj
 simp only [JV] at hj
 obtain ⟨b1, d1, b2, d2, rfl, hr⟩ := hj
 have HBF : ∀ o, Hid (Below w.heap.size w (w1.alloc o)) := fun o => hide ((uh HB1).trans (((Below.refl _ _).alloc (Nat.le_refl _) o).mono (uh HB1).size))
 have HR := hide hr
 clear hlo hcp hb1 hg HG HB hr
 go_wp2_with fail
 go_ret
 refine ⟨?_, HBF _⟩
 unfold nIn
 rw [← uh HGE]
 try rfl
set_option maxHeartbeats 4000000 in
theorem itemsIn_any (x : List UInt8) (j : Js) (v : Value) (w : World) (hJ : JV w (Al w) v j) (hz : Sz j) :
  Calls Tryz.prog 67 #[v, .string (str x)] w fun e w' => ∃ a n c, e = .returned (.slice a n c) ∧ Hid (JRow w w' a n c (iIn x j)) ∧ Hid (Below w.heap.size w w') := by
 obtain ⟨k, n, t, a1, n1, c1, a2, n2, c2, rfl⟩ := hJ.form
 obtain ⟨W, hW⟩ : ∃ W, W = w.alloc (.cells #[.int .i64 k, .int .i64 n, .string (str t), .slice a1 n1 c1, .slice a2 n2 c2] 44) := ⟨_, rfl⟩
 have bW : Below w.heap.size w W := by rw [hW]; exact bA _
 have HG := hide (get_any x j (Al W) _ W (hJ.al (fun k hk => hk) bW) (fun k hk => hk) hz)
 have HB := hide bW
 obtain ⟨X, hX⟩ : ∃ X, X = w.heap.size := ⟨_, rfl⟩
 obtain ⟨p0, p1, p2, p3, p4⟩ := cells5 (show W.heap[X]? = some (.cells #[.int .i64 k, .int .i64 n, .string (str t), .slice a1 n1 c1, .slice a2 n2 c2] 44 (0, 0)) by rw [hW, hX]; exact heap_alloc_new _ _)
 clear hJ hz bW
 go_enter Tryz.func67, Tryz.ntmps67
 go_upto_region 1 with fail
 rw [← hW, ← hX]
 clear hW hX
 go_wp2_with fail
 refine (uh HG).mono ?_
 rintro e w1 ⟨v', lo, rfl, hlo, hcp, hb1⟩
 have hj : JV w1 (Nw w w1) v' ((gtM x j).getD Js.nul) := hcp.jv (fun y h1 h2 => ⟨Nat.le_trans (uh HB).size (Nat.le_trans hlo h1), h2⟩)
 have HB1 : Hid (Below w.heap.size w w1) := (uh HB).trans (hb1.mono (uh HB).size)
 obtain ⟨⟨gk, gn, gt, gns, gis⟩, hg⟩ : ∃ g, g = (gtM x j).getD Js.nul := ⟨_, rfl⟩
 rw [← hg] at hj
 have HGE := hide hg
 have HJ := hide hj
 simp only [JV] at hj
 obtain ⟨b1, d1, b2, d2, rfl, hr⟩ := hj
 have HBF : ∀ o, Hid (Below w.heap.size w (w1.alloc o)) := fun o => hide ((uh HB1).trans (((Below.refl _ _).alloc (Nat.le_refl _) o).mono (uh HB1).size))
 have HR := hide hr
 clear hlo hcp hb1 hg HG HB hr
 go_wp2_with fail
 go_ret
 refine ⟨_, _, _, rfl, ?_, HBF _⟩
 obtain ⟨_, _, _, _, h1, h2, h3, h4⟩ := uh HR
 show JRow _ _ _ _ _ _
 have e : iIn x j = gis := by unfold iIn; rw [← uh HGE]
 rw [e]
 exact ⟨rfl, h1, h2, h3, JVs.keep (fun k hk => ⟨⟨hk.1, Nat.lt_of_lt_of_le hk.2 (by simp)⟩, heap_alloc_old _ _ hk.2⟩) _ _ _ h4⟩
end Go.Proofs.YtmpjeahibfdehaaGreatDoor
end
