/-
  disk: rows of acts; an act's clone.; disk: a disk in memory; count, settle.; disk: settle, hasRoom, there; New; Pending, Used, Room; Read.
-/
import Derived.Test.YtmcgghjeocnpnaaGreatDoorPkKewsaj
import Derived.Deep.AppendLies
section
set_option linter.unusedVariables false
namespace Go.Proofs.YtmcgghjeocnpnaaGreatDoor
open Go.RowKit Go.Maps

/-- An act with where its bytes lie. -/
abbrev At := Ac × Option Addr × Nat
def acC (t : At) : List Value := [.int .i64 (t.1.k : Int), .string (str t.1.n), .int .i64 (t.1.p : Int), .slice t.2.1 t.1.b.length t.2.2]
def acs (l : List At) : List Value := l.flatMap acC
theorem acs_length (l : List At) : (acs l).length = l.length * 4 := by
  induction l with
  | nil => rfl
  | cons t r ih => simp [acs, acC] at ih ⊢; omega
theorem acs_append (l r : List At) : acs (l ++ r) = acs l ++ acs r := by simp [acs]
theorem acs_one (l : List At) : ∀ u ∈ acs l, u.oneCell' = true := by
  intro u hu
  obtain ⟨t, _, ht⟩ := List.mem_flatMap.1 hu
  simp [acC] at ht
  rcases ht with rfl | rfl | rfl | rfl <;> rfl
theorem acs_get : ∀ (l : List At) (i j : Nat) (t : At), l[i]? = some t → j < 4 → (acs l)[i * 4 + j]? = (acC t)[j]?
  | [], i, j, t, h, _ => by simp at h
  | u :: r, 0, j, t, h, hj => by
    simp at h
    subst h
    show (acC u ++ acs r)[0 * 4 + j]? = _
    rw [List.getElem?_append_left (by simp [acC]; omega)]
    simp
  | u :: r, i + 1, j, t, h, hj => by
    show (acC u ++ acs r)[(i + 1) * 4 + j]? = _
    have e : (i + 1) * 4 + j = (acC u).length + (i * 4 + j) := by simp [acC]; omega
    rw [e, List.getElem?_append_right (by omega), Nat.add_sub_cancel_left]
    exact acs_get r i j t (by simpa using h) hj

def OwnA (w : World) (a : Option Addr) (cap : Nat) (l : List At) : Prop := w.ownsRow 0 98 4 (.slice a l.length cap) l.length (acs l)
theorem OwnA.cases {w : World} {a : Option Addr} {cap : Nat} {l : List At} (h : OwnA w a cap l) :
    (a = none ∧ cap = 0 ∧ l = []) ∨ ∃ g cur, a = some ⟨g, 0, none⟩ ∧ w.heap[g]? = some (.cells cur 98 (0, 0)) ∧ l.length ≤ cap ∧ cap ≤ maxLen ∧ cur.size = cap * 4 ∧ cur.toList.take (l.length * 4) = acs l := by
  rcases h.2 with ⟨hv, hn⟩ | ⟨g, cap', cur, hv, hb, hg, hle, hm, hs, ht⟩
  · simp only [Value.slice.injEq] at hv
    exact .inl ⟨hv.1, hv.2.2, List.eq_nil_of_length_eq_zero hn⟩
  · simp only [Value.slice.injEq, true_and] at hv
    obtain ⟨rfl, rfl⟩ := hv
    exact .inr ⟨g, cur, rfl, hg, hle, hm, hs, ht⟩
theorem OwnA.nil (w : World) : OwnA w none 0 [] := World.ownsRow_nil w 0 _ _
theorem OwnA.lt {w : World} {a : Option Addr} {cap : Nat} {l : List At} (h : OwnA w a cap l) : ∀ k, blk a = some k → k < w.heap.size := by
  intro k hk
  rcases h.cases with ⟨rfl, rfl, rfl⟩ | ⟨g, cur, rfl, hg, _⟩
  · simp [blk] at hk
  · simp [blk] at hk
    subst hk
    exact (Array.getElem?_eq_some_iff.1 hg).1
theorem OwnA.st {w w' : World} {g g' : Nat → Tg} {S : Tg → Prop} {a : Option Addr} {cap : Nat} {l : List At} (h : OwnA w a cap l) (x : St w w' g g' S) (hs : ∀ k, blk a = some k → ¬ S (g k)) : OwnA w' a cap l := by
  refine ⟨h.1, ?_⟩
  rcases h.2 with hn | ⟨b, cap, cur, hv, hbb, hgg, rest⟩
  · exact .inl hn
  · refine .inr ⟨b, cap, cur, hv, hbb, ?_, rest⟩
    have e : blk a = some b := by simp only [Value.slice.injEq] at hv; rw [hv.1]; rfl
    exact x.heap hgg (hs b e)
theorem OwnA.below {w w' : World} {a : Option Addr} {cap : Nat} {l : List At} (h : OwnA w a cap l) (x : Below w.heap.size w w') : OwnA w' a cap l :=
  h.st (St.ofBelow (fun _ => .o) (fun _ => False) x) (fun _ _ e => e)
theorem OwnA.kept {w w' : World} {a : Option Addr} {cap : Nat} {l : List At} (h : OwnA w a cap l) {row : Option Nat} (hg : w.grownBy w' row) (hne : ∀ k, blk a = some k → row ≠ some k) : OwnA w' a cap l := by
  refine ⟨h.1, ?_⟩
  rcases h.2 with hn | ⟨b, cap, cur, hv, hbb, hgg, rest⟩
  · exact .inl hn
  · refine .inr ⟨b, cap, cur, hv, hbb, ?_, rest⟩
    have e : blk a = some b := by simp only [Value.slice.injEq] at hv; rw [hv.1]; rfl
    rw [hg.block b (Array.getElem?_eq_some_iff.1 hgg).1 (fun e' => hne b e e'.symm)]
    exact hgg
/-- The cells of the act at i. -/
theorem OwnA.at {w : World} {a : Option Addr} {cap : Nat} {l : List At} (h : OwnA w a cap l) {i : Nat} {t : At} (hi : l[i]? = some t) :
    ∃ g, a = some ⟨g, 0, none⟩ ∧ w.cell? ⟨g, i * 4, none⟩ = some (.int .i64 (t.1.k : Int)) ∧ w.cell? ⟨g, i * 4 + 1, none⟩ = some (.string (str t.1.n)) ∧ w.cell? ⟨g, i * 4 + 2, none⟩ = some (.int .i64 (t.1.p : Int)) ∧ w.cell? ⟨g, i * 4 + 3, none⟩ = some (.slice t.2.1 t.1.b.length t.2.2) := by
  have hlt := (List.getElem?_eq_some_iff.1 hi).1
  rcases h.cases with ⟨rfl, rfl, rfl⟩ | ⟨g, cur, rfl, hg, hle, hm, hs, ht⟩
  · simp at hi
  · have key : ∀ j, j < 4 → w.cell? ⟨g, i * 4 + j, none⟩ = (acC t)[j]? := by
      intro j hj
      rw [cell_of_row w g (i * 4 + j) cur _ (0, 0) hg, ← acs_get l i j t hi hj, ← ht, List.getElem?_take, if_pos (by omega)]
      simp
    exact ⟨g, rfl, key 0 (by omega), key 1 (by omega), key 2 (by omega), key 3 (by omega)⟩
theorem Tryz.infoA : (Tryz.prog.info? 98).map (fun i => (i.zero, i.size, i.bytes)) = some (some (.agg #[.int .i64 0, .string ⟨#[]⟩, .int .i64 0, .slice none 0 0]), 4, 56) := by kernel_rfl

theorem news_box {w : World} {B : Nat} {t : At} (h : w.heap[B]? = some (.cells (acC t).toArray 98 (0, 0))) : ∀ j u, (acs [t])[j]? = some u → w.cell? ((⟨B, 0, none⟩ : Addr).add j) = some u := by
  intro j u hu
  rw [addr_add, Nat.zero_add, cell_of_row w B j _ _ _ h]
  have : acs [t] = acC t := by simp [acs]
  rw [this] at hu
  simpa using hu
theorem OwnA.ownBlock {a : Option Addr} {n cap : Nat} : (Value.slice a n cap).ownBlock = blk a := by cases a <;> rfl
/-- append(s, act), s a row of acts, as a step of a region that draws its order. -/
theorem stp_appa (w : World) {ops : Array Oper} {o : Oper} {a : Act} {K : Act → World → Prop} {Q : Exit → Act → World → Prop} {E : Prop} (hgd : o.guard = none) (s x : Operand)
    (ho : o.op = .call { callee := .builtin .append, args := #[s, x], argTypes := #[76, 76] })
    (a1 : Option Addr) (cap1 : Nat) (l1 : List At) (n1 : Nat) (hs : a.eval s = .slice a1 n1 cap1) (hn1 : n1 = l1.length) (hown : OwnA w a1 cap1 l1)
    (B c2 : Nat) (t : At) (hx : a.eval x = .slice (some ⟨B, 0, none⟩) 1 c2) (hsrc : w.heap[B]? = some (.cells (acC t).toArray 98 (0, 0))) (hlen : l1.length ≤ 1000000)
    (h : ∀ g cap w', OwnA w' (some ⟨g, 0, none⟩) cap (l1 ++ [t]) → w.grownBy w' (blk a1) → Hid (blk a1 = some g ∨ g = w.heap.size) → K (a.put o.dst (.slice (some ⟨g, 0, none⟩) (n1 + 1) cap)) w') :
    if Region.wanted o (yielded ops a.tmps) = true then Oper.wp Tryz.prog o a w K Q else E := by
  subst hn1
  obtain ⟨i, hi, hz0, hz1, hz2⟩ := info_parts Tryz.infoA
  refine step_append_lies w hgd s x 76 ho 0 98 i _ 4 56 Tryz.underlying76 hi hz0 hz1 hz2 rfl (by decide) _ _ _ hs hown ⟨B, 0, none⟩ 1 c2 (acs [t]) hx (by rw [acs_length]; simp) (news_box hsrc) (acs_one [t]) (by decide) (by unfold maxLen; omega) (by omega) (Nat.zero_le _) _ rfl ?_
  intro g cap w' h1 h2 h3 h4
  rw [OwnA.ownBlock] at h2 h3
  refine h g cap w' ?_ h2 h3
  have e1 : l1.length + 1 = (l1 ++ [t]).length := by simp
  unfold OwnA
  rw [← e1, acs_append]
  exact h1
/-- .. in a plain region. -/
theorem wp_appa (w : World) {ops : Array Oper} {rest : List Oper} {o : Oper} {a : Act} {Q : Exit → Act → World → Prop} (hgd : o.guard = none) (s x : Operand)
    (ho : o.op = .call { callee := .builtin .append, args := #[s, x], argTypes := #[76, 76] })
    (a1 : Option Addr) (cap1 : Nat) (l1 : List At) (n1 : Nat) (hs : a.eval s = .slice a1 n1 cap1) (hn1 : n1 = l1.length) (hown : OwnA w a1 cap1 l1)
    (B c2 : Nat) (t : At) (hx : a.eval x = .slice (some ⟨B, 0, none⟩) 1 c2) (hsrc : w.heap[B]? = some (.cells (acC t).toArray 98 (0, 0))) (hlen : l1.length ≤ 1000000)
    (h : ∀ g cap w', OwnA w' (some ⟨g, 0, none⟩) cap (l1 ++ [t]) → w.grownBy w' (blk a1) → Hid (blk a1 = some g ∨ g = w.heap.size) → wpList Tryz.prog ops Q rest (a.put o.dst (.slice (some ⟨g, 0, none⟩) (n1 + 1) cap)) w') : wpList Tryz.prog ops Q (o :: rest) a w := by
  subst hn1
  obtain ⟨i, hi, hz0, hz1, hz2⟩ := info_parts Tryz.infoA
  refine wpList_append_lies w hgd s x 76 ho 0 98 i _ 4 56 Tryz.underlying76 hi hz0 hz1 hz2 rfl (by decide) _ _ _ hs hown ⟨B, 0, none⟩ 1 c2 (acs [t]) hx (by rw [acs_length]; simp) (news_box hsrc) (acs_one [t]) (by decide) (by unfold maxLen; omega) (by omega) (Nat.zero_le _) _ rfl ?_
  intro g cap w' h1 h2 h3 h4
  rw [OwnA.ownBlock] at h2 h3
  refine h g cap w' ?_ h2 h3
  have e1 : l1.length + 1 = (l1 ++ [t]).length := by simp
  unfold OwnA
  rw [← e1, acs_append]
  exact h1

theorem own_set {w : World} {base : Nat} {a : Option Addr} {cap : Nat} {l : List UInt8} (h : OwnB w base a cap l) (p : Addr) (u : Value) (hne : blk a ≠ some p.block) : OwnB (w.setCell p u) base a cap l := h.kept (grownBy_setCell w p u) (.inr hne)
theorem below_set {B : Nat} {w0 w : World} (h : Below B w0 w) (p : Addr) (u : Value) (hp : B ≤ p.block) (hB : B ≤ w0.heap.size) : Below B w0 (w.setCell p u) := h.grown (grownBy_setCell w p u) (Nat.le_trans hB h.size) (fun j hj => by rw [← Option.some.inj hj]; exact hp)
def acV (t : At) : Value := .agg #[.int .i64 (t.1.k : Int), .string (str t.1.n), .int .i64 (t.1.p : Int), .slice t.2.1 t.1.b.length t.2.2]

set_option maxRecDepth 20000 in
set_option maxHeartbeats 1000000 in
theorem aclone_any (k p : Int) (n : Nm) (x : Option Addr) (c : Nat) (b : List UInt8) (w : World) (hn : n.length ≤ 1000) (hb : Bs w x c b) (hbl : b.length ≤ 100000000) :
    Calls Tryz.prog 157 #[.agg #[.int .i64 k, .string (str n), .int .i64 p, .slice x b.length c]] w fun e w' => ∃ y cy, e = .returned (.agg #[.int .i64 k, .string (str n), .int .i64 p, .slice y b.length cy]) ∧ OwnB w' w.heap.size y cy b ∧ Below w.heap.size w w' := by
  have hsl : (str n).size ≤ 281474976710656 := by rw [str_size]; omega
  obtain ⟨v, hv⟩ : ∃ v, v = (w.alloc (.cells #[.int .i64 k, .string (str n), .int .i64 p, .slice x b.length c] 98)).alloc (.cells #[.int .i64 0, .string ⟨#[]⟩, .int .i64 0, .slice none 0 0] 98) := ⟨_, rfl⟩
  obtain ⟨Z, hZ⟩ : ∃ Z, Z = w.heap.size := ⟨_, rfl⟩
  have hB : Below w.heap.size w v := by rw [hv]; exact ((Below.refl _ _).alloc (Nat.le_refl _) _).alloc (by simp) _
  have z1 : v.heap[Z]? = some (.cells #[.int .i64 k, .string (str n), .int .i64 p, .slice x b.length c] 98 (0, 0)) := by
    rw [hv, hZ, Below.heap_alloc _ _ _ (by simp)]
    exact heap_alloc_new w _
  have y1 : v.heap[Z + 1]? = some (.cells #[.int .i64 0, .string ⟨#[]⟩, .int .i64 0, .slice none 0 0] 98 (0, 0)) := by
    have := heap_alloc_new (w.alloc (.cells #[.int .i64 k, .string (str n), .int .i64 p, .slice x b.length c] 98)) (.cells #[.int .i64 0, .string ⟨#[]⟩, .int .i64 0, .slice none 0 0] 98)
    rw [hv, hZ]
    simpa using this
  go_enter Tryz.func157, Tryz.ntmps157
  have HV := hide hv
  have HZ := hide hZ
  have ZY := hide (And.intro z1 y1)
  clear hv hZ z1 y1
  go_wp2_with fail
  rw [← unhide HV]
  refine (stclone_any (str n) v hsl).mono ?_
  rintro e w1 ⟨rfl, hb1⟩
  obtain ⟨z1, y1⟩ := unhide ZY
  have hZv : Z < v.heap.size := (Array.getElem?_eq_some_iff.1 z1).1
  have hYv : Z + 1 < v.heap.size := (Array.getElem?_eq_some_iff.1 y1).1
  have z2 : w1.heap[Z]? = some (.cells #[.int .i64 k, .string (str n), .int .i64 p, .slice x b.length c] 98 (0, 0)) := by rw [hb1.block Z hZv]; exact z1
  have y2 : w1.heap[Z + 1]? = some (.cells #[.int .i64 0, .string ⟨#[]⟩, .int .i64 0, .slice none 0 0] 98 (0, 0)) := by rw [hb1.block (Z + 1) hYv]; exact y1
  have f1 : w1.frozen? ⟨Z, 1, none⟩ = false := frozen_of_row w1 Z 1 _ _ z2
  have d1 : w1.cell? ⟨Z, 1, none⟩ = some (.string (str n)) := by rw [cell_of_row w1 Z 1 _ _ _ z2]; rfl
  have d3 : w1.cell? ⟨Z, 3, none⟩ = some (.slice x b.length c) := by rw [cell_of_row w1 Z 3 _ _ _ z2]; rfl
  rw [← unhide HZ]
  have hBw : Below w.heap.size w w1 := hB.trans (hb1.mono hB.size)
  obtain ⟨u1, hu1⟩ : ∃ u1, u1 = w1.setCell ⟨Z, 1, none⟩ (.string (str n)) := ⟨_, rfl⟩
  have z3 : u1.heap[Z]? = some (.cells #[.int .i64 k, .string (str n), .int .i64 p, .slice x b.length c] 98 (0, 0)) := by
    rw [hu1]
    simp only [World.setCell, Array.getElem?_modify]
    rw [if_pos trivial, z2]
    rfl
  have g1 : w1.grownBy u1 (some Z) := by rw [hu1]; exact grownBy_setCell w1 ⟨Z, 1, none⟩ _
  have y3 : u1.heap[Z + 1]? = some (.cells #[.int .i64 0, .string ⟨#[]⟩, .int .i64 0, .slice none 0 0] 98 (0, 0)) := by rw [g1.block (Z + 1) (Array.getElem?_eq_some_iff.1 y2).1 (by simp)]; exact y2
  have hBu : Below w.heap.size w u1 := hBw.grown g1 hBw.size (fun j hj => by have := Option.some.inj hj; have := unhide HZ; omega)
  have hbu : Bs u1 x c b := hb.below hBu (Nat.le_refl _)
  have HU := hide hu1
  have HS := hide (And.intro hBu (And.intro z3 y3))
  have hsu := hBu.size
  clear hu1 z1 y1 z2 y2 hBw hb1 g1 hB ZY HV hZv hYv z3 y3 hBu
  go_wp2_with fail
  rw [← unhide HU]
  refine (bclone_any x b.length c b u1 hbu rfl hbl).mono ?_
  rintro e w2 ⟨y, cy, r, rfl, hr, ho, hb2⟩
  obtain rfl : r = b := unhide hr
  obtain ⟨hBu, z3, y3⟩ := unhide HS
  have z4 : w2.heap[Z]? = some (.cells #[.int .i64 k, .string (str n), .int .i64 p, .slice x r.length c] 98 (0, 0)) := by rw [hb2.block Z (Array.getElem?_eq_some_iff.1 z3).1]; exact z3
  have y4 : w2.heap[Z + 1]? = some (.cells #[.int .i64 0, .string ⟨#[]⟩, .int .i64 0, .slice none 0 0] 98 (0, 0)) := by rw [hb2.block (Z + 1) (Array.getElem?_eq_some_iff.1 y3).1]; exact y3
  have a0 : w2.cell? ⟨Z, 0, none⟩ = some (.int .i64 k) := by rw [cell_of_row w2 Z 0 _ _ _ z4]; rfl
  have a1 : w2.cell? ⟨Z, 1, none⟩ = some (.string (str n)) := by rw [cell_of_row w2 Z 1 _ _ _ z4]; rfl
  have a2 : w2.cell? ⟨Z, 2, none⟩ = some (.int .i64 p) := by rw [cell_of_row w2 Z 2 _ _ _ z4]; rfl
  have a3 : w2.cell? ⟨Z, 3, none⟩ = some (.slice x r.length c) := by rw [cell_of_row w2 Z 3 _ _ _ z4]; rfl
  have q3 : w2.frozen? ⟨Z, 3, none⟩ = false := frozen_of_row w2 Z 3 _ _ z4
  have b0 : w2.cell? ⟨Z + 1, 0, none⟩ = some (.int .i64 0) := by rw [cell_of_row w2 (Z + 1) 0 _ _ _ y4]; rfl
  have b1 : w2.cell? ⟨Z + 1, 1, none⟩ = some (.string ⟨#[]⟩) := by rw [cell_of_row w2 (Z + 1) 1 _ _ _ y4]; rfl
  have b2 : w2.cell? ⟨Z + 1, 2, none⟩ = some (.int .i64 0) := by rw [cell_of_row w2 (Z + 1) 2 _ _ _ y4]; rfl
  have b3 : w2.cell? ⟨Z + 1, 3, none⟩ = some (.slice none 0 0) := by rw [cell_of_row w2 (Z + 1) 3 _ _ _ y4]; rfl
  have p0 : w2.frozen? ⟨Z + 1, 0, none⟩ = false := frozen_of_row w2 (Z + 1) 0 _ _ y4
  have p1 : w2.frozen? ⟨Z + 1, 1, none⟩ = false := frozen_of_row w2 (Z + 1) 1 _ _ y4
  have p2 : w2.frozen? ⟨Z + 1, 2, none⟩ = false := frozen_of_row w2 (Z + 1) 2 _ _ y4
  have p3 : w2.frozen? ⟨Z + 1, 3, none⟩ = false := frozen_of_row w2 (Z + 1) 3 _ _ y4
  have hYl : Z + 1 < u1.heap.size := (Array.getElem?_eq_some_iff.1 y3).1
  have hyl := ho.lt
  have n0 : blk y ≠ some Z := fun e => by have := (hyl Z e).1; omega
  have n1 : blk y ≠ some (Z + 1) := fun e => by have := (hyl (Z + 1) e).1; omega
  have HO := hide (own_set (own_set (own_set (own_set (own_set ho ⟨Z, 3, none⟩ (.slice y r.length cy) n0) ⟨Z + 1, 0, none⟩ (.int .i64 k) n1) ⟨Z + 1, 1, none⟩ (.string (str n)) n1) ⟨Z + 1, 2, none⟩ (.int .i64 p) n1) ⟨Z + 1, 3, none⟩ (.slice y r.length cy) n1)
  have hz0 : w.heap.size ≤ Z := by have := unhide HZ; omega
  have hz1 : w.heap.size ≤ Z + 1 := by omega
  have hl0 := Nat.le_refl w.heap.size
  have HB := hide (below_set (below_set (below_set (below_set (below_set (hBu.trans (hb2.mono hsu)) ⟨Z, 3, none⟩ (.slice y r.length cy) hz0 hl0) ⟨Z + 1, 0, none⟩ (.int .i64 k) hz1 hl0) ⟨Z + 1, 1, none⟩ (.string (str n)) hz1 hl0) ⟨Z + 1, 2, none⟩ (.int .i64 p) hz1 hl0) ⟨Z + 1, 3, none⟩ (.slice y r.length cy) hz1 hl0)
  clear z4 y4 z3 y3 n0 n1 hyl
  go_wp2
  refine bodyPost_ret (v := .agg #[.int .i64 k, .string (str n), .int .i64 p, .slice y r.length cy]) (by simp [results, Tryz.results157, go_sem, b0, b1, b2, b3]) rfl ⟨y, cy, rfl, (unhide HO).base hsu, unhide HB⟩
#print axioms aclone_any
end Go.Proofs.YtmcgghjeocnpnaaGreatDoor
end
section
set_option linter.unusedVariables false
namespace Go.Proofs.YtmcgghjeocnpnaaGreatDoor
open Go.RowKit Go.Maps

/-- What a disk is. -/
structure Md where
  room : Int
  last : Files
  lastN : Nat
  seen : Files
  seenN : Nat
  pend : List Ac
  peaks : Nm → Int
  used : Int
def Md.count (M : Md) (n : Nm) (z : Int) : Md := { M with used := wrap64 (M.used + wrap64 (z - M.peaks n)), peaks := upd M.peaks n z }
def Md.settle (M : Md) (n : Nm) : Md := M.count n ((fget M.seen n).length : Int)
/-- Where it lies. -/
structure DJ where
  D : Nat
  L : Nat
  S : Nat
  K : Nat
  P : Option Addr
  pc : Nat
  kc : Nat

def dcells (J : DJ) (M : Md) : Array Value := #[.int .i64 M.room, .map (some J.L), .map (some J.S), .slice J.P M.pend.length J.pc, .map (some J.K), .int .i64 M.used]
/-- The disk number i lies at J, and is M. -/
structure DS (w : World) (g : Nat → Tg) (i : Nat) (J : DJ) (M : Md) : Prop where
  dsk : w.heap[J.D]? = some (.cells (dcells J M) 79 (0, 0))
  gD : g J.D = .d i
  gL : g J.L = .l i
  gS : g J.S = .s i
  gK : g J.K = .k i
  gP : ∀ k, blk J.P = some k → g k = .p i
  fl : FM w g (.lr i) J.L M.last M.lastN
  fs : FM w g (.sr i) J.S M.seen M.seenN
  pk : PK w J.K M.peaks J.kc
  pd : ∃ l : List At, l.map (·.1) = M.pend ∧ OwnA w J.P J.pc l ∧ ∀ t ∈ l, Bs w t.2.1 t.2.2 t.1.b ∧ ∀ k, blk t.2.1 = some k → k < w.heap.size ∧ g k = .a i
theorem DS.trL {w : World} {g : Nat → Tg} {i : Nat} {J : DJ} {M : Md} (h : DS w g i J M) : TR g (.lr i) J.L := ⟨(fun m e => by rw [h.gL] at e; cases e), (fun m n e => by cases e; rfl)⟩
theorem DS.trS {w : World} {g : Nat → Tg} {i : Nat} {J : DJ} {M : Md} (h : DS w g i J M) : TR g (.sr i) J.S := ⟨(fun m e => by rw [h.gS] at e; cases e), (fun m n e => by cases e; rfl)⟩
theorem DS.ltD {w : World} {g : Nat → Tg} {i : Nat} {J : DJ} {M : Md} (h : DS w g i J M) : J.D < w.heap.size := (Array.getElem?_eq_some_iff.1 h.dsk).1
theorem DS.c0 {w : World} {g : Nat → Tg} {i : Nat} {J : DJ} {M : Md} (h : DS w g i J M) : w.cell? ⟨J.D, 0, none⟩ = some (.int .i64 M.room) := by rw [cell_of_row w J.D 0 _ _ _ h.dsk]; rfl
theorem DS.c1 {w : World} {g : Nat → Tg} {i : Nat} {J : DJ} {M : Md} (h : DS w g i J M) : w.cell? ⟨J.D, 1, none⟩ = some (.map (some J.L)) := by rw [cell_of_row w J.D 1 _ _ _ h.dsk]; rfl
theorem DS.c2 {w : World} {g : Nat → Tg} {i : Nat} {J : DJ} {M : Md} (h : DS w g i J M) : w.cell? ⟨J.D, 2, none⟩ = some (.map (some J.S)) := by rw [cell_of_row w J.D 2 _ _ _ h.dsk]; rfl
theorem DS.c3 {w : World} {g : Nat → Tg} {i : Nat} {J : DJ} {M : Md} (h : DS w g i J M) : w.cell? ⟨J.D, 3, none⟩ = some (.slice J.P M.pend.length J.pc) := by rw [cell_of_row w J.D 3 _ _ _ h.dsk]; rfl
theorem DS.c4 {w : World} {g : Nat → Tg} {i : Nat} {J : DJ} {M : Md} (h : DS w g i J M) : w.cell? ⟨J.D, 4, none⟩ = some (.map (some J.K)) := by rw [cell_of_row w J.D 4 _ _ _ h.dsk]; rfl
theorem DS.c5 {w : World} {g : Nat → Tg} {i : Nat} {J : DJ} {M : Md} (h : DS w g i J M) : w.cell? ⟨J.D, 5, none⟩ = some (.int .i64 M.used) := by rw [cell_of_row w J.D 5 _ _ _ h.dsk]; rfl
theorem DS.fr {w : World} {g : Nat → Tg} {i : Nat} {J : DJ} {M : Md} (h : DS w g i J M) (k : Nat) : w.frozen? ⟨J.D, k, none⟩ = false := frozen_of_row w J.D k _ _ h.dsk
/-- What is done elsewhere leaves the disk as it is. -/
theorem DS.st {w w' : World} {g g' : Nat → Tg} {S : Tg → Prop} {i : Nat} {J : DJ} {M : Md} (h : DS w g i J M) (x : St w w' g g' S) (hs : ∀ t, t.of i → ¬ S t) : DS w' g' i J M := by
  have hd : ∀ (k : Nat) (t : Tg), g k = t → t.of i → k < w.heap.size → g' k = t := fun k t e _ hk => (x.ag k hk).trans e
  refine ⟨x.heap h.dsk (by rw [h.gD]; exact hs _ rfl), hd _ _ h.gD rfl h.ltD, hd _ _ h.gL rfl h.fl.lt, hd _ _ h.gS rfl h.fs.lt, hd _ _ h.gK rfl h.pk.lt, ?_, h.fl.st x (by rw [h.gL]; exact hs _ rfl) (fun n => hs _ rfl), h.fs.st x (by rw [h.gS]; exact hs _ rfl) (fun n => hs _ rfl), h.pk.st x (by rw [h.gK]; exact hs _ rfl), ?_⟩
  · intro k hk
    obtain ⟨l, _, hl, _⟩ := h.pd
    exact hd _ _ (h.gP k hk) rfl (hl.lt k hk)
  · obtain ⟨l, h1, h2, h3⟩ := h.pd
    refine ⟨l, h1, h2.st x (fun k hk => by rw [h.gP k hk]; exact hs _ rfl), fun t ht => ⟨(h3 t ht).1.st x (fun k hk => by rw [((h3 t ht).2 k hk).2]; exact hs _ rfl), fun k hk => ?_⟩⟩
    have := (h3 t ht).2 k hk
    exact ⟨Nat.lt_of_lt_of_le this.1 x.size, (x.ag k this.1).trans this.2⟩
theorem DS.below {w w' : World} {g : Nat → Tg} {i : Nat} {J : DJ} {M : Md} (h : DS w g i J M) (x : Below w.heap.size w w') : DS w' g i J M := h.st (St.ofBelow g (fun _ => False) x) (fun _ _ e => e)

theorem grownBy_setdrew (w : World) (p : Addr) (u : Value) : w.grownBy (w.setCell p u).drew (some p.block) :=
  ⟨rfl, rfl, rfl, (grownBy_setCell w p u).size, fun k hk hne => (grownBy_setCell w p u).block k hk hne⟩
theorem wf_i64 {z : Int} (h1 : -9223372036854775808 ≤ z) (h2 : z ≤ 9223372036854775807) : (Lit.int .i64 z).wf = true := by
  simp [Lit.wf, IntKind.min, IntKind.max, IntKind.bits, IntKind.signed]
  omega

set_option maxRecDepth 20000 in
set_option maxHeartbeats 2000000 in
theorem count_any (g : Nat → Tg) (i : Nat) (J : DJ) (M : Md) (n : Nm) (z : Int) (w : World) (h : DS w g i J M) (hn : n.length ≤ 1000) (hz : (Lit.int .i64 z).wf = true) (hk : J.kc ≤ 1000000) :
    Calls Tryz.prog 73 #[.pointer (some ⟨J.D, 0, none⟩), .string (str n), .int .i64 z] w fun e w' => e = .returned (.tuple #[]) ∧ Hid (DS w' g i { J with kc := J.kc + 1 } (M.count n z)) ∧ Hid (St w w' g g (fun t => t = .d i ∨ t = .k i)) := by
  have hnm : n.length ≤ maxLen := by unfold maxLen; omega
  have c4 := h.c4
  have c5 := h.c5
  have f5 := h.fr 5
  obtain ⟨_, look⟩ := h.pk.at n hnm
  have hl := look w.drew rfl
  obtain ⟨w1, hw1⟩ : ∃ w1, w1 = (w.setCell ⟨J.D, 5, none⟩ (.int .i64 (wrap64 (M.used + wrap64 (z - M.peaks n))))).drew := ⟨_, rfl⟩
  have g1 : w.grownBy w1 (some J.D) := by rw [hw1]; exact grownBy_setdrew w ⟨J.D, 5, none⟩ _
  have hneK : J.K ≠ J.D := fun e => by have := h.gK; rw [e, h.gD] at this; cases this
  have pk1 : PK w1 J.K M.peaks J.kc := h.pk.st (St.ofG (g := g) (S := fun t => t = .d i) g1 (fun k hk => by rw [← Option.some.inj hk]; exact h.gD)) (by rw [h.gK]; intro e; cases e)
  obtain ⟨w2, hup, pk2, g2⟩ := pk1.put n hnm (by unfold maxLen; omega) z hz
  have d1 : w1.heap[J.D]? = some (.cells #[.int .i64 M.room, .map (some J.L), .map (some J.S), .slice J.P M.pend.length J.pc, .map (some J.K), .int .i64 (wrap64 (M.used + wrap64 (z - M.peaks n)))] 79 (0, 0)) := by
    rw [hw1]
    show ((w.setCell ⟨J.D, 5, none⟩ _).heap)[J.D]? = _
    simp only [World.setCell, Array.getElem?_modify]
    rw [if_pos trivial, h.dsk]
    rfl
  have k4 : w1.cell? ⟨J.D, 4, none⟩ = some (.map (some J.K)) := by rw [cell_of_row w1 J.D 4 _ _ _ d1]; rfl
  have s1 : St w w1 g g (fun t => t = .d i ∨ t = .k i) := St.ofG g1 (fun k hk => by rw [← Option.some.inj hk]; exact .inl h.gD)
  have s2 : St w1 w2 g g (fun t => t = .k i) := St.ofG g2 (fun k hk => by rw [← Option.some.inj hk]; exact h.gK)
  have HS : Hid (St w w2 g g (fun t => t = .d i ∨ t = .k i)) := s1.trans (s2.mono (fun t e => .inr e))
  have HD : Hid (DS w2 g i { J with kc := J.kc + 1 } (M.count n z)) := by
    have S := unhide HS
    refine ⟨?_, h.gD, h.gL, h.gS, h.gK, h.gP, h.fl.st S ?_ ?_, h.fs.st S ?_ ?_, pk2, ?_⟩
    · exact s2.heap d1 (by rw [h.gD]; intro e; cases e)
    · rw [h.gL]; rintro (e | e) <;> cases e
    · rintro m (e | e) <;> cases e
    · rw [h.gS]; rintro (e | e) <;> cases e
    · rintro m (e | e) <;> cases e
    · obtain ⟨l, h1, h2, h3⟩ := h.pd
      refine ⟨l, h1, h2.st S (fun k hk => by rw [h.gP k hk]; rintro (e | e) <;> cases e), fun t ht => ⟨(h3 t ht).1.st S (fun k hk => by rw [((h3 t ht).2 k hk).2]; rintro (e | e) <;> cases e), fun k hk => ?_⟩⟩
      have := (h3 t ht).2 k hk
      exact ⟨Nat.lt_of_lt_of_le this.1 S.size, this.2⟩
  have HW := hide hw1
  clear hw1 g1 pk1 d1 s1 s2 g2 pk2 look
  go_enter Tryz.func73, Tryz.ntmps73
  go_wp2_with fail
  go_region
  rw [← unhide HW]
  go_wp2
  go_end0
  exact ⟨rfl, HD, HS⟩
#print axioms count_any
end Go.Proofs.YtmcgghjeocnpnaaGreatDoor
end
section
set_option linter.unusedVariables false
namespace Go.Proofs.YtmcgghjeocnpnaaGreatDoor
open Go.RowKit Go.Maps

theorem DS.del {w w' : World} {g : Nat → Tg} {i : Nat} {J : DJ} {M : Md} (h : DS w g i J M) (n : Nm) (pk : PK w' J.K (upd M.peaks n 0) J.kc) (hg : w.grownBy w' (some J.K)) (h0 : M.peaks n = 0) : DS w' g i J M ∧ St w w' g g (fun t => t = .d i ∨ t = .k i) := by
  have S : St w w' g g (fun t => t = .k i) := St.ofG hg (fun k hk => by rw [← Option.some.inj hk]; exact h.gK)
  refine ⟨⟨?_, h.gD, h.gL, h.gS, h.gK, h.gP, h.fl.st S ?_ ?_, h.fs.st S ?_ ?_, ?_, ?_⟩, S.mono (fun t e => .inr e)⟩
  · exact S.heap h.dsk (by rw [h.gD]; intro e; cases e)
  · rw [h.gL]; intro e; cases e
  · intro m e; cases e
  · rw [h.gS]; intro e; cases e
  · intro m e; cases e
  · have : upd M.peaks n 0 = M.peaks := by
      funext m
      unfold upd
      split
      · rename_i e; rw [e, h0]
      · rfl
    rw [this] at pk
    exact pk
  · obtain ⟨l, h1, h2, h3⟩ := h.pd
    refine ⟨l, h1, h2.st S (fun k hk => by rw [h.gP k hk]; intro e; cases e), fun t ht => ⟨(h3 t ht).1.st S (fun k hk => by rw [((h3 t ht).2 k hk).2]; intro e; cases e), fun k hk => ?_⟩⟩
    have := (h3 t ht).2 k hk
    exact ⟨Nat.lt_of_lt_of_le this.1 S.size, this.2⟩

set_option maxRecDepth 20000 in
set_option maxHeartbeats 2000000 in
theorem settle_any (g : Nat → Tg) (i : Nat) (J : DJ) (M : Md) (n : Nm) (w : World) (h : DS w g i J M) (hn : n.length ≤ 1000) (hk : J.kc ≤ 1000000) (hl : (fget M.seen n).length ≤ 1000000000) :
    Calls Tryz.prog 45 #[.pointer (some ⟨J.D, 0, none⟩), .string (str n)] w fun e w' => e = .returned (.tuple #[]) ∧ Hid (DS w' g i { J with kc := J.kc + 1 } (M.settle n)) ∧ Hid (St w w' g g (fun t => t = .d i ∨ t = .k i)) := by
  have hnm : n.length ≤ maxLen := by unfold maxLen; omega
  have c2 := h.c2
  obtain ⟨x, c, ox, _, look⟩ := h.fs.at n hnm
  have hl1 := (look w rfl).2
  cases hs : (M.seen n).isSome with
  | true =>
    rw [hs] at hl1
    clear look hs
    go_enter Tryz.func45, Tryz.ntmps45
    go_wp2_with fail
    refine (count_any g i J M n _ w h hn (wf_i64 (by omega) (by omega)) hk).mono ?_
    rintro e w1 ⟨rfl, HD, HS⟩
    go_wp2
    go_end0
    exact ⟨rfl, HD, HS⟩
  | false =>
    rw [hs] at hl1
    have H0 : Hid ((M.settle n).peaks n = 0) := by
      show (M.count n _).peaks n = 0
      have : M.seen n = none := by cases hm : M.seen n with | none => rfl | some v => rw [hm] at hs; cases hs
      simp [Md.count, upd_same, fget, this]
    clear look hs
    go_enter Tryz.func45, Tryz.ntmps45
    go_wp2_with fail
    refine (count_any g i J M n _ w h hn (wf_i64 (by omega) (by omega)) hk).mono ?_
    rintro e w1 ⟨rfl, HD, HS⟩
    have k4 := (unhide HD).c4
    simp only at k4
    obtain ⟨w2, hrun, pk2, g2⟩ := (unhide HD).pk.del n hnm 0
    simp only at hrun pk2 g2
    have HF := hide ((unhide HD).del n pk2 g2 (unhide H0))
    clear pk2 g2
    go_wp2_with (at_delete; refine wp_del_run _ rfl _ _ _ _ rfl _ _ rfl rfl _ hrun ?_)
    go_end0
    exact ⟨rfl, (unhide HF).1, (unhide HS).trans (unhide HF).2⟩

def Md.room? (M : Md) (n : Nm) (k : Nat) : Bool :=
  if (M.seen n).isNone && decide (4096 ≤ M.seenN) then false
  else decide (wrap64 (wrap64 (M.used - M.peaks n) + (if M.peaks n < ((fget M.seen n).length + k : Nat) then (((fget M.seen n).length + k : Nat) : Int) else M.peaks n)) ≤ M.room)

set_option maxRecDepth 20000 in
set_option maxHeartbeats 2000000 in
theorem room_any (g : Nat → Tg) (i : Nat) (J : DJ) (M : Md) (n : Nm) (k : Nat) (z : Int) (w : World) (h : DS w g i J M) (Hz : Hid (z = (k : Int))) (hn : n.length ≤ 1000) (hl : (fget M.seen n).length ≤ 1000000000) (hk : k ≤ 1000000000) (hc : M.seenN ≤ 1000000000) :
    Calls Tryz.prog 129 #[.pointer (some ⟨J.D, 0, none⟩), .string (str n), .int .i64 z] w fun e w' => e = .returned (.bool (M.room? n k)) ∧ Below w.heap.size w w' := by
  have hnm : n.length ≤ maxLen := by unfold maxLen; omega
  have c0 := h.c0
  have c2 := h.c2
  have c4 := h.c4
  have c5 := h.c5
  obtain ⟨x, c, ox, _, look⟩ := h.fs.at n hnm
  obtain ⟨_, pook⟩ := h.pk.at n hnm
  have hl1 := (look w rfl).2
  have hp1 := pook w rfl
  obtain ⟨D, hD1, hD2, _⟩ := h.fs
  have hz0 : 0 ≤ z := by rw [unhide Hz]; omega
  have hz1 : z ≤ 1000000000 := by rw [unhide Hz]; omega
  cases hs : (M.seen n).isSome with
  | true =>
    rw [hs] at hl1
    have HV : Hid (M.room? n k = decide (wrap64 (wrap64 (M.used - M.peaks n) + (if M.peaks n < ((fget M.seen n).length : Int) + z then ((fget M.seen n).length : Int) + z else M.peaks n)) ≤ M.room)) := by
      show _ = _
      unfold Md.room?
      rw [if_neg (by simp [Option.isSome_iff_ne_none.1 hs]), unhide Hz]
      simp only [Int.natCast_add]
    clear look hs pook
    by_cases hlt : M.peaks n < ((fget M.seen n).length : Int) + z
    · rw [if_pos hlt] at HV
      go_enter Tryz.func129, Tryz.ntmps129
      go_wp2_with fail
      go_quiet (fail)
      go_wp2
      go_ret
      exact ⟨by rw [unhide HV]; rfl, below_drewN (Below.refl _ _) nq⟩
    · rw [if_neg hlt] at HV
      have hlt2 : ((fget M.seen n).length : Int) + z ≤ M.peaks n := by omega
      clear hlt
      go_enter Tryz.func129, Tryz.ntmps129
      go_wp2_with fail
      go_quiet (fail)
      go_wp2
      go_ret
      exact ⟨by rw [unhide HV]; rfl, below_drewN (Below.refl _ _) nq⟩
  | false =>
    rw [hs] at hl1
    have hnone : M.seen n = none := by cases hm : M.seen n with | none => rfl | some v => rw [hm] at hs; cases hs
    have HF : Hid (fget M.seen n = []) := by show _ = _; simp [fget, hnone]
    have hlen := hD1.len Tryz.underlying75 3
    rw [hD2] at hlen
    clear hD1 hD2
    by_cases hmax : 4096 ≤ M.seenN
    · have HV : Hid (M.room? n k = false) := by
        show _ = _
        unfold Md.room?
        rw [if_pos (by simp [hnone, hmax])]
      have hes2 : (4096 : Int) ≤ (M.seenN : Int) := by omega
      clear look hs pook hmax hnone
      go_enter Tryz.func129, Tryz.ntmps129
      go_wp2
      go_ret
      exact ⟨by rw [unhide HV]; rfl, Below.refl _ _⟩
    · have HV : Hid (M.room? n k = decide (wrap64 (wrap64 (M.used - M.peaks n) + (if M.peaks n < ((fget M.seen n).length : Int) + z then ((fget M.seen n).length : Int) + z else M.peaks n)) ≤ M.room)) := by
        show _ = _
        unfold Md.room?
        rw [if_neg (by simp; omega), unhide Hz]
        simp only [Int.natCast_add]
      have hes2 : (M.seenN : Int) < 4096 := by omega
      clear look hs pook hmax hnone
      by_cases hlt : M.peaks n < ((fget M.seen n).length : Int) + z
      · rw [if_pos hlt] at HV
        go_enter Tryz.func129, Tryz.ntmps129
        go_wp2_with fail
        go_quiet (fail)
        go_wp2
        go_ret
        exact ⟨by rw [unhide HV]; rfl, below_drewN (Below.refl _ _) nq⟩
      · rw [if_neg hlt] at HV
        have hlt2 : ((fget M.seen n).length : Int) + z ≤ M.peaks n := by omega
        clear hlt
        go_enter Tryz.func129, Tryz.ntmps129
        go_wp2_with fail
        go_quiet (fail)
        go_wp2
        go_ret
        exact ⟨by rw [unhide HV]; rfl, below_drewN (Below.refl _ _) nq⟩
#print axioms room_any
end Go.Proofs.YtmcgghjeocnpnaaGreatDoor
end
