/-
  msg: what a value tells of a message.; msg: fieldsOf, isPush, isPatch.; msg: isPatch.
-/
import Derived.Test.YtmpjeahibfdehaaGreatDoorPkMtesbi
import Derived.Deep.DeepCutAuto
section
set_option linter.unusedVariables false
set_option maxRecDepth 1000000
namespace Go.Proofs.YtmpjeahibfdehaaGreatDoor
open Go.RowKit

theorem sz_items (x : List UInt8) (j : Js) (h : Sz j) : ∀ i ∈ iIn x j, Sz i := by
 have hg := sz_get x j h
 unfold jIn at hg
 unfold iIn
 generalize (gtM x j).getD Js.nul = g at hg ⊢
 obtain ⟨k, n, t, ns, is⟩ := g
 simp only [Sz] at hg
 exact (szs_iff is).1 hg.2.2.2.2.2
theorem sz_itlen (x : List UInt8) (j : Js) (h : Sz j) : (iIn x j).length ≤ 1000000 := by
 have hg := sz_get x j h
 unfold jIn at hg
 unfold iIn
 generalize (gtM x j).getD Js.nul = g at hg ⊢
 obtain ⟨k, n, t, ns, is⟩ := g
 simp only [Sz] at hg
 have := hg
 show is.length ≤ 1000000
 omega
theorem Tryz.infoL : (Tryz.prog.info? 28).map (fun i => (i.zero, i.size, i.bytes)) = some (some (.agg #[.string ByteArray.empty, .int .i64 0, .int .i64 0, .string ByteArray.empty, .string ByteArray.empty, .string ByteArray.empty]), 6, 80) := by kernel_rfl
theorem wp_appG (w : World) {ops : Array Oper} {rest : List Oper} {o : Oper} {a : Act} {Q : Exit → Act → World → Prop} (hgd : o.guard = none) (s x : Operand)
  (ho : o.op = .call { callee := .builtin .append, args := #[s, x], argTypes := #[22, 22] })
  (base : Nat) (a1 : Option Addr) (cap1 n1 : Nat) (xs : List Value) (hs : a.eval s = .slice a1 n1 cap1) (hown : w.ownsRow base 28 6 (.slice a1 n1 cap1) n1 xs)
  (B c2 : Nat) (zs : List Value) (hz5 : zs.length = 6) (hzo : ∀ u ∈ zs, u.oneCell' = true) (hx : a.eval x = .slice (some ⟨B, 0, none⟩) 1 c2) (hsrc : w.heap[B]? = some (.cells zs.toArray 28 (0, 0))) (hlen : n1 ≤ 1000000) (hb : base ≤ w.heap.size)
  (h : ∀ g cap w', Hid (w'.ownsRow base 28 6 (.slice (some ⟨g, 0, none⟩) (n1 + 1) cap) (n1 + 1) (xs ++ zs)) → Hid (w.grownBy w' (blk a1)) → Hid (blk a1 = some g ∨ g = w.heap.size) → Hid (g < w'.heap.size) → wpList Tryz.prog ops Q rest (a.put o.dst (.slice (some ⟨g, 0, none⟩) (n1 + 1) cap)) w') : wpList Tryz.prog ops Q (o :: rest) a w := by
 obtain ⟨i, hi, hz0, hz1, hz2⟩ := info_parts Tryz.infoL
 refine wpList_append_lies w hgd s x 22 ho base 28 i _ 6 80 Tryz.underlying22 hi hz0 hz1 hz2 rfl (by decide) _ _ _ hs hown ⟨B, 0, none⟩ 1 c2 zs hx (by rw [hz5]) ?_ hzo (by decide) (by unfold maxLen; omega) (by omega) hb _ rfl ?_
 ·intro j u hu
  rw [addr_add, Nat.zero_add, cell_of_row w B j _ _ _ hsrc]
  simpa using hu
 ·intro g cap w' h1 h2 h3 h4
  have hblk : (Value.slice a1 n1 cap1).ownBlock = blk a1 := by cases a1 <;> rfl
  rw [hblk] at h2 h3
  exact h g cap w' h1 h2 h3 h4
/-- A message in the midst of being read: q of its mutations are there. -/
def MgI (W : World) (G : Nat) (kd : Int) (cl : List UInt8) (x2 x3 x4 x5 : Int) (xs : List Lg) (q : Nat) (wr : World) : Prop := ∃ a2 c2, wr.heap[G]? = some (.cells #[.int .i64 kd, .string (str cl), .int .i64 x2, .int .i64 x3, .int .i64 x4, .int .i64 x5, .slice a2 q c2] 24 (0, 0)) ∧
 wr.ownsRow W.heap.size 28 6 (.slice a2 q c2) q ((xs.take q).flatMap lgC) ∧ Mv W wr G
theorem MgI.step {W wr I3 U w7 W8 : World} {G : Nat} {kd : Int} {cl : List UInt8} {x2 x3 x4 x5 : Int} {xs : List Lg} {q g cap : Nat} {a2 : Option Addr} {c2 : Nat} {x : Lg} (hG : G < W.heap.size) (hr : wr.heap[G]? = some (.cells #[.int .i64 kd, .string (str cl), .int .i64 x2, .int .i64 x3, .int .i64 x4, .int .i64 x5, .slice a2 q c2] 24 (0, 0)))
  (h2 : wr.ownsRow W.heap.size 28 6 (.slice a2 q c2) q ((xs.take q).flatMap lgC)) (hm : Mv W wr G) (hx : xs[q]? = some x) (b3 : Below wr.heap.size wr I3) (eU : U = I3.alloc (.cells (lgC x).toArray 28))
  (ho : w7.ownsRow W.heap.size 28 6 (.slice (some ⟨g, 0, none⟩) (q + 1) cap) (q + 1) ((xs.take q).flatMap lgC ++ lgC x)) (hg : U.grownBy w7 (blk a2)) (hat : blk a2 = some g ∨ g = U.heap.size) (e8 : W8 = w7.setCell ⟨G, 6, none⟩ (.slice (some ⟨g, 0, none⟩) (q + 1) cap)) :
  MgI W G kd cl x2 x3 x4 x5 xs (q + 1) W8 ∧ w7.heap[G]? = some (.cells #[.int .i64 kd, .string (str cl), .int .i64 x2, .int .i64 x3, .int .i64 x4, .int .i64 x5, .slice a2 q c2] 24 (0, 0)) := by
 have bU : Below I3.heap.size I3 U := by rw [eU]; exact bA _
 have s3 := b3.size
 have sU := bU.size
 have hGr := (aI hr).1
 have k2 : ∀ k, blk a2 = some k → W.heap.size ≤ k := fun k hk => (owns_lt h2 k hk).1
 have r7 := (hg.block G (by omega) (fun e => by have := k2 G e.symm; omega)).trans ((bU.block G (by omega)).trans ((b3.block G hGr).trans hr))
 have m7 : Mv W w7 G := mv_grown ((hm.trans (Mv.ofB b3)).trans (Mv.ofB bU)) hg k2
 have hgG : g ≠ G := by
  rintro rfl
  rcases hat with e | e
  ·have := k2 _ e; omega
  ·omega
 refine ⟨⟨some ⟨g, 0, none⟩, cap, by rw [e8]; exact hS6 r7, ?_, m7.trans (by rw [e8]; exact Mv.set _ _ _ _)⟩, r7⟩
 rw [List.take_add_one, hx, List.flatMap_append]
 refine owns_same (by simpa using ho) (fun k hk => ?_)
 obtain rfl : g = k := by simpa [blk] using hk
 rw [e8, Below.heap_setCell _ ⟨G, 6, none⟩ _ g hgG]
def msgIn (j : Js) : Mg := ⟨kdM (tIn [116, 121, 112, 101] j), tIn [99, 108, 105, 101, 110, 116] j, nIn [102, 114, 111, 109] j, nIn [99, 111, 111, 107, 105, 101] j, nIn [108, 97, 115, 116] j, nIn [116, 111, 112] j, (iIn [108, 105, 115, 116] j).map (fun i => if kdM (tIn [116, 121, 112, 101] j) = 1 then ⟨tIn [99, 108, 105, 101, 110, 116] j, (lgIn i).id, (lgIn i).m⟩ else lgIn i)⟩
set_option maxHeartbeats 64000000 in
theorem messageIn_any (j : Js) (v : Value) (w : World) (hJ : JV w (Al w) v j) (hz : Sz j) :
  Calls Tryz.prog 28 #[v] w fun e w' => ∃ a n c, e = .returned (mgV (msgIn j) a n c) ∧ Hid (LRow w' a n (msgIn j).l) ∧ Hid (Below w.heap.size w w') := by
 obtain ⟨k, n, t, a1, n1, c1, a2, n2, c2, rfl⟩ := hJ.form
 obtain ⟨X, hX⟩ : ∃ X, X = w.heap.size := ⟨_, rfl⟩
 obtain ⟨R, hR⟩ : ∃ R, R = w.heap.size + 1 := ⟨_, rfl⟩
 obtain ⟨W, hW⟩ : ∃ W, W = (w.alloc (.cells #[.int .i64 k, .int .i64 n, .string (str t), .slice a1 n1 c1, .slice a2 n2 c2] 44)).alloc (.cells #[.int .i64 0, .string ⟨#[]⟩, .int .i64 0, .int .i64 0, .int .i64 0, .int .i64 0, .slice none 0 0] 24) := ⟨_, rfl⟩
 have bW : Below w.heap.size w W := by rw [hW]; exact below2 w _ _
 have rX : W.heap[X]? = some (.cells #[.int .i64 k, .int .i64 n, .string (str t), .slice a1 n1 c1, .slice a2 n2 c2] 44 (0, 0)) := by
  rw [hW, hX, heap_alloc_old _ _ (by simp)]
  exact heap_alloc_new _ _
 have rR : W.heap[R]? = some (.cells #[.int .i64 0, .string ⟨#[]⟩, .int .i64 0, .int .i64 0, .int .i64 0, .int .i64 0, .slice none 0 0] 24 (0, 0)) := by
  rw [hW, hR]
  exact heap_alloc2_new _ _ _
 have HNE : Hid (X = w.heap.size ∧ R = w.heap.size + 1 ∧ W.heap.size = w.heap.size + 2) := ⟨hX, hR, by rw [hW]; simp⟩
 have hJW : JV W (Al W) _ j := hJ.al (fun k hk => hk) bW
 have HJX : Hid (∀ u, Below W.heap.size W u → JV u (Al u) _ j) := fun u hb => hJW.al (fun k hk => hk) hb
 have HZX := hide hz
 have HXX := hide rX
 have HRR := hide rR
 have HBW := hide bW
 have HS0 : Hid (∀ u, Below W.heap.size W u → (u.cell? ⟨X, 0, none⟩ = some (.int .i64 k) ∧ u.cell? ⟨X, 1, none⟩ = some (.int .i64 n) ∧ u.cell? ⟨X, 2, none⟩ = some (.string (str t)) ∧ u.cell? ⟨X, 3, none⟩ = some (.slice a1 n1 c1) ∧ u.cell? ⟨X, 4, none⟩ = some (.slice a2 n2 c2))) := fun u hb => by
  have r_X := (hb.block X (aI (uh HXX)).1).trans (uh HXX)
  exact ⟨cR6 r_X, cR6 r_X, cR6 r_X, cR6 r_X, cR6 r_X⟩
 have HTR : Hid (∀ u u', Hid (Below W.heap.size W u) → Hid (Below u.heap.size u u') → Hid (Below W.heap.size W u')) := fun u u' h h1 => (uh h).trans ((uh h1).mono (uh h).size)
 have HAB : Hid (∀ u ob, Hid (Below W.heap.size W u) → Hid (Below W.heap.size W (u.alloc ob))) := fun u ob h => (uh h).trans (((Below.refl _ _).alloc (Nat.le_refl _) ob).mono (uh h).size)
 have HTA : Hid (∀ u ob u', Hid (Below W.heap.size W u) → Hid (Below (u.alloc ob).heap.size (u.alloc ob) u') → Hid (Below W.heap.size W u')) := fun u ob u' h h1 => uh HTR _ _ (uh HAB u ob h) h1
 have HA0 : Hid (∀ u, Below W.heap.size W u → ∀ ob, ((u.alloc ob).cell? ⟨X, 0, none⟩ = some (.int .i64 k) ∧ (u.alloc ob).cell? ⟨X, 1, none⟩ = some (.int .i64 n) ∧ (u.alloc ob).cell? ⟨X, 2, none⟩ = some (.string (str t)) ∧ (u.alloc ob).cell? ⟨X, 3, none⟩ = some (.slice a1 n1 c1) ∧ (u.alloc ob).cell? ⟨X, 4, none⟩ = some (.slice a2 n2 c2))) := fun u hb ob => uh HS0 _ (uh (uh HAB u ob hb))
 have HGT : Hid (∀ u u' G, Hid (u.heap[G]? = some (.cells #[.int .i64 0, .string ⟨#[]⟩, .int .i64 0, .int .i64 0, .int .i64 0, .int .i64 0, .slice none 0 0] 24 (0, 0)) ∧ W.heap.size ≤ G) → Hid (Below u.heap.size u u') → Hid (u'.heap[G]? = some (.cells #[.int .i64 0, .string ⟨#[]⟩, .int .i64 0, .int .i64 0, .int .i64 0, .int .i64 0, .slice none 0 0] 24 (0, 0)) ∧ W.heap.size ≤ G)) := fun u u' G h h1 => ⟨((uh h1).block G (aI (uh h).1).1).trans (uh h).1, (uh h).2⟩
 have HGN : Hid (∀ u u', Hid (Below W.heap.size W u) → Hid (Below (u.alloc (.cells #[.int .i64 0, .string ⟨#[]⟩, .int .i64 0, .int .i64 0, .int .i64 0, .int .i64 0, .slice none 0 0] 24)).heap.size (u.alloc (.cells #[.int .i64 0, .string ⟨#[]⟩, .int .i64 0, .int .i64 0, .int .i64 0, .int .i64 0, .slice none 0 0] 24)) u') → Hid (u'.heap[u.heap.size]? = some (.cells #[.int .i64 0, .string ⟨#[]⟩, .int .i64 0, .int .i64 0, .int .i64 0, .int .i64 0, .slice none 0 0] 24 (0, 0)) ∧ W.heap.size ≤ u.heap.size)) := fun u u' h h1 => ⟨((uh h1).block _ (by simp)).trans (heap_alloc_new _ _), (uh h).size⟩
 have HS7 : Hid (∀ (u : World) (G : Nat), W.heap.size ≤ G → ∀ (y0 y1 y2 y3 y4 y5 y6 : Value), (u.cell? ⟨X, 0, none⟩ = some (.int .i64 k) ∧ u.cell? ⟨X, 1, none⟩ = some (.int .i64 n) ∧ u.cell? ⟨X, 2, none⟩ = some (.string (str t)) ∧ u.cell? ⟨X, 3, none⟩ = some (.slice a1 n1 c1) ∧ u.cell? ⟨X, 4, none⟩ = some (.slice a2 n2 c2)) → ((((((((u.setCell ⟨G, 0, none⟩ (y0)).setCell ⟨G, 1, none⟩ (y1)).setCell ⟨G, 2, none⟩ (y2)).setCell ⟨G, 3, none⟩ (y3)).setCell ⟨G, 4, none⟩ (y4)).setCell ⟨G, 5, none⟩ (y5)).setCell ⟨G, 6, none⟩ (y6)).cell? ⟨X, 0, none⟩ = some (.int .i64 k) ∧ (((((((u.setCell ⟨G, 0, none⟩ (y0)).setCell ⟨G, 1, none⟩ (y1)).setCell ⟨G, 2, none⟩ (y2)).setCell ⟨G, 3, none⟩ (y3)).setCell ⟨G, 4, none⟩ (y4)).setCell ⟨G, 5, none⟩ (y5)).setCell ⟨G, 6, none⟩ (y6)).cell? ⟨X, 1, none⟩ = some (.int .i64 n) ∧ (((((((u.setCell ⟨G, 0, none⟩ (y0)).setCell ⟨G, 1, none⟩ (y1)).setCell ⟨G, 2, none⟩ (y2)).setCell ⟨G, 3, none⟩ (y3)).setCell ⟨G, 4, none⟩ (y4)).setCell ⟨G, 5, none⟩ (y5)).setCell ⟨G, 6, none⟩ (y6)).cell? ⟨X, 2, none⟩ = some (.string (str t)) ∧ (((((((u.setCell ⟨G, 0, none⟩ (y0)).setCell ⟨G, 1, none⟩ (y1)).setCell ⟨G, 2, none⟩ (y2)).setCell ⟨G, 3, none⟩ (y3)).setCell ⟨G, 4, none⟩ (y4)).setCell ⟨G, 5, none⟩ (y5)).setCell ⟨G, 6, none⟩ (y6)).cell? ⟨X, 3, none⟩ = some (.slice a1 n1 c1) ∧ (((((((u.setCell ⟨G, 0, none⟩ (y0)).setCell ⟨G, 1, none⟩ (y1)).setCell ⟨G, 2, none⟩ (y2)).setCell ⟨G, 3, none⟩ (y3)).setCell ⟨G, 4, none⟩ (y4)).setCell ⟨G, 5, none⟩ (y5)).setCell ⟨G, 6, none⟩ (y6)).cell? ⟨X, 4, none⟩ = some (.slice a2 n2 c2))) := fun u G hG y0 y1 y2 y3 y4 y5 y6 h => by
  have ne := uh HNE
  have e : (((((((u.setCell ⟨G, 0, none⟩ (y0)).setCell ⟨G, 1, none⟩ (y1)).setCell ⟨G, 2, none⟩ (y2)).setCell ⟨G, 3, none⟩ (y3)).setCell ⟨G, 4, none⟩ (y4)).setCell ⟨G, 5, none⟩ (y5)).setCell ⟨G, 6, none⟩ (y6)).heap[X]? = u.heap[X]? := by rw [Below.heap_setCell _ ⟨G, 6, none⟩ _ X (show X ≠ G by omega)]; rw [Below.heap_setCell _ ⟨G, 5, none⟩ _ X (show X ≠ G by omega)]; rw [Below.heap_setCell _ ⟨G, 4, none⟩ _ X (show X ≠ G by omega)]; rw [Below.heap_setCell _ ⟨G, 3, none⟩ _ X (show X ≠ G by omega)]; rw [Below.heap_setCell _ ⟨G, 2, none⟩ _ X (show X ≠ G by omega)]; rw [Below.heap_setCell _ ⟨G, 1, none⟩ _ X (show X ≠ G by omega)]; rw [Below.heap_setCell _ ⟨G, 0, none⟩ _ X (show X ≠ G by omega)]
  obtain ⟨q0, q1, q2, q3, q4⟩ := h
  exact ⟨cell_keep e q0, cell_keep e q1, cell_keep e q2, cell_keep e q3, cell_keep e q4⟩
 have HFA : Hid (∀ u G, Hid (Below W.heap.size W u) → Hid (u.heap[G]? = some (.cells #[.int .i64 0, .string ⟨#[]⟩, .int .i64 0, .int .i64 0, .int .i64 0, .int .i64 0, .slice none 0 0] 24 (0, 0)) ∧ W.heap.size ≤ G) → Hid ((((((((u.setCell ⟨G, 0, none⟩ (.int .i64 (kdM (tIn [116, 121, 112, 101] j)))).setCell ⟨G, 1, none⟩ (.string (str (tIn [99, 108, 105, 101, 110, 116] j)))).setCell ⟨G, 2, none⟩ (.int .i64 (nIn [102, 114, 111, 109] j))).setCell ⟨G, 3, none⟩ (.int .i64 (nIn [99, 111, 111, 107, 105, 101] j))).setCell ⟨G, 4, none⟩ (.int .i64 (nIn [108, 97, 115, 116] j))).setCell ⟨G, 5, none⟩ (.int .i64 (nIn [116, 111, 112] j))).setCell ⟨G, 6, none⟩ (.slice none 0 0)).heap[G]? = some (.cells #[.int .i64 (kdM (tIn [116, 121, 112, 101] j)), .string (str (tIn [99, 108, 105, 101, 110, 116] j)), .int .i64 (nIn [102, 114, 111, 109] j), .int .i64 (nIn [99, 111, 111, 107, 105, 101] j), .int .i64 (nIn [108, 97, 115, 116] j), .int .i64 (nIn [116, 111, 112] j), .slice none 0 0] 24 (0, 0)) ∧ W.heap.size ≤ G ∧ Below W.heap.size W (((((((u.setCell ⟨G, 0, none⟩ (.int .i64 (kdM (tIn [116, 121, 112, 101] j)))).setCell ⟨G, 1, none⟩ (.string (str (tIn [99, 108, 105, 101, 110, 116] j)))).setCell ⟨G, 2, none⟩ (.int .i64 (nIn [102, 114, 111, 109] j))).setCell ⟨G, 3, none⟩ (.int .i64 (nIn [99, 111, 111, 107, 105, 101] j))).setCell ⟨G, 4, none⟩ (.int .i64 (nIn [108, 97, 115, 116] j))).setCell ⟨G, 5, none⟩ (.int .i64 (nIn [116, 111, 112] j))).setCell ⟨G, 6, none⟩ (.slice none 0 0)))) := fun u G hb hg => by
  obtain ⟨hg, q⟩ := uh hg
  have bu := uh hb
  exact ⟨hS6 (hS6 (hS6 (hS6 (hS6 (hS6 (hS6 hg)))))), q, ((((((bu.setCell q _).setCell q _).setCell q _).setCell q _).setCell q _).setCell q _).setCell q _⟩
 have HFB : Hid (∀ u, Hid (Below W.heap.size W u) → Hid ((u.alloc (.cells #[.int .i64 (kdM (tIn [116, 121, 112, 101] j)), .string (str (tIn [99, 108, 105, 101, 110, 116] j)), .int .i64 (nIn [102, 114, 111, 109] j), .int .i64 (nIn [99, 111, 111, 107, 105, 101] j), .int .i64 (nIn [108, 97, 115, 116] j), .int .i64 (nIn [116, 111, 112] j), .slice none 0 0] 24)).heap[u.heap.size]? = some (.cells #[.int .i64 (kdM (tIn [116, 121, 112, 101] j)), .string (str (tIn [99, 108, 105, 101, 110, 116] j)), .int .i64 (nIn [102, 114, 111, 109] j), .int .i64 (nIn [99, 111, 111, 107, 105, 101] j), .int .i64 (nIn [108, 97, 115, 116] j), .int .i64 (nIn [116, 111, 112] j), .slice none 0 0] 24 (0, 0)) ∧ W.heap.size ≤ u.heap.size ∧ Below W.heap.size W (u.alloc (.cells #[.int .i64 (kdM (tIn [116, 121, 112, 101] j)), .string (str (tIn [99, 108, 105, 101, 110, 116] j)), .int .i64 (nIn [102, 114, 111, 109] j), .int .i64 (nIn [99, 111, 111, 107, 105, 101] j), .int .i64 (nIn [108, 97, 115, 116] j), .int .i64 (nIn [116, 111, 112] j), .slice none 0 0] 24)))) := fun u hb => ⟨heap_alloc_new _ _, (uh hb).size, uh (uh HAB u _ hb)⟩
 have B0 : Hid (Below W.heap.size W W.drew) := Below.drew (Below.refl _ _)
 have s0 := uh HS0 W.drew (uh B0)
 have a0 := uh HA0 W.drew (uh B0)
 have BD : Hid (Below W.heap.size W (W.alloc (.cells #[.int .i64 0, .string ⟨#[]⟩, .int .i64 0, .int .i64 0, .int .i64 0, .int .i64 0, .slice none 0 0] 24)).drew) := Below.drew (bA _)
 have GD : Hid ((W.alloc (.cells #[.int .i64 0, .string ⟨#[]⟩, .int .i64 0, .int .i64 0, .int .i64 0, .int .i64 0, .slice none 0 0] 24)).drew.heap[W.heap.size]? = some (.cells #[.int .i64 0, .string ⟨#[]⟩, .int .i64 0, .int .i64 0, .int .i64 0, .int .i64 0, .slice none 0 0] 24 (0, 0)) ∧ W.heap.size ≤ W.heap.size) := ⟨heap_alloc_new W _, Nat.le_refl _⟩
 have aD := uh HS0 _ (uh BD)
 have tok0 := True.intro
 clear bW rX rR hJ hJW hz
 go_enter Tryz.func28, Tryz.ntmps28
 go_upto_region 1 with fail
 rw [← hW, ← hR, ← hX]
 clear hW hR hX
 go_cut [3] (fun s wx => ∃ G, s = .pointer (some ⟨G, 0, none⟩) ∧ Hid (wx.heap[G]? = some (.cells #[.int .i64 (kdM (tIn [116, 121, 112, 101] j)), .string (str (tIn [99, 108, 105, 101, 110, 116] j)), .int .i64 (nIn [102, 114, 111, 109] j), .int .i64 (nIn [99, 111, 111, 107, 105, 101] j), .int .i64 (nIn [108, 97, 115, 116] j), .int .i64 (nIn [116, 111, 112] j), .slice none 0 0] 24 (0, 0)) ∧ W.heap.size ≤ G ∧ Below W.heap.size W wx))
 case first =>
  go_region_held3 (fun w' => w'.cell? ⟨X, 0, none⟩ = some (.int .i64 k) ∧ w'.cell? ⟨X, 1, none⟩ = some (.int .i64 n) ∧ w'.cell? ⟨X, 2, none⟩ = some (.string (str t)) ∧ w'.cell? ⟨X, 3, none⟩ = some (.slice a1 n1 c1) ∧ w'.cell? ⟨X, 4, none⟩ = some (.slice a2 n2 c2)) (first | with_reducible exact aS | with_reducible exact s1 | with_reducible exact a1 _ | with_reducible exact s0 | with_reducible exact a0 _ | with_reducible exact aD) ((first
   | (go_at_call 66; have tk := tok6; refine (numIn_any [116, 111, 112] j _ _ (uh HJX _ (by first | exact uh ‹Hid (Below W.heap.size W _)› | exact uh (uh HAB _ _ ‹Hid (Below W.heap.size W _)›))) (uh HZX)).mono ?_; rintro e u1 ⟨rfl, h1⟩; (first | (have B1 := uh HTR _ _ ‹Hid (Below W.heap.size W _)› h1; try (have HG := uh HGT _ _ _ (by assumption) h1)) | (have B1 := uh HTA _ _ _ ‹Hid (Below W.heap.size W _)› h1; have HG := uh HGN _ _ ‹Hid (Below W.heap.size W _)› h1)); have s1 := uh HS0 _ (uh B1); have a1 := uh HA0 _ (uh B1); (try (have HG9 := HG; obtain ⟨g0, g1, g2, g3, g4, g5, g6⟩ := cells7 (uh HG9).1; have z0 := frozen_of_row _ _ 0 _ _ (uh HG9).1; have z1 := frozen_of_row _ _ 1 _ _ (uh HG9).1; have z2 := frozen_of_row _ _ 2 _ _ (uh HG9).1; have z3 := frozen_of_row _ _ 3 _ _ (uh HG9).1; have z4 := frozen_of_row _ _ 4 _ _ (uh HG9).1; have z5 := frozen_of_row _ _ 5 _ _ (uh HG9).1; have z6 := frozen_of_row _ _ 6 _ _ (uh HG9).1; have aS := uh HS7 _ _ (uh HG9).2 (.int .i64 (kdM (tIn [116, 121, 112, 101] j))) (.string (str (tIn [99, 108, 105, 101, 110, 116] j))) (.int .i64 (nIn [102, 114, 111, 109] j)) (.int .i64 (nIn [99, 111, 111, 107, 105, 101] j)) (.int .i64 (nIn [108, 97, 115, 116] j)) (.int .i64 (nIn [116, 111, 112] j)) (.slice none 0 0) s1)); have B9 := B1; have tok7 := True.intro)
   | (go_at_call 66; have tk := tok5; refine (numIn_any [108, 97, 115, 116] j _ _ (uh HJX _ (by first | exact uh ‹Hid (Below W.heap.size W _)› | exact uh (uh HAB _ _ ‹Hid (Below W.heap.size W _)›))) (uh HZX)).mono ?_; rintro e u1 ⟨rfl, h1⟩; (first | (have B1 := uh HTR _ _ ‹Hid (Below W.heap.size W _)› h1; try (have HG := uh HGT _ _ _ (by assumption) h1)) | (have B1 := uh HTA _ _ _ ‹Hid (Below W.heap.size W _)› h1; have HG := uh HGN _ _ ‹Hid (Below W.heap.size W _)› h1)); have s1 := uh HS0 _ (uh B1); have a1 := uh HA0 _ (uh B1); have tok6 := True.intro)
   | (go_at_call 66; have tk := tok4; refine (numIn_any [99, 111, 111, 107, 105, 101] j _ _ (uh HJX _ (by first | exact uh ‹Hid (Below W.heap.size W _)› | exact uh (uh HAB _ _ ‹Hid (Below W.heap.size W _)›))) (uh HZX)).mono ?_; rintro e u1 ⟨rfl, h1⟩; (first | (have B1 := uh HTR _ _ ‹Hid (Below W.heap.size W _)› h1; try (have HG := uh HGT _ _ _ (by assumption) h1)) | (have B1 := uh HTA _ _ _ ‹Hid (Below W.heap.size W _)› h1; have HG := uh HGN _ _ ‹Hid (Below W.heap.size W _)› h1)); have s1 := uh HS0 _ (uh B1); have a1 := uh HA0 _ (uh B1); have tok5 := True.intro)
   | (go_at_call 66; have tk := tok3; refine (numIn_any [102, 114, 111, 109] j _ _ (uh HJX _ (by first | exact uh ‹Hid (Below W.heap.size W _)› | exact uh (uh HAB _ _ ‹Hid (Below W.heap.size W _)›))) (uh HZX)).mono ?_; rintro e u1 ⟨rfl, h1⟩; (first | (have B1 := uh HTR _ _ ‹Hid (Below W.heap.size W _)› h1; try (have HG := uh HGT _ _ _ (by assumption) h1)) | (have B1 := uh HTA _ _ _ ‹Hid (Below W.heap.size W _)› h1; have HG := uh HGN _ _ ‹Hid (Below W.heap.size W _)› h1)); have s1 := uh HS0 _ (uh B1); have a1 := uh HA0 _ (uh B1); have tok4 := True.intro)
   | (go_at_call 65; have tk := tok2; refine (textIn_any [99, 108, 105, 101, 110, 116] j _ _ (uh HJX _ (by first | exact uh ‹Hid (Below W.heap.size W _)› | exact uh (uh HAB _ _ ‹Hid (Below W.heap.size W _)›))) (uh HZX)).mono ?_; rintro e u1 ⟨rfl, h1⟩; (first | (have B1 := uh HTR _ _ ‹Hid (Below W.heap.size W _)› h1; try (have HG := uh HGT _ _ _ (by assumption) h1)) | (have B1 := uh HTA _ _ _ ‹Hid (Below W.heap.size W _)› h1; have HG := uh HGN _ _ ‹Hid (Below W.heap.size W _)› h1)); have s1 := uh HS0 _ (uh B1); have a1 := uh HA0 _ (uh B1); have tok3 := True.intro)
   | (go_at_call 64; have tk := tok1; refine (kindOf_any _ _).mono ?_; rintro e u1 ⟨rfl, rfl⟩; have tok2 := True.intro)
   | (go_at_call 65; have tk := tok0; refine (textIn_any [116, 121, 112, 101] j _ _ (uh HJX _ (by first | exact uh ‹Hid (Below W.heap.size W _)› | exact uh (uh HAB _ _ ‹Hid (Below W.heap.size W _)›))) (uh HZX)).mono ?_; rintro e u1 ⟨rfl, h1⟩; (first | (have B1 := uh HTR _ _ ‹Hid (Below W.heap.size W _)› h1; try (have HG := uh HGT _ _ _ (by assumption) h1)) | (have B1 := uh HTA _ _ _ ‹Hid (Below W.heap.size W _)› h1; have HG := uh HGN _ _ ‹Hid (Below W.heap.size W _)› h1)); have s1 := uh HS0 _ (uh B1); have a1 := uh HA0 _ (uh B1); have tok1 := True.intro)))
  all_goals (go_wp2_with fail; go_meet; first | with_reducible exact ⟨_, rfl, uh HFA _ _ B9 HG9⟩ | exact ⟨_, rfl, uh HFB _ B9⟩)
 case rest =>
  obtain ⟨G, rfl, HG⟩ := hcut
  obtain ⟨hG1, hG2, hG3⟩ := uh HG
  obtain ⟨kd, hkd⟩ : ∃ kd, kd = kdM (tIn [116, 121, 112, 101] j) := ⟨_, rfl⟩
  obtain ⟨cl, hcl⟩ : ∃ cl, cl = tIn [99, 108, 105, 101, 110, 116] j := ⟨_, rfl⟩
  obtain ⟨x2, hx2⟩ : ∃ x, x = nIn [102, 114, 111, 109] j := ⟨_, rfl⟩
  obtain ⟨x3, hx3⟩ : ∃ x, x = nIn [99, 111, 111, 107, 105, 101] j := ⟨_, rfl⟩
  obtain ⟨x4, hx4⟩ : ∃ x, x = nIn [108, 97, 115, 116] j := ⟨_, rfl⟩
  obtain ⟨x5, hx5⟩ : ∃ x, x = nIn [116, 111, 112] j := ⟨_, rfl⟩
  rw [← hkd, ← hcl, ← hx2, ← hx3, ← hx4, ← hx5] at hG1
  obtain ⟨xs, hxs⟩ : ∃ xs, xs = (msgIn j).l := ⟨_, rfl⟩
  have HXS : Hid (xs = (iIn [108, 105, 115, 116] j).map (fun i => if kd = 1 then ⟨cl, (lgIn i).id, (lgIn i).m⟩ else lgIn i)) := by show _ = _; rw [hxs, hkd, hcl]; rfl
  have HMS : Hid (∀ a n c, .agg #[.int .i64 kd, .string (str cl), .int .i64 x2, .int .i64 x3, .int .i64 x4, .int .i64 x5, .slice a n c] = mgV (msgIn j) a n c) := fun a n c => by rw [hkd, hcl, hx2, hx3, hx4, hx5]; rfl
  have HIT := hide (itemsIn_any [108, 105, 115, 116] j _ wc (uh HJX wc hG3) (uh HZX))
  have HIZ : Hid (∀ i ∈ (iIn [108, 105, 115, 116] j), Sz i) := sz_items [108, 105, 115, 116] j (uh HZX)
  have HIL : Hid ((iIn [108, 105, 115, 116] j).length ≤ 1000000) := sz_itlen [108, 105, 115, 116] j (uh HZX)
  have HXE := hide hxs
  clear hkd hcl hx2 hx3 hx4 hx5 hxs
  obtain ⟨IS, hIS⟩ : ∃ IS, IS = iIn [108, 105, 115, 116] j := ⟨_, rfl⟩
  rw [← hIS] at HIT HIZ HIL HXS
  clear hIS
  have HGR := hide hG1
  have HGW := hide (And.intro hG2 hG3)
  obtain ⟨p0, p1, p2, p3, p4⟩ := uh HS0 wc hG3
  clear hG1 hG2 hG3 HG HS0 HTR HAB HTA HA0 HGT HGN HS7 HFA HFB B0 s0 a0 BD GD aD tok0 HJX HZX
  go_wp2_with fail
  refine (uh HIT).mono ?_
  rintro e u3 ⟨y1, m, d1, rfl, HJR, HB3⟩
  have HGR3 := hide (((uh HB3).block G (aI (uh HGR)).1).trans (uh HGR))
  have HGl : Hid (G < wc.heap.size ∧ wc.heap.size ≤ u3.heap.size) := ⟨(aI (uh HGR)).1, (uh HB3).size⟩
  have I0 : Hid (MgI u3 G kd cl x2 x3 x4 x5 xs 0 u3) := ⟨none, 0, uh HGR3, World.ownsRow_nil _ _ _ _, Mv.ofB (Below.refl _ _)⟩
  have HLX : Hid (m = xs.length ∧ m ≤ 1000000) := ⟨by rw [(uh HJR).1, uh HXS, List.length_map], by rw [(uh HJR).1]; exact uh HIL⟩
  clear HIT p0 p1 p2 p3 p4 HIL
  go_wp2_with fail
  go_loopw [24] (fun v wr => ∃ q : Nat, q ≤ m ∧ v = .int .i64 (q : Int) ∧ Hid (MgI u3 G kd cl x2 x3 x4 x5 xs q wr)) (fun v _ => m - (intOf v).toNat)
  case atStart => exact ⟨0, Nat.zero_le _, rfl, I0⟩
  case round =>
   obtain ⟨q, hq, rfl, HI⟩ := hrel
   clear I0
   by_cases hlt : q < m
   ·have hlt' : (q : Int) < (m : Int) := by omega
    obtain ⟨a9, c9, hr, ho9, hmv⟩ := uh HI
    obtain ⟨jn1, jn2, jn3, jn4, jn5⟩ := uh HJR
    obtain ⟨jq, hjq⟩ : ∃ jq, IS[q]? = some jq := ⟨_, List.getElem?_eq_getElem (by omega)⟩
    obtain ⟨b, off, v0, v1, v2, v3, v4, rfl, hSb, g0, g1, g2, g3, g4, hjv⟩ := (jvs_iff _ _ _ _ _).1 jn5 q jq hjq
    rw [Nat.zero_add] at g0 g1 g2 g3 g4
    obtain ⟨jk, jnn, jt, ja1, jl1, jc1, ja2, jl2, jc2, hf⟩ := hjv.form
    simp only [Value.agg.injEq, Array.mk.injEq, List.cons.injEq, and_true] at hf
    obtain ⟨rfl, rfl, rfl, rfl, rfl⟩ := hf
    have keepB : ∀ k, Nw wc u3 k → wr.heap[k]? = u3.heap[k]? := fun k hk => hmv.block k hk.2 (fun e => by have := Option.some.inj e; have := (uh HGl).1; have := hk.1; omega)
    have eb := keepB b hSb
    have g0' := cell_keep eb g0
    have g1' := cell_keep eb g1
    have g2' := cell_keep eb g2
    have g3' := cell_keep eb g3
    have g4' := cell_keep eb g4
    have hjr : JV wr (Al wr) _ jq := JV.keep (fun k hk => ⟨Nat.lt_of_lt_of_le hk.2 hmv.size, keepB k hk⟩) _ _ hjv
    obtain ⟨E5, hE5⟩ : ∃ E, E = wr.heap.size := ⟨_, rfl⟩
    obtain ⟨I1, hI1⟩ : ∃ I, I = wr.alloc (.cells #[.int .i64 jk, .int .i64 jnn, .string (str jt), .slice ja1 jl1 jc1, .slice ja2 jl2 jc2] 44) := ⟨_, rfl⟩
    have bI1 : Below wr.heap.size wr I1 := by rw [hI1]; exact bA _
    have rE5 : I1.heap[E5]? = some (.cells #[.int .i64 jk, .int .i64 jnn, .string (str jt), .slice ja1 jl1 jc1, .slice ja2 jl2 jc2] 44 (0, 0)) := by rw [hI1, hE5]; exact heap_alloc_new _ _
    have HLI := hide (loggedIn_any jq _ I1 (hjr.al (fun k hk => hk) bI1) (uh HIZ jq (List.mem_of_getElem? hjq)))
    obtain ⟨y, hy⟩ : ∃ y, y = lgIn jq := ⟨_, rfl⟩
    rw [← hy] at HLI
    unfold lgV at HLI
    have HXQ : Hid (xs[q]? = some (if kd = 1 then ⟨cl, y.id, y.m⟩ else y)) := by show _ = _; rw [uh HXS, List.getElem?_map, hjq, hy]; rfl
    obtain ⟨p0, p1, p2, p3, p4⟩ := cells5 rE5
    have HKEEP := hide (And.intro hr (And.intro ho9 (And.intro hmv bI1)))
    have hq9 : q ≤ 1000000 := by have := (uh HLX).2; omega
    clear hr ho9 hmv jn1 jn2 jn3 jn4 jn5 hjq hSb g0 g1 g2 g3 g4 hjv keepB eb hjr bI1 rE5 hy HI
    go_upto_region 5 with fail
    rw [← hI1, ← hE5]
    clear hI1 hE5 g0' g1' g2' g3' g4'
    go_wp2_with fail
    refine (uh HLI).mono ?_
    rintro e u5 ⟨rfl, h5⟩
    obtain ⟨Y, hY⟩ : ∃ Y, Y = u5.heap.size := ⟨_, rfl⟩
    obtain ⟨I2, hI2⟩ : ∃ I, I = u5.alloc (.cells #[.string (str y.c), .int .i64 y.id, .int .i64 y.m.k, .string (str y.m.i), .string (str y.m.n), .string (str y.m.t)] 28) := ⟨_, rfl⟩
    have b52 : Below u5.heap.size u5 I2 := by rw [hI2]; exact bA _
    have rY : I2.heap[Y]? = some (.cells #[.string (str y.c), .int .i64 y.id, .int .i64 y.m.k, .string (str y.m.i), .string (str y.m.n), .string (str y.m.t)] 28 (0, 0)) := by rw [hI2, hY]; exact heap_alloc_new _ _
    obtain ⟨hr, ho9, hmv, bI1⟩ := uh HKEEP
    have bI2 : Below wr.heap.size wr I2 := (bI1.trans ((uh h5).mono bI1.size)).trans (b52.mono (Nat.le_trans bI1.size (uh h5).size))
    have hYw : wr.heap.size ≤ Y := by rw [hY]; exact Nat.le_trans bI1.size (uh h5).size
    have rG2 := (bI2.block G (aI hr).1).trans hr
    have hGY : G ≠ Y := by have := (aI hr).1; omega
    have HB2 := hide bI2
    have HRY := hide rY
    have HRG2 := hide rG2
    have HYW := hide (And.intro hYw hGY)
    obtain ⟨p0', p1', p2', p3', p4', p5', p6'⟩ := cells7 rG2
    obtain ⟨y0, y1', y2, y3, y4, y5⟩ := cells6 rY
    clear hr ho9 hmv bI1 b52 bI2 rY rG2 hYw hGY HLI h5 p0 p1 p2 p3 p4
    go_upto_region 6 with fail
    rw [← hI2, ← hY]
    clear hI2 hY
    by_cases hk1 : kd = 1
    ·have q1 : (kd == 1) = true := by rw [beq_iff_eq]; exact hk1
     have HXQ1 : Hid (xs[q]? = some ⟨cl, y.id, y.m⟩) := by show _ = _; rw [uh HXQ, if_pos hk1]
     obtain ⟨x, hx⟩ : ∃ x : Lg, x = ⟨cl, y.id, y.m⟩ := ⟨_, rfl⟩
     obtain ⟨I3, hI3⟩ : ∃ I, I = I2.setCell ⟨Y, 0, none⟩ (.string (str cl)) := ⟨_, rfl⟩
     have zY := frozen_of_row I2 Y 0 _ _ (uh HRY)
     have b3 : Below wr.heap.size wr I3 := by rw [hI3]; exact (uh HB2).setCell (uh HYW).1 _
     have rY3 : I3.heap[Y]? = some (.cells #[.string (str x.c), .int .i64 x.id, .int .i64 x.m.k, .string (str x.m.i), .string (str x.m.n), .string (str x.m.t)] 28 (0, 0)) := by rw [hI3, hx]; exact hS6 (uh HRY)
     have rG3 : I3.heap[G]? = some (.cells #[.int .i64 kd, .string (str cl), .int .i64 x2, .int .i64 x3, .int .i64 x4, .int .i64 x5, .slice a9 q c9] 24 (0, 0)) := (by rw [hI3]; exact Below.heap_setCell _ ⟨Y, 0, none⟩ _ G (uh HYW).2 : I3.heap[G]? = I2.heap[G]?).trans (uh HRG2)
     have HXQ2 : Hid (xs[q]? = some x) := by rw [hx]; exact HXQ1
     clear hx hk1 HXQ HXQ1
     go_upto_region 8 with fail
     rw [← hI3]
     clear hI3 zY y0 y1' y2 y3 y4 y5 p0' p1' p2' p3' p4' p5' p6' q1
     obtain ⟨U, hU⟩ : ∃ U, U = I3.alloc (.cells #[.string (str x.c), .int .i64 x.id, .int .i64 x.m.k, .string (str x.m.i), .string (str x.m.n), .string (str x.m.t)] 28) := ⟨_, rfl⟩
     have bU : Below I3.heap.size I3 U := by rw [hU]; exact bA _
     have HU := hide hU
     have HRU := hide (show U.heap[I3.heap.size]? = some (.cells #[.string (str x.c), .int .i64 x.id, .int .i64 x.m.k, .string (str x.m.i), .string (str x.m.n), .string (str x.m.t)] 28 (0, 0)) by rw [hU]; exact heap_alloc_new _ _)
     have HOU := hide (show U.ownsRow u3.heap.size 28 6 (.slice a9 q c9) q ((xs.take q).flatMap lgC) from owns_same (uh HKEEP).2.1 (fun k hk => by
      have h1 := (owns_lt (uh HKEEP).2.1 k hk).2
      have h2 := b3.size
      exact (bU.block k (by omega)).trans (b3.block k h1)))
     have HZU : Hid (u3.heap.size ≤ U.heap.size) := Nat.le_trans (uh HKEEP).2.2.1.size (Nat.le_trans b3.size bU.size)
     have HB3' := hide b3
     obtain ⟨p0, p1, p2, p3, p4, p5, p6⟩ := cells7 rG3
     obtain ⟨t0, t1, t2, t3, t4, t5⟩ := cells6 rY3
     clear hU bU b3 rY3 rG3
     go_wp2_with (at_builtin; rw [← uh HU]; refine wp_appG U rfl _ _ rfl u3.heap.size a9 c9 q _ rfl (uh HOU) I3.heap.size 1 (lgC x) rfl (by simp [lgC, Value.oneCell']) rfl (uh HRU) hq9 (uh HZU) ?_)
     intro g cap w7 ho hg hat hgl
     obtain ⟨W8, h8⟩ : ∃ W8, W8 = w7.setCell ⟨G, 6, none⟩ (.slice (some ⟨g, 0, none⟩) (q + 1) cap) := ⟨_, rfl⟩
     have HST := hide (MgI.step (by have := uh HGl; omega) (uh HKEEP).1 (uh HKEEP).2.1 (uh HKEEP).2.2.1 (uh HXQ2) (uh HB3') (uh HU) (uh ho) (uh hg) (uh hat) h8)
     have d6 := (cells7 (uh HST).2).2.2.2.2.2.2
     have z6 := frozen_of_row w7 G 6 _ _ (uh HST).2
     clear HU HRU HOU HZU HB3' ho hg hat hgl p0 p1 p2 p3 p4 p5 p6 t0 t1 t2 t3 t4 t5 HKEEP HXQ2
     go_upto_region 9 with fail
     rw [← h8]
     clear h8 d6 z6
     go_wp2_with fail
     go_round
     case rel => exact ⟨q + 1, by omega, by go_num, (uh HST).1⟩
     case measure => simp [intOf]; omega
    ·have q1 : (kd == 1) = false := by rw [beq_eq_false_iff_ne]; exact hk1
     have HXQ2 : Hid (xs[q]? = some y) := by show _ = _; rw [uh HXQ, if_neg hk1]
     obtain ⟨x, hx⟩ : ∃ x : Lg, x = y := ⟨_, rfl⟩
     obtain ⟨I3, hI3⟩ : ∃ I, I = I2 := ⟨_, rfl⟩
     have b3 : Below wr.heap.size wr I3 := by rw [hI3]; exact uh HB2
     have rY3 : I3.heap[Y]? = some (.cells #[.string (str x.c), .int .i64 x.id, .int .i64 x.m.k, .string (str x.m.i), .string (str x.m.n), .string (str x.m.t)] 28 (0, 0)) := by rw [hI3, hx]; exact uh HRY
     have rG3 : I3.heap[G]? = some (.cells #[.int .i64 kd, .string (str cl), .int .i64 x2, .int .i64 x3, .int .i64 x4, .int .i64 x5, .slice a9 q c9] 24 (0, 0)) := by rw [hI3]; exact uh HRG2
     rw [← hx] at HXQ2
     clear hk1 HXQ
     go_upto_region 8 with fail
     rw [← hI3]
     clear hI3 y0 y1' y2 y3 y4 y5 p0' p1' p2' p3' p4' p5' p6' q1 hx
     obtain ⟨U, hU⟩ : ∃ U, U = I3.alloc (.cells #[.string (str x.c), .int .i64 x.id, .int .i64 x.m.k, .string (str x.m.i), .string (str x.m.n), .string (str x.m.t)] 28) := ⟨_, rfl⟩
     have bU : Below I3.heap.size I3 U := by rw [hU]; exact bA _
     have HU := hide hU
     have HRU := hide (show U.heap[I3.heap.size]? = some (.cells #[.string (str x.c), .int .i64 x.id, .int .i64 x.m.k, .string (str x.m.i), .string (str x.m.n), .string (str x.m.t)] 28 (0, 0)) by rw [hU]; exact heap_alloc_new _ _)
     have HOU := hide (show U.ownsRow u3.heap.size 28 6 (.slice a9 q c9) q ((xs.take q).flatMap lgC) from owns_same (uh HKEEP).2.1 (fun k hk => by
      have h1 := (owns_lt (uh HKEEP).2.1 k hk).2
      have h2 := b3.size
      exact (bU.block k (by omega)).trans (b3.block k h1)))
     have HZU : Hid (u3.heap.size ≤ U.heap.size) := Nat.le_trans (uh HKEEP).2.2.1.size (Nat.le_trans b3.size bU.size)
     have HB3' := hide b3
     obtain ⟨p0, p1, p2, p3, p4, p5, p6⟩ := cells7 rG3
     obtain ⟨t0, t1, t2, t3, t4, t5⟩ := cells6 rY3
     clear hU bU b3 rY3 rG3
     go_wp2_with (at_builtin; rw [← uh HU]; refine wp_appG U rfl _ _ rfl u3.heap.size a9 c9 q _ rfl (uh HOU) I3.heap.size 1 (lgC x) rfl (by simp [lgC, Value.oneCell']) rfl (uh HRU) hq9 (uh HZU) ?_)
     intro g cap w7 ho hg hat hgl
     obtain ⟨W8, h8⟩ : ∃ W8, W8 = w7.setCell ⟨G, 6, none⟩ (.slice (some ⟨g, 0, none⟩) (q + 1) cap) := ⟨_, rfl⟩
     have HST := hide (MgI.step (by have := uh HGl; omega) (uh HKEEP).1 (uh HKEEP).2.1 (uh HKEEP).2.2.1 (uh HXQ2) (uh HB3') (uh HU) (uh ho) (uh hg) (uh hat) h8)
     have d6 := (cells7 (uh HST).2).2.2.2.2.2.2
     have z6 := frozen_of_row w7 G 6 _ _ (uh HST).2
     clear HU HRU HOU HZU HB3' ho hg hat hgl p0 p1 p2 p3 p4 p5 p6 t0 t1 t2 t3 t4 t5 HKEEP HXQ2
     go_upto_region 9 with fail
     rw [← h8]
     clear h8 d6 z6
     go_wp2_with fail
     go_round
     case rel => exact ⟨q + 1, by omega, by go_num, (uh HST).1⟩
     case measure => simp [intOf]; omega
   ·have hlt' : ¬ (q : Int) < (m : Int) := by omega
    obtain rfl : q = m := by omega
    obtain ⟨a9, c9, hr, ho9, hmv⟩ := uh HI
    obtain ⟨p0, p1, p2, p3, p4, p5, p6⟩ := cells7 hr
    have n1 := uh HGl
    have n2 := uh HNE
    have n3 := uh HGW
    have n4 := uh HB3
    have hRG : R ≠ G := by have := n3.1; omega
    have rRc := (n3.2.block R (aI (uh HRR)).1).trans (uh HRR)
    have rR3 := (n4.block R (aI rRc).1).trans rRc
    have rR := (hmv.block R (aI rR3).1 (fun e => hRG (Option.some.inj e))).trans rR3
    obtain ⟨w9, h9⟩ : ∃ w9, w9 = ((((((wr.setCell ⟨R, 0, none⟩ (.int .i64 kd)).setCell ⟨R, 1, none⟩ (.string (str cl))).setCell ⟨R, 2, none⟩ (.int .i64 x2)).setCell ⟨R, 3, none⟩ (.int .i64 x3)).setCell ⟨R, 4, none⟩ (.int .i64 x4)).setCell ⟨R, 5, none⟩ (.int .i64 x5)).setCell ⟨R, 6, none⟩ (.slice a9 q c9) := ⟨_, rfl⟩
    have r9 : w9.heap[R]? = some (.cells #[.int .i64 kd, .string (str cl), .int .i64 x2, .int .i64 x3, .int .i64 x4, .int .i64 x5, .slice a9 q c9] 24 (0, 0)) := by
     rw [h9]
     exact hS6 (hS6 (hS6 (hS6 (hS6 (hS6 (hS6 rR))))))
    have k9 : ∀ k, k ≠ R → w9.heap[k]? = wr.heap[k]? := fun k hk => by rw [h9]; rw [Below.heap_setCell _ ⟨R, 6, none⟩ _ k hk]; rw [Below.heap_setCell _ ⟨R, 5, none⟩ _ k hk]; rw [Below.heap_setCell _ ⟨R, 4, none⟩ _ k hk]; rw [Below.heap_setCell _ ⟨R, 3, none⟩ _ k hk]; rw [Below.heap_setCell _ ⟨R, 2, none⟩ _ k hk]; rw [Below.heap_setCell _ ⟨R, 1, none⟩ _ k hk]; rw [Below.heap_setCell _ ⟨R, 0, none⟩ _ k hk]
    have HB9 : Hid (Below w.heap.size w w9) := by
     have b1 := (uh HBW).trans (n3.2.mono (uh HBW).size)
     have b2 := b1.trans (n4.mono b1.size)
     have b4 : Below w.heap.size w wr := ⟨hmv.os.trans b2.os, hmv.tape.trans b2.tape, hmv.output.trans b2.output, Nat.le_trans b2.size hmv.size, fun k hk => (hmv.block k (Nat.lt_of_lt_of_le hk b2.size) (fun e => by have := Option.some.inj e; have := (uh HBW).size; omega)).trans (b2.block k hk)⟩
     have q : w.heap.size ≤ R := by omega
     show Below _ _ _
     rw [h9]
     exact ((((((b4.setCell q _).setCell q _).setCell q _).setCell q _).setCell q _).setCell q _).setCell q _
    have HLW : Hid (LRow w9 a9 q xs) := by
     refine ⟨(uh HLX).1, fun hne => ?_⟩
     rcases owns_cases ho9 with ⟨_, _, h3, _⟩ | ⟨g, cur, rfl, hb2, hg, hle, hm2, hs2, ht, hl⟩
     ·exact absurd (List.eq_nil_of_length_eq_zero (by rw [← (uh HLX).1]; exact h3)) hne
     ·have gR : g ≠ R := by have := (aI rR3).1; omega
      refine ⟨g, 0, rfl, by rw [h9]; simp only [siz1]; exact (aI hg).1, fun i x hx r v hv => ?_⟩
      rw [Nat.zero_add]
      refine cell_keep (k9 g gR) (owns_cell ho9 (i * 6 + r) _ ?_).1
      rw [List.take_of_length_le (by rw [← (uh HLX).1]; exact Nat.le_refl _)]
      have hr6 : r < 6 := (List.getElem?_eq_some_iff.1 hv).1
      exact (fm_get lgC 6 (fun _ => rfl) xs i x hx r hr6).trans hv
    obtain ⟨rr0, rr1, rr2, rr3, rr4, rr5, rr6⟩ := cells7 rR
    obtain ⟨e0, e1, e2, e3, e4, e5, e6⟩ := cells7 r9
    have z0 := frozen_of_row wr R 0 _ _ rR
    have z1 := frozen_of_row wr R 1 _ _ rR
    have z2 := frozen_of_row wr R 2 _ _ rR
    have z3 := frozen_of_row wr R 3 _ _ rR
    have z4 := frozen_of_row wr R 4 _ _ rR
    have z5 := frozen_of_row wr R 5 _ _ rR
    have z6 := frozen_of_row wr R 6 _ _ rR
    have HML := hide (uh HXE)
    clear hr ho9 hmv n1 n2 n3 n4 rRc rR3 rR r9 k9 HI hRG
    go_wp2_with fail
    rw [← h9]
    clear h9
    refine ⟨rfl, _, by simp [results, Tryz.results28, go_sem, e0, e1, e2, e3, e4, e5, e6]; rfl, ?_⟩
    rw [uh HXE] at HLW
    exact ⟨a9, q, ⟨c9, by rw [← uh HMS]⟩, HLW, HB9⟩
end Go.Proofs.YtmpjeahibfdehaaGreatDoor
end
section
set_option linter.unusedVariables false
set_option maxRecDepth 1000000
namespace Go.Proofs.YtmpjeahibfdehaaGreatDoor
open Go.RowKit

def pushX (m : Mg) (i : Nat) (x : Lg) : Bool := mayLg x && decide (x.c = m.c) && decide (x.id = IntKind.i64.wrap ((m.l.head?.getD ⟨[], 0, 0, [], [], []⟩).id + (i : Int)))
def pAll (m : Mg) : Bool := (List.range m.l.length).all fun i => (m.l[i]?.map (pushX m i)).getD true
def isPushB (m : Mg) : Bool := decide (1 ≤ m.l.length) && decide (m.l.length ≤ 8) && pAll m
def isPatchB (m : Mg) : Bool := decide (m.l.length ≤ 8) && decide (∀ x ∈ m.l, mayLg x = true) && decide (0 ≤ m.fr) && decide (m.fr ≤ m.co) && decide (m.co ≤ m.top) && decide (m.top ≤ 1099511627776) && decide (m.co - m.fr = (m.l.length : Int)) && decide (0 ≤ m.la)
theorem pall_true {m : Mg} (h : ∀ i x, m.l[i]? = some x → pushX m i x = true) : pAll m = true := by
 unfold pAll
 rw [List.all_eq_true]
 intro i _
 cases hx : m.l[i]? with
 | none => rfl
 | some x => exact h i x hx
theorem pall_false {m : Mg} {i : Nat} {x : Lg} (hx : m.l[i]? = some x) (h : pushX m i x = false) : pAll m = false := by
 unfold pAll
 rw [List.all_eq_false]
 exact ⟨i, List.mem_range.2 (List.getElem?_eq_some_iff.1 hx).1, by rw [hx]; simp [h]⟩
set_option maxHeartbeats 4000000 in
theorem fieldsOf_any (m : Mg) (a : Option Addr) (n c : Nat) (w : World) :
  Calls Tryz.prog 50 #[mgV m a n c] w fun e w' => e = .returned (.agg #[.string (str m.c), .int .i64 m.fr, .int .i64 m.co, .int .i64 m.la, .int .i64 m.top, .int .i64 (n : Int)]) ∧ Hid (Below w.heap.size w w') := by
 unfold mgV
 obtain ⟨X, hX⟩ : ∃ X, X = w.heap.size := ⟨_, rfl⟩
 obtain ⟨R, hR⟩ : ∃ R, R = w.heap.size + 1 := ⟨_, rfl⟩
 obtain ⟨W, hW⟩ : ∃ W, W = (w.alloc (.cells #[.int .i64 m.k, .string (str m.c), .int .i64 m.fr, .int .i64 m.co, .int .i64 m.la, .int .i64 m.top, .slice a n c] 24)).alloc (.cells #[.string ⟨#[]⟩, .int .i64 0, .int .i64 0, .int .i64 0, .int .i64 0, .int .i64 0] 78) := ⟨_, rfl⟩
 have bW : Below w.heap.size w W := by rw [hW]; exact below2 w _ _
 have rX : W.heap[X]? = some (.cells #[.int .i64 m.k, .string (str m.c), .int .i64 m.fr, .int .i64 m.co, .int .i64 m.la, .int .i64 m.top, .slice a n c] 24 (0, 0)) := by
  rw [hW, hX, heap_alloc_old _ _ (by simp)]
  exact heap_alloc_new _ _
 have rR : W.heap[R]? = some (.cells #[.string ⟨#[]⟩, .int .i64 0, .int .i64 0, .int .i64 0, .int .i64 0, .int .i64 0] 78 (0, 0)) := by
  rw [hW, hR]
  exact heap_alloc2_new _ _ _
 obtain ⟨w9, h9⟩ : ∃ w9, w9 = (((((W.setCell ⟨R, 0, none⟩ (.string (str m.c))).setCell ⟨R, 1, none⟩ (.int .i64 m.fr)).setCell ⟨R, 2, none⟩ (.int .i64 m.co)).setCell ⟨R, 3, none⟩ (.int .i64 m.la)).setCell ⟨R, 4, none⟩ (.int .i64 m.top)).setCell ⟨R, 5, none⟩ (.int .i64 (n : Int)) := ⟨_, rfl⟩
 have r9 : w9.heap[R]? = some (.cells #[.string (str m.c), .int .i64 m.fr, .int .i64 m.co, .int .i64 m.la, .int .i64 m.top, .int .i64 (n : Int)] 78 (0, 0)) := by
  rw [h9]
  exact hS6 (hS6 (hS6 (hS6 (hS6 (hS6 rR)))))
 have HB : Hid (Below w.heap.size w w9) := by
  show Below _ _ _
  rw [h9]
  have q : w.heap.size ≤ R := by omega
  exact (((((bW.setCell q _).setCell q _).setCell q _).setCell q _).setCell q _).setCell q _
 obtain ⟨p0, p1, p2, p3, p4, p5, p6⟩ := cells7 rX
 obtain ⟨c0, c1, c2, c3, c4, c5⟩ := cells6 rR
 obtain ⟨e0, e1, e2, e3, e4, e5⟩ := cells6 r9
 have f0 := frozen_of_row W R 0 _ _ rR
 have f1 := frozen_of_row W R 1 _ _ rR
 have f2 := frozen_of_row W R 2 _ _ rR
 have f3 := frozen_of_row W R 3 _ _ rR
 have f4 := frozen_of_row W R 4 _ _ rR
 have f5 := frozen_of_row W R 5 _ _ rR
 clear bW rX rR r9
 go_enter Tryz.func50, Tryz.ntmps50
 go_upto_region 1 with fail
 rw [← hW, ← hR, ← hX]
 clear hW hR hX
 go_wp2_with fail
 rw [← h9]
 clear h9
 refine ⟨rfl, _, by simp [results, Tryz.results50, go_sem, e0, e1, e2, e3, e4, e5]; rfl, ?_⟩
 exact ⟨rfl, HB⟩
set_option maxHeartbeats 16000000 in
theorem isPush_any (m : Mg) (a : Option Addr) (n c : Nat) (w : World) (hT : Tb4 w) (hl : LRow w a n m.l) :
  Calls Tryz.prog 51 #[mgV m a n c] w fun e w' => e = .returned (.bool (isPushB m)) ∧ Hid (Below w.heap.size w w') := by
 unfold mgV
 obtain ⟨X, hX⟩ : ∃ X, X = w.heap.size := ⟨_, rfl⟩
 obtain ⟨W, hW⟩ : ∃ W, W = w.alloc (.cells #[.int .i64 m.k, .string (str m.c), .int .i64 m.fr, .int .i64 m.co, .int .i64 m.la, .int .i64 m.top, .slice a n c] 24) := ⟨_, rfl⟩
 have bW : Below w.heap.size w W := by rw [hW]; exact bA _
 have rX : W.heap[X]? = some (.cells #[.int .i64 m.k, .string (str m.c), .int .i64 m.fr, .int .i64 m.co, .int .i64 m.la, .int .i64 m.top, .slice a n c] 24 (0, 0)) := by rw [hW, hX]; exact heap_alloc_new _ _
 have HL := hide (hl.below bW)
 have HT := hide (hT.below bW)
 have HBW := hide bW
 have HX := hide rX
 have HN : Hid (n = m.l.length) := hl.1
 obtain ⟨p0, p1, p2, p3, p4, p5, p6⟩ := cells7 rX
 obtain ⟨E, hE⟩ : ∃ E, E = isPushB m := ⟨_, rfl⟩
 rw [← hE]
 unfold isPushB at hE
 have HE := hide hE
 clear hE bW rX hT hl
 by_cases h1 : n < 1
 ·have h1' : (n : Int) < 1 := by omega
  have HF : Hid (E = false) := by show _ = _; rw [uh HE, decide_eq_false (by have := uh HN; omega)]; rfl
  clear HE h1
  go_enter Tryz.func51, Tryz.ntmps51
  go_upto_region 1 with fail
  rw [← hW, ← hX]
  clear hW hX
  go_wp2_with fail
  go_ret
  exact ⟨by rw [uh HF]; try rfl, HBW⟩
 have h1' : ¬ (n : Int) < 1 := by omega
 by_cases h8 : 8 < n
 ·have h8' : (8 : Int) < (n : Int) := by omega
  have HF : Hid (E = false) := by show _ = _; rw [uh HE, decide_eq_false (show ¬ m.l.length ≤ 8 by have := uh HN; omega)]; simp
  clear HE h1
  go_enter Tryz.func51, Tryz.ntmps51
  go_upto_region 1 with fail
  rw [← hW, ← hX]
  clear hW hX
  go_wp2_with fail
  go_ret
  exact ⟨by rw [uh HF]; try rfl, HBW⟩
 have h8' : ¬ (8 : Int) < (n : Int) := by omega
 have HEE : Hid (E = pAll m) := by show _ = _; rw [uh HE, decide_eq_true (show 1 ≤ m.l.length by have := uh HN; omega), decide_eq_true (show m.l.length ≤ 8 by have := uh HN; omega)]; simp
 obtain ⟨x0, hx0⟩ : ∃ x0, m.l[0]? = some x0 := ⟨_, List.getElem?_eq_getElem (by have := uh HN; omega)⟩
 obtain ⟨b, off, rfl, hbl, hc0⟩ := (uh HL).2 (fun e => by rw [e] at hx0; simp at hx0)
 have HX0 := hide hx0
 have HHD : Hid ((m.l.head?.getD ⟨[], 0, 0, [], [], []⟩).id = x0.id) := by show _ = _; rw [List.head?_eq_getElem?, hx0]; rfl
 have gid : W.cell? ⟨b, off + 1, none⟩ = some (.int .i64 x0.id) := by have := hc0 0 x0 hx0 1 _ rfl; simpa using this
 have HGID := hide gid
 have HBL : Hid (b < W.heap.size) := hbl
 have hn1 : 0 < n := by omega
 have I0 : Hid (Below W.heap.size W W ∧ ∀ i x, i < 0 → m.l[i]? = some x → pushX m i x = true) := ⟨Below.refl _ _, fun i x hi => absurd hi (Nat.not_lt_zero _)⟩
 clear HE hx0 hbl hc0 gid h1 h8
 go_enter Tryz.func51, Tryz.ntmps51
 go_upto_region 1 with fail
 rw [← hW, ← hX]
 clear hW hX
 go_wp2_with fail
 clear p0 p1 p2 p3 p4 p5 p6
 go_loopw [18] (fun v wr => ∃ q : Nat, q ≤ n ∧ v = .int .i64 (q : Int) ∧ Hid (Below W.heap.size W wr ∧ ∀ i x, i < q → m.l[i]? = some x → pushX m i x = true)) (fun v _ => n - (intOf v).toNat)
 case atStart => exact ⟨0, Nat.zero_le _, rfl, I0⟩
 case round =>
  obtain ⟨q, hq, rfl, HI⟩ := hrel
  clear I0
  by_cases hlt : q < n
  ·have hlt' : (q : Int) < (n : Int) := by omega
   obtain ⟨x, hx⟩ : ∃ x, m.l[q]? = some x := ⟨_, List.getElem?_eq_getElem (by have := uh HN; omega)⟩
   have hbw := (uh HI).1
   obtain ⟨b', off', hbb, hbl', hc⟩ := ((uh HL).below hbw).2 (fun e => by rw [e] at hx; simp at hx)
   obtain ⟨rfl, rfl⟩ : b = b' ∧ off = off' := by simpa using hbb
   have g0 := hc q x hx 0 _ rfl
   have g1 := hc q x hx 1 _ rfl
   have g2 := hc q x hx 2 _ rfl
   have g3 := hc q x hx 3 _ rfl
   have g4 := hc q x hx 4 _ rfl
   have g5 := hc q x hx 5 _ rfl
   rw [Nat.add_zero] at g0
   obtain ⟨Y, hY⟩ : ∃ Y, Y = wr.heap.size := ⟨_, rfl⟩
   obtain ⟨V, hV⟩ : ∃ V, V = wr.alloc (.cells #[.string (str x.c), .int .i64 x.id, .int .i64 x.m.k, .string (str x.m.i), .string (str x.m.n), .string (str x.m.t)] 28) := ⟨_, rfl⟩
   have bV : Below wr.heap.size wr V := by rw [hV]; exact bA _
   have bWV : Below W.heap.size W V := hbw.trans (bV.mono hbw.size)
   have HRY := hide (show V.heap[Y]? = some (.cells #[.string (str x.c), .int .i64 x.id, .int .i64 x.m.k, .string (str x.m.i), .string (str x.m.n), .string (str x.m.t)] 28 (0, 0)) by rw [hV, hY]; exact heap_alloc_new _ _)
   have HRX := hide ((bWV.block X (aI (uh HX)).1).trans (uh HX))
   have HC0 : Hid (∀ u, Below V.heap.size V u → u.cell? ⟨b, off + 1, none⟩ = some (.int .i64 x0.id)) := fun u hb => cell_keep ((hb.block b (Nat.lt_of_lt_of_le (uh HBL) bWV.size)).trans (bWV.block b (uh HBL))) (uh HGID)
   have HS0 : Hid (∀ u, Below V.heap.size V u → (u.cell? ⟨Y, 0, none⟩ = some (.string (str x.c)) ∧ u.cell? ⟨Y, 1, none⟩ = some (.int .i64 x.id) ∧ u.cell? ⟨Y, 2, none⟩ = some (.int .i64 x.m.k) ∧ u.cell? ⟨Y, 3, none⟩ = some (.string (str x.m.i)) ∧ u.cell? ⟨Y, 4, none⟩ = some (.string (str x.m.n)) ∧ u.cell? ⟨Y, 5, none⟩ = some (.string (str x.m.t)) ∧ u.cell? ⟨X, 1, none⟩ = some (Value.string (str m.c)) ∧ u.cell? ⟨X, 6, none⟩ = some (Value.slice (some ⟨b, off, none⟩) n c) ∧ u.cell? ⟨b, off + 1, none⟩ = some (.int .i64 x0.id))) := fun u hb => by
    have r_Y := (hb.block Y (aI (uh HRY)).1).trans (uh HRY)
    have r_X := (hb.block X (aI (uh HRX)).1).trans (uh HRX)
    exact ⟨(cR6 r_Y), (cR6 r_Y), (cR6 r_Y), (cR6 r_Y), (cR6 r_Y), (cR6 r_Y), (cR6 r_X), (cR6 r_X), uh HC0 u hb⟩
   have s0 := uh HS0 V.drew (Below.drew (Below.refl _ _))
   have HTD : Hid (∀ u, Below V.heap.size V u → Calls Tryz.prog 29 #[lgV x] u fun e w' => e = .returned (.bool (mayLg x)) ∧ Hid (Below u.heap.size u w')) := fun u hb => told_any x u (((uh HT).below bWV).below hb)
   unfold lgV at HTD
   have HBV := hide bWV
   have HPX : Hid (pushX m q x = (mayLg x && decide (x.c = m.c) && decide (x.id = IntKind.i64.wrap (x0.id + (q : Int))))) := by show _ = _; unfold pushX; rw [uh HHD]
   have HXQ := hide hx
   have HNO : Hid (pushX m q x = false → E = false) := fun h => by
    rw [uh HEE]
    exact pall_false (uh HXQ) h
   have ec := str_is x.c m.c
   obtain ⟨zi, hzi⟩ : ∃ zi, zi = IntKind.i64.wrap (x0.id + (q : Int)) := ⟨_, rfl⟩
   rw [← hzi] at HPX
   have wz : IntKind.i64.wrap (x0.id + (q : Int)) = zi := hzi.symm
   clear hx hbw hbb hbl' hc bV bWV hzi
   go_upto_region 6 with fail
   rw [← hV, ← hY]
   clear hV hY g0 g1 g2 g3 g4 g5
   generalize mayLg x = bt at HTD HPX
   cases bt with
   | false =>
    clear ec wz
    have HEF := hide (uh HNO (by rw [uh HPX]; rfl))
    clear HNO HPX HEE HXQ HI
    obtain ⟨D, hD⟩ : ∃ D, D = V.drew := ⟨_, rfl⟩
    have HBD : Hid (Below V.heap.size V D) := by show Below _ _ _; rw [hD]; exact Below.drew (Below.refl _ _)
    refine wp_region_held_drew (S := fun w' => w'.cell? ⟨Y, 0, none⟩ = some (.string (str x.c)) ∧ w'.cell? ⟨Y, 1, none⟩ = some (.int .i64 x.id) ∧ w'.cell? ⟨Y, 2, none⟩ = some (.int .i64 x.m.k) ∧ w'.cell? ⟨Y, 3, none⟩ = some (.string (str x.m.i)) ∧ w'.cell? ⟨Y, 4, none⟩ = some (.string (str x.m.n)) ∧ w'.cell? ⟨Y, 5, none⟩ = some (.string (str x.m.t)) ∧ w'.cell? ⟨X, 1, none⟩ = some (Value.string (str m.c)) ∧ w'.cell? ⟨X, 6, none⟩ = some (Value.slice (some ⟨b, off, none⟩) n c) ∧ w'.cell? ⟨b, off + 1, none⟩ = some (.int .i64 x0.id)) (by kernel_rfl) (by rw [← hD]; exact uh HS0 D (uh HBD)) (fun hHeld => ?_)
    rw [← hD] at hHeld ⊢
    clear hD
    refine wpAnyH_take (i := 0) (oi := ?_) (v := ?_) ?_ (by kernel_rfl) ?_ ?_ ?_ ?_ hHeld ?_
    rotate_left 2
    ·(simp only [xq1, xq3]) <;> with_reducible rfl
    ·kernel_rfl
    ·kernel_rfl
    ·exact fun _ _ _ h => h
    ·exact Or.inl ⟨by rfl, by (intro w hSw; (try dsimp only at hSw); obtain ⟨b0, b1, b2, b3, b4, b5, b6, b7, b8⟩ := hSw; go_simp <;> with_reducible rfl)⟩
    simp only [Act.put, xq4, xq5, xq6]
    refine wpAnyH_ready (rs := [1]) (by kernel_rfl) (by simp) ?rda
    refine AllReadyH.cons (o := ?oa) ?ha (fun K hK => ?ba) AllReadyH.nil
    case ha => (simp only [xq1, xq2, xq3]) <;> with_reducible rfl
    case ba =>
     go_simp
     refine (uh HTD D (uh HBD)).mono ?_
     rintro e u1 ⟨rfl, h1⟩
     have B1 : Hid (Below V.heap.size V u1) := (uh HBD).trans ((uh h1).mono (uh HBD).size)
     clear h1
     refine hK.out _ _ (uh HS0 u1 (uh B1)) (fun hHeld => ?_)
     clear hK K
     try simp only [Act.put, xq4, xq5, xq6]
     refine wpAnyH_take (i := 2) (oi := ?_) (v := ?_) ?_ (by kernel_rfl) ?_ ?_ ?_ ?_ hHeld ?_
     rotate_left 2
     ·(simp only [xq1, xq2, xq3]) <;> with_reducible rfl
     ·kernel_rfl
     ·kernel_rfl
     ·exact fun _ _ _ h => h
     ·exact Or.inl ⟨by rfl, by (intro w hSw; (try dsimp only at hSw); obtain ⟨b0, b1, b2, b3, b4, b5, b6, b7, b8⟩ := hSw; go_simp <;> with_reducible rfl)⟩
     simp only [Act.put, xq4, xq5, xq6]
     refine wpAnyH_take (i := 3) (oi := ?_) (v := ?_) ?_ (by kernel_rfl) ?_ ?_ ?_ ?_ hHeld ?_
     rotate_left 2
     ·(simp only [xq1, xq2, xq3]) <;> with_reducible rfl
     ·kernel_rfl
     ·kernel_rfl
     ·exact fun _ _ _ h => h
     ·exact Or.inl ⟨by rfl, by (intro w hSw; (try dsimp only at hSw); obtain ⟨b0, b1, b2, b3, b4, b5, b6, b7, b8⟩ := hSw; go_simp <;> with_reducible rfl)⟩
     simp only [Act.put, xq4, xq5, xq6]
     refine wpAnyH_take (i := 4) (oi := ?_) (v := undef) ?_ (by kernel_rfl) ?_ ?_ ?_ ?_ hHeld ?_
     rotate_left 1
     ·(simp only [xq1, xq2, xq3]) <;> with_reducible rfl
     ·kernel_rfl
     ·kernel_rfl
     ·exact fun _ _ _ h => h
     ·exact Or.inr ⟨by rfl, rfl⟩
     simp only [Act.put, xq4, xq5, xq6]
     refine wpAnyH_take (i := 5) (oi := ?_) (v := undef) ?_ (by kernel_rfl) ?_ ?_ ?_ ?_ hHeld ?_
     rotate_left 1
     ·(simp only [xq1, xq2, xq3]) <;> with_reducible rfl
     ·kernel_rfl
     ·kernel_rfl
     ·exact fun _ _ _ h => h
     ·exact Or.inr ⟨by rfl, rfl⟩
     simp only [Act.put, xq4, xq5, xq6]
     refine wpAnyH_take (i := 6) (oi := ?_) (v := undef) ?_ (by kernel_rfl) ?_ ?_ ?_ ?_ hHeld ?_
     rotate_left 1
     ·(simp only [xq1, xq2, xq3]) <;> with_reducible rfl
     ·kernel_rfl
     ·kernel_rfl
     ·exact fun _ _ _ h => h
     ·exact Or.inr ⟨by rfl, rfl⟩
     simp only [Act.put, xq4, xq5, xq6]
     refine wpAnyH_take (i := 7) (oi := ?_) (v := undef) ?_ (by kernel_rfl) ?_ ?_ ?_ ?_ hHeld ?_
     rotate_left 1
     ·(simp only [xq1, xq2, xq3]) <;> with_reducible rfl
     ·kernel_rfl
     ·kernel_rfl
     ·exact fun _ _ _ h => h
     ·exact Or.inr ⟨by rfl, rfl⟩
     simp only [Act.put, xq4, xq5, xq6]
     refine wpAnyH_take (i := 8) (oi := ?_) (v := undef) ?_ (by kernel_rfl) ?_ ?_ ?_ ?_ hHeld ?_
     rotate_left 1
     ·(simp only [xq1, xq2, xq3]) <;> with_reducible rfl
     ·kernel_rfl
     ·kernel_rfl
     ·exact fun _ _ _ h => h
     ·exact Or.inr ⟨by rfl, rfl⟩
     simp only [Act.put, xq4, xq5, xq6]
     refine wpAnyH_take (i := 9) (oi := ?_) (v := ?_) ?_ (by kernel_rfl) ?_ ?_ ?_ ?_ hHeld ?_
     rotate_left 2
     ·(simp only [xq1, xq2, xq3]) <;> with_reducible rfl
     ·kernel_rfl
     ·kernel_rfl
     ·exact fun _ _ _ h => h
     ·exact Or.inl ⟨by rfl, by (intro w hSw; (try dsimp only at hSw); obtain ⟨b0, b1, b2, b3, b4, b5, b6, b7, b8⟩ := hSw; go_simp <;> with_reducible rfl)⟩
     simp only [Act.put, xq4, xq5, xq6]
     refine wpAnyH_take (i := 10) (oi := ?_) (v := ?_) ?_ (by kernel_rfl) ?_ ?_ ?_ ?_ hHeld ?_
     rotate_left 2
     ·(simp only [xq1, xq2, xq3]) <;> with_reducible rfl
     ·kernel_rfl
     ·kernel_rfl
     ·exact fun _ _ _ h => h
     ·exact Or.inl ⟨by rfl, by (intro w hSw; (try dsimp only at hSw); obtain ⟨b0, b1, b2, b3, b4, b5, b6, b7, b8⟩ := hSw; go_simp <;> with_reducible rfl)⟩
     simp only [Act.put, xq4, xq5, xq6]
     refine wpAnyH_take (i := 11) (oi := ?_) (v := undef) ?_ (by kernel_rfl) ?_ ?_ ?_ ?_ hHeld ?_
     rotate_left 1
     ·(simp only [xq1, xq2, xq3]) <;> with_reducible rfl
     ·kernel_rfl
     ·kernel_rfl
     ·exact fun _ _ _ h => h
     ·exact Or.inr ⟨by rfl, rfl⟩
     simp only [Act.put, xq4, xq5, xq6]
     refine wpAnyH_take (i := 12) (oi := ?_) (v := undef) ?_ (by kernel_rfl) ?_ ?_ ?_ ?_ hHeld ?_
     rotate_left 1
     ·(simp only [xq1, xq2, xq3]) <;> with_reducible rfl
     ·kernel_rfl
     ·kernel_rfl
     ·exact fun _ _ _ h => h
     ·exact Or.inr ⟨by rfl, rfl⟩
     simp only [Act.put, xq4, xq5, xq6]
     refine wpAnyH_take (i := 13) (oi := ?_) (v := undef) ?_ (by kernel_rfl) ?_ ?_ ?_ ?_ hHeld ?_
     rotate_left 1
     ·(simp only [xq1, xq2, xq3]) <;> with_reducible rfl
     ·kernel_rfl
     ·kernel_rfl
     ·exact fun _ _ _ h => h
     ·exact Or.inr ⟨by rfl, rfl⟩
     simp only [Act.put, xq4, xq5, xq6]
     refine wpAnyH_take (i := 14) (oi := ?_) (v := undef) ?_ (by kernel_rfl) ?_ ?_ ?_ ?_ hHeld ?_
     rotate_left 1
     ·(simp only [xq1, xq2, xq3]) <;> with_reducible rfl
     ·kernel_rfl
     ·kernel_rfl
     ·exact fun _ _ _ h => h
     ·exact Or.inr ⟨by rfl, rfl⟩
     simp only [Act.put, xq4, xq5, xq6]
     refine wpAnyH_take (i := 15) (oi := ?_) (v := undef) ?_ (by kernel_rfl) ?_ ?_ ?_ ?_ hHeld ?_
     rotate_left 1
     ·(simp only [xq1, xq2, xq3]) <;> with_reducible rfl
     ·kernel_rfl
     ·kernel_rfl
     ·exact fun _ _ _ h => h
     ·exact Or.inr ⟨by rfl, rfl⟩
     simp only [Act.put, xq4, xq5, xq6]
     refine wpAnyH_take (i := 16) (oi := ?_) (v := undef) ?_ (by kernel_rfl) ?_ ?_ ?_ ?_ hHeld ?_
     rotate_left 1
     ·(simp only [xq1, xq2, xq3]) <;> with_reducible rfl
     ·kernel_rfl
     ·kernel_rfl
     ·exact fun _ _ _ h => h
     ·exact Or.inr ⟨by rfl, rfl⟩
     simp only [Act.put, xq4, xq5, xq6]
     refine wpAnyH_take (i := 17) (oi := ?_) (v := undef) ?_ (by kernel_rfl) ?_ ?_ ?_ ?_ hHeld ?_
     rotate_left 1
     ·(simp only [xq1, xq2, xq3]) <;> with_reducible rfl
     ·kernel_rfl
     ·kernel_rfl
     ·exact fun _ _ _ h => h
     ·exact Or.inr ⟨by rfl, rfl⟩
     simp only [Act.put, xq4, xq5, xq6]
     refine wpAnyH_take (i := 18) (oi := ?_) (v := undef) ?_ (by kernel_rfl) ?_ ?_ ?_ ?_ hHeld ?_
     rotate_left 1
     ·(simp only [xq1, xq2, xq3]) <;> with_reducible rfl
     ·kernel_rfl
     ·kernel_rfl
     ·exact fun _ _ _ h => h
     ·exact Or.inr ⟨by rfl, rfl⟩
     simp only [Act.put, xq4, xq5, xq6]
     refine wpAnyH_take (i := 19) (oi := ?_) (v := undef) ?_ (by kernel_rfl) ?_ ?_ ?_ ?_ hHeld ?_
     rotate_left 1
     ·(simp only [xq1, xq2, xq3]) <;> with_reducible rfl
     ·kernel_rfl
     ·kernel_rfl
     ·exact fun _ _ _ h => h
     ·exact Or.inr ⟨by rfl, rfl⟩
     simp only [Act.put, xq4, xq5, xq6]
     refine wpAnyH_take (i := 20) (oi := ?_) (v := undef) ?_ (by kernel_rfl) ?_ ?_ ?_ ?_ hHeld ?_
     rotate_left 1
     ·(simp only [xq1, xq2, xq3]) <;> with_reducible rfl
     ·kernel_rfl
     ·kernel_rfl
     ·exact fun _ _ _ h => h
     ·exact Or.inr ⟨by rfl, rfl⟩
     simp only [Act.put, xq4, xq5, xq6]
     refine wpAnyH_take (i := 21) (oi := ?_) (v := ?_) ?_ (by kernel_rfl) ?_ ?_ ?_ ?_ hHeld ?_
     rotate_left 2
     ·(simp only [xq1, xq2, xq3]) <;> with_reducible rfl
     ·kernel_rfl
     ·kernel_rfl
     ·exact fun _ _ _ h => h
     ·exact Or.inl ⟨by rfl, by (intro w hSw; (try dsimp only at hSw); obtain ⟨b0, b1, b2, b3, b4, b5, b6, b7, b8⟩ := hSw; go_simp <;> with_reducible rfl)⟩
     simp only [Act.put, xq4, xq5, xq6]
     refine wpAnyH_done (by kernel_rfl) ?_ _
     go_wp2_with fail
     go_ret
     exact ⟨by rw [uh HEF]; try rfl, (uh HBW).trans (((uh HBV).trans ((uh B1).mono (uh HBV).size)).mono (uh HBW).size)⟩
   | true =>
    by_cases hc : x.c = m.c
    ·rw [decide_eq_true hc] at ec HPX
     have ec2 : ((str x.c).toList == (str m.c).toList) = true := by rw [toList_str, toList_str, hc]; simp
     by_cases hi : x.id = zi
     ·have ei : (x.id != zi) = false := by rw [hi]; simp
      have ei2 : (x.id == zi) = true := by rw [hi]; simp
      rw [decide_eq_true hi] at HPX
      clear hc hi ec
      have HIN : Hid (∀ i x, i < q + 1 → m.l[i]? = some x → pushX m i x = true) := fun i y hi hy => by
       by_cases hiq : i = q
       ·subst hiq
        rw [uh HXQ] at hy
        obtain rfl := Option.some.inj hy
        rw [uh HPX]; rfl
       ·exact (uh HI).2 i y (by omega) hy
      clear HNO HPX HXQ HI
      obtain ⟨D, hD⟩ : ∃ D, D = V.drew := ⟨_, rfl⟩
      have HBD : Hid (Below V.heap.size V D) := by show Below _ _ _; rw [hD]; exact Below.drew (Below.refl _ _)
      refine wp_region_held_drew (S := fun w' => w'.cell? ⟨Y, 0, none⟩ = some (.string (str x.c)) ∧ w'.cell? ⟨Y, 1, none⟩ = some (.int .i64 x.id) ∧ w'.cell? ⟨Y, 2, none⟩ = some (.int .i64 x.m.k) ∧ w'.cell? ⟨Y, 3, none⟩ = some (.string (str x.m.i)) ∧ w'.cell? ⟨Y, 4, none⟩ = some (.string (str x.m.n)) ∧ w'.cell? ⟨Y, 5, none⟩ = some (.string (str x.m.t)) ∧ w'.cell? ⟨X, 1, none⟩ = some (Value.string (str m.c)) ∧ w'.cell? ⟨X, 6, none⟩ = some (Value.slice (some ⟨b, off, none⟩) n c) ∧ w'.cell? ⟨b, off + 1, none⟩ = some (.int .i64 x0.id)) (by kernel_rfl) (by rw [← hD]; exact uh HS0 D (uh HBD)) (fun hHeld => ?_)
      rw [← hD] at hHeld ⊢
      clear hD
      refine wpAnyH_take (i := 0) (oi := ?_) (v := ?_) ?_ (by kernel_rfl) ?_ ?_ ?_ ?_ hHeld ?_
      rotate_left 2
      ·(simp only [xq1, xq3]) <;> with_reducible rfl
      ·kernel_rfl
      ·kernel_rfl
      ·exact fun _ _ _ h => h
      ·exact Or.inl ⟨by rfl, by (intro w hSw; (try dsimp only at hSw); obtain ⟨b0, b1, b2, b3, b4, b5, b6, b7, b8⟩ := hSw; go_simp <;> with_reducible rfl)⟩
      simp only [Act.put, xq4, xq5, xq6]
      refine wpAnyH_ready (rs := [1]) (by kernel_rfl) (by simp) ?rdd
      refine AllReadyH.cons (o := ?od) ?hd (fun K hK => ?bd) AllReadyH.nil
      case hd => (simp only [xq1, xq2, xq3]) <;> with_reducible rfl
      case bd =>
       go_simp
       refine (uh HTD D (uh HBD)).mono ?_
       rintro e u1 ⟨rfl, h1⟩
       have B1 : Hid (Below V.heap.size V u1) := (uh HBD).trans ((uh h1).mono (uh HBD).size)
       clear h1
       refine hK.out _ _ (uh HS0 u1 (uh B1)) (fun hHeld => ?_)
       clear hK K
       try simp only [Act.put, xq4, xq5, xq6]
       refine wpAnyH_take (i := 2) (oi := ?_) (v := ?_) ?_ (by kernel_rfl) ?_ ?_ ?_ ?_ hHeld ?_
       rotate_left 2
       ·(simp only [xq1, xq2, xq3]) <;> with_reducible rfl
       ·kernel_rfl
       ·kernel_rfl
       ·exact fun _ _ _ h => h
       ·exact Or.inl ⟨by rfl, by (intro w hSw; (try dsimp only at hSw); obtain ⟨b0, b1, b2, b3, b4, b5, b6, b7, b8⟩ := hSw; go_simp <;> with_reducible rfl)⟩
       simp only [Act.put, xq4, xq5, xq6]
       refine wpAnyH_take (i := 3) (oi := ?_) (v := ?_) ?_ (by kernel_rfl) ?_ ?_ ?_ ?_ hHeld ?_
       rotate_left 2
       ·(simp only [xq1, xq2, xq3]) <;> with_reducible rfl
       ·kernel_rfl
       ·kernel_rfl
       ·exact fun _ _ _ h => h
       ·exact Or.inl ⟨by rfl, by (intro w hSw; (try dsimp only at hSw); obtain ⟨b0, b1, b2, b3, b4, b5, b6, b7, b8⟩ := hSw; go_simp <;> with_reducible rfl)⟩
       simp only [Act.put, xq4, xq5, xq6]
       refine wpAnyH_take (i := 4) (oi := ?_) (v := ?_) ?_ (by kernel_rfl) ?_ ?_ ?_ ?_ hHeld ?_
       rotate_left 2
       ·(simp only [xq1, xq2, xq3]) <;> with_reducible rfl
       ·kernel_rfl
       ·kernel_rfl
       ·exact fun _ _ _ h => h
       ·exact Or.inl ⟨by rfl, by (intro w hSw; (try dsimp only at hSw); obtain ⟨b0, b1, b2, b3, b4, b5, b6, b7, b8⟩ := hSw; go_simp <;> with_reducible rfl)⟩
       simp only [Act.put, xq4, xq5, xq6]
       refine wpAnyH_take (i := 5) (oi := ?_) (v := ?_) ?_ (by kernel_rfl) ?_ ?_ ?_ ?_ hHeld ?_
       rotate_left 2
       ·(simp only [xq1, xq2, xq3]) <;> with_reducible rfl
       ·kernel_rfl
       ·kernel_rfl
       ·exact fun _ _ _ h => h
       ·exact Or.inl ⟨by rfl, by (intro w hSw; (try dsimp only at hSw); obtain ⟨b0, b1, b2, b3, b4, b5, b6, b7, b8⟩ := hSw; go_simp <;> with_reducible rfl)⟩
       simp only [Act.put, xq4, xq5, xq6]
       refine wpAnyH_take (i := 6) (oi := ?_) (v := ?_) ?_ (by kernel_rfl) ?_ ?_ ?_ ?_ hHeld ?_
       rotate_left 2
       ·(simp only [xq1, xq2, xq3]) <;> with_reducible rfl
       ·kernel_rfl
       ·kernel_rfl
       ·exact fun _ _ _ h => h
       ·exact Or.inl ⟨by rfl, by (intro w hSw; (try dsimp only at hSw); obtain ⟨b0, b1, b2, b3, b4, b5, b6, b7, b8⟩ := hSw; go_simp <;> with_reducible rfl)⟩
       simp only [Act.put, xq4, xq5, xq6]
       refine wpAnyH_take (i := 7) (oi := ?_) (v := ?_) ?_ (by kernel_rfl) ?_ ?_ ?_ ?_ hHeld ?_
       rotate_left 2
       ·(simp only [xq1, xq2, xq3]) <;> with_reducible rfl
       ·kernel_rfl
       ·kernel_rfl
       ·exact fun _ _ _ h => h
       ·exact Or.inl ⟨by rfl, by (intro w hSw; (try dsimp only at hSw); obtain ⟨b0, b1, b2, b3, b4, b5, b6, b7, b8⟩ := hSw; go_simp <;> with_reducible rfl)⟩
       simp only [Act.put, xq4, xq5, xq6]
       refine wpAnyH_take (i := 8) (oi := ?_) (v := ?_) ?_ (by kernel_rfl) ?_ ?_ ?_ ?_ hHeld ?_
       rotate_left 2
       ·(simp only [xq1, xq2, xq3]) <;> with_reducible rfl
       ·kernel_rfl
       ·kernel_rfl
       ·exact fun _ _ _ h => h
       ·exact Or.inl ⟨by rfl, by (intro w hSw; (try dsimp only at hSw); obtain ⟨b0, b1, b2, b3, b4, b5, b6, b7, b8⟩ := hSw; go_simp <;> with_reducible rfl)⟩
       simp only [Act.put, xq4, xq5, xq6]
       refine wpAnyH_take (i := 9) (oi := ?_) (v := ?_) ?_ (by kernel_rfl) ?_ ?_ ?_ ?_ hHeld ?_
       rotate_left 2
       ·(simp only [xq1, xq2, xq3]) <;> with_reducible rfl
       ·kernel_rfl
       ·kernel_rfl
       ·exact fun _ _ _ h => h
       ·exact Or.inl ⟨by rfl, by (intro w hSw; (try dsimp only at hSw); obtain ⟨b0, b1, b2, b3, b4, b5, b6, b7, b8⟩ := hSw; go_simp <;> with_reducible rfl)⟩
       simp only [Act.put, xq4, xq5, xq6]
       refine wpAnyH_take (i := 10) (oi := ?_) (v := ?_) ?_ (by kernel_rfl) ?_ ?_ ?_ ?_ hHeld ?_
       rotate_left 2
       ·(simp only [xq1, xq2, xq3]) <;> with_reducible rfl
       ·kernel_rfl
       ·kernel_rfl
       ·exact fun _ _ _ h => h
       ·exact Or.inl ⟨by rfl, by (intro w hSw; (try dsimp only at hSw); obtain ⟨b0, b1, b2, b3, b4, b5, b6, b7, b8⟩ := hSw; go_simp <;> with_reducible rfl)⟩
       simp only [Act.put, xq4, xq5, xq6]
       refine wpAnyH_take (i := 11) (oi := ?_) (v := ?_) ?_ (by kernel_rfl) ?_ ?_ ?_ ?_ hHeld ?_
       rotate_left 2
       ·(simp only [xq1, xq2, xq3]) <;> with_reducible rfl
       ·kernel_rfl
       ·kernel_rfl
       ·exact fun _ _ _ h => h
       ·exact Or.inl ⟨by rfl, by (intro w hSw; (try dsimp only at hSw); obtain ⟨b0, b1, b2, b3, b4, b5, b6, b7, b8⟩ := hSw; go_simp <;> with_reducible rfl)⟩
       simp only [Act.put, xq4, xq5, xq6]
       refine wpAnyH_take (i := 12) (oi := ?_) (v := ?_) ?_ (by kernel_rfl) ?_ ?_ ?_ ?_ hHeld ?_
       rotate_left 2
       ·(simp only [xq1, xq2, xq3]) <;> with_reducible rfl
       ·kernel_rfl
       ·kernel_rfl
       ·exact fun _ _ _ h => h
       ·exact Or.inl ⟨by rfl, by (intro w hSw; (try dsimp only at hSw); obtain ⟨b0, b1, b2, b3, b4, b5, b6, b7, b8⟩ := hSw; go_simp <;> with_reducible rfl)⟩
       simp only [Act.put, xq4, xq5, xq6]
       refine wpAnyH_take (i := 13) (oi := ?_) (v := ?_) ?_ (by kernel_rfl) ?_ ?_ ?_ ?_ hHeld ?_
       rotate_left 2
       ·(simp only [xq1, xq2, xq3]) <;> with_reducible rfl
       ·kernel_rfl
       ·kernel_rfl
       ·exact fun _ _ _ h => h
       ·exact Or.inl ⟨by rfl, by (intro w hSw; (try dsimp only at hSw); obtain ⟨b0, b1, b2, b3, b4, b5, b6, b7, b8⟩ := hSw; go_simp <;> with_reducible rfl)⟩
       simp only [Act.put, xq4, xq5, xq6]
       refine wpAnyH_take (i := 14) (oi := ?_) (v := ?_) ?_ (by kernel_rfl) ?_ ?_ ?_ ?_ hHeld ?_
       rotate_left 2
       ·(simp only [xq1, xq2, xq3]) <;> with_reducible rfl
       ·kernel_rfl
       ·kernel_rfl
       ·exact fun _ _ _ h => h
       ·exact Or.inl ⟨by rfl, by (intro w hSw; (try dsimp only at hSw); obtain ⟨b0, b1, b2, b3, b4, b5, b6, b7, b8⟩ := hSw; go_simp <;> with_reducible rfl)⟩
       simp only [Act.put, xq4, xq5, xq6]
       refine wpAnyH_take (i := 15) (oi := ?_) (v := ?_) ?_ (by kernel_rfl) ?_ ?_ ?_ ?_ hHeld ?_
       rotate_left 2
       ·(simp only [xq1, xq2, xq3]) <;> with_reducible rfl
       ·kernel_rfl
       ·kernel_rfl
       ·exact fun _ _ _ h => h
       ·exact Or.inl ⟨by rfl, by (intro w hSw; (try dsimp only at hSw); obtain ⟨b0, b1, b2, b3, b4, b5, b6, b7, b8⟩ := hSw; go_simp <;> with_reducible rfl)⟩
       simp only [Act.put, xq4, xq5, xq6]
       refine wpAnyH_take (i := 16) (oi := ?_) (v := ?_) ?_ (by kernel_rfl) ?_ ?_ ?_ ?_ hHeld ?_
       rotate_left 2
       ·(simp only [xq1, xq2, xq3]) <;> with_reducible rfl
       ·kernel_rfl
       ·kernel_rfl
       ·exact fun _ _ _ h => h
       ·exact Or.inl ⟨by rfl, by (intro w hSw; (try dsimp only at hSw); obtain ⟨b0, b1, b2, b3, b4, b5, b6, b7, b8⟩ := hSw; go_simp <;> with_reducible rfl)⟩
       simp only [Act.put, xq4, xq5, xq6]
       refine wpAnyH_take (i := 17) (oi := ?_) (v := ?_) ?_ (by kernel_rfl) ?_ ?_ ?_ ?_ hHeld ?_
       rotate_left 2
       ·(simp only [xq1, xq2, xq3]) <;> with_reducible rfl
       ·kernel_rfl
       ·kernel_rfl
       ·exact fun _ _ _ h => h
       ·exact Or.inl ⟨by rfl, by (intro w hSw; (try dsimp only at hSw); obtain ⟨b0, b1, b2, b3, b4, b5, b6, b7, b8⟩ := hSw; go_simp <;> with_reducible rfl)⟩
       simp only [Act.put, xq4, xq5, xq6]
       refine wpAnyH_take (i := 18) (oi := ?_) (v := ?_) ?_ (by kernel_rfl) ?_ ?_ ?_ ?_ hHeld ?_
       rotate_left 2
       ·(simp only [xq1, xq2, xq3]) <;> with_reducible rfl
       ·kernel_rfl
       ·kernel_rfl
       ·exact fun _ _ _ h => h
       ·exact Or.inl ⟨by rfl, by (intro w hSw; (try dsimp only at hSw); obtain ⟨b0, b1, b2, b3, b4, b5, b6, b7, b8⟩ := hSw; go_simp <;> with_reducible rfl)⟩
       simp only [Act.put, xq4, xq5, xq6]
       refine wpAnyH_take (i := 19) (oi := ?_) (v := ?_) ?_ (by kernel_rfl) ?_ ?_ ?_ ?_ hHeld ?_
       rotate_left 2
       ·(simp only [xq1, xq2, xq3]) <;> with_reducible rfl
       ·kernel_rfl
       ·kernel_rfl
       ·exact fun _ _ _ h => h
       ·exact Or.inl ⟨by rfl, by (intro w hSw; (try dsimp only at hSw); obtain ⟨b0, b1, b2, b3, b4, b5, b6, b7, b8⟩ := hSw; go_simp <;> with_reducible rfl)⟩
       simp only [Act.put, xq4, xq5, xq6]
       refine wpAnyH_take (i := 20) (oi := ?_) (v := ?_) ?_ (by kernel_rfl) ?_ ?_ ?_ ?_ hHeld ?_
       rotate_left 2
       ·(simp only [xq1, xq2, xq3]) <;> with_reducible rfl
       ·kernel_rfl
       ·kernel_rfl
       ·exact fun _ _ _ h => h
       ·exact Or.inl ⟨by rfl, by (intro w hSw; (try dsimp only at hSw); obtain ⟨b0, b1, b2, b3, b4, b5, b6, b7, b8⟩ := hSw; go_simp <;> with_reducible rfl)⟩
       simp only [Act.put, xq4, xq5, xq6]
       refine wpAnyH_take (i := 21) (oi := ?_) (v := ?_) ?_ (by kernel_rfl) ?_ ?_ ?_ ?_ hHeld ?_
       rotate_left 2
       ·(simp only [xq1, xq2, xq3]) <;> with_reducible rfl
       ·kernel_rfl
       ·kernel_rfl
       ·exact fun _ _ _ h => h
       ·exact Or.inl ⟨by rfl, by (intro w hSw; (try dsimp only at hSw); obtain ⟨b0, b1, b2, b3, b4, b5, b6, b7, b8⟩ := hSw; go_simp <;> with_reducible rfl)⟩
       simp only [Act.put, xq4, xq5, xq6]
       refine wpAnyH_done (by kernel_rfl) ?_ _
       go_wp2_with fail
       go_round
       case rel => exact ⟨q + 1, by omega, by go_num, ⟨(uh HBV).trans ((uh B1).mono (uh HBV).size), uh HIN⟩⟩
       case measure => simp [intOf]; omega
     ·have ei : (x.id != zi) = true := by simp [hi]
      have ei2 : (x.id == zi) = false := by simpa using hi
      rw [decide_eq_false hi] at HPX
      clear hc hi ec
      have HEF := hide (uh HNO (by rw [uh HPX]; rfl))
      clear HNO HPX HEE HXQ HI
      obtain ⟨D, hD⟩ : ∃ D, D = V.drew := ⟨_, rfl⟩
      have HBD : Hid (Below V.heap.size V D) := by show Below _ _ _; rw [hD]; exact Below.drew (Below.refl _ _)
      refine wp_region_held_drew (S := fun w' => w'.cell? ⟨Y, 0, none⟩ = some (.string (str x.c)) ∧ w'.cell? ⟨Y, 1, none⟩ = some (.int .i64 x.id) ∧ w'.cell? ⟨Y, 2, none⟩ = some (.int .i64 x.m.k) ∧ w'.cell? ⟨Y, 3, none⟩ = some (.string (str x.m.i)) ∧ w'.cell? ⟨Y, 4, none⟩ = some (.string (str x.m.n)) ∧ w'.cell? ⟨Y, 5, none⟩ = some (.string (str x.m.t)) ∧ w'.cell? ⟨X, 1, none⟩ = some (Value.string (str m.c)) ∧ w'.cell? ⟨X, 6, none⟩ = some (Value.slice (some ⟨b, off, none⟩) n c) ∧ w'.cell? ⟨b, off + 1, none⟩ = some (.int .i64 x0.id)) (by kernel_rfl) (by rw [← hD]; exact uh HS0 D (uh HBD)) (fun hHeld => ?_)
      rw [← hD] at hHeld ⊢
      clear hD
      refine wpAnyH_take (i := 0) (oi := ?_) (v := ?_) ?_ (by kernel_rfl) ?_ ?_ ?_ ?_ hHeld ?_
      rotate_left 2
      ·(simp only [xq1, xq3]) <;> with_reducible rfl
      ·kernel_rfl
      ·kernel_rfl
      ·exact fun _ _ _ h => h
      ·exact Or.inl ⟨by rfl, by (intro w hSw; (try dsimp only at hSw); obtain ⟨b0, b1, b2, b3, b4, b5, b6, b7, b8⟩ := hSw; go_simp <;> with_reducible rfl)⟩
      simp only [Act.put, xq4, xq5, xq6]
      refine wpAnyH_ready (rs := [1]) (by kernel_rfl) (by simp) ?rdc
      refine AllReadyH.cons (o := ?oc) ?hc (fun K hK => ?bc) AllReadyH.nil
      case hc => (simp only [xq1, xq2, xq3]) <;> with_reducible rfl
      case bc =>
       go_simp
       refine (uh HTD D (uh HBD)).mono ?_
       rintro e u1 ⟨rfl, h1⟩
       have B1 : Hid (Below V.heap.size V u1) := (uh HBD).trans ((uh h1).mono (uh HBD).size)
       clear h1
       refine hK.out _ _ (uh HS0 u1 (uh B1)) (fun hHeld => ?_)
       clear hK K
       try simp only [Act.put, xq4, xq5, xq6]
       refine wpAnyH_take (i := 2) (oi := ?_) (v := ?_) ?_ (by kernel_rfl) ?_ ?_ ?_ ?_ hHeld ?_
       rotate_left 2
       ·(simp only [xq1, xq2, xq3]) <;> with_reducible rfl
       ·kernel_rfl
       ·kernel_rfl
       ·exact fun _ _ _ h => h
       ·exact Or.inl ⟨by rfl, by (intro w hSw; (try dsimp only at hSw); obtain ⟨b0, b1, b2, b3, b4, b5, b6, b7, b8⟩ := hSw; go_simp <;> with_reducible rfl)⟩
       simp only [Act.put, xq4, xq5, xq6]
       refine wpAnyH_take (i := 3) (oi := ?_) (v := ?_) ?_ (by kernel_rfl) ?_ ?_ ?_ ?_ hHeld ?_
       rotate_left 2
       ·(simp only [xq1, xq2, xq3]) <;> with_reducible rfl
       ·kernel_rfl
       ·kernel_rfl
       ·exact fun _ _ _ h => h
       ·exact Or.inl ⟨by rfl, by (intro w hSw; (try dsimp only at hSw); obtain ⟨b0, b1, b2, b3, b4, b5, b6, b7, b8⟩ := hSw; go_simp <;> with_reducible rfl)⟩
       simp only [Act.put, xq4, xq5, xq6]
       refine wpAnyH_take (i := 4) (oi := ?_) (v := ?_) ?_ (by kernel_rfl) ?_ ?_ ?_ ?_ hHeld ?_
       rotate_left 2
       ·(simp only [xq1, xq2, xq3]) <;> with_reducible rfl
       ·kernel_rfl
       ·kernel_rfl
       ·exact fun _ _ _ h => h
       ·exact Or.inl ⟨by rfl, by (intro w hSw; (try dsimp only at hSw); obtain ⟨b0, b1, b2, b3, b4, b5, b6, b7, b8⟩ := hSw; go_simp <;> with_reducible rfl)⟩
       simp only [Act.put, xq4, xq5, xq6]
       refine wpAnyH_take (i := 5) (oi := ?_) (v := ?_) ?_ (by kernel_rfl) ?_ ?_ ?_ ?_ hHeld ?_
       rotate_left 2
       ·(simp only [xq1, xq2, xq3]) <;> with_reducible rfl
       ·kernel_rfl
       ·kernel_rfl
       ·exact fun _ _ _ h => h
       ·exact Or.inl ⟨by rfl, by (intro w hSw; (try dsimp only at hSw); obtain ⟨b0, b1, b2, b3, b4, b5, b6, b7, b8⟩ := hSw; go_simp <;> with_reducible rfl)⟩
       simp only [Act.put, xq4, xq5, xq6]
       refine wpAnyH_take (i := 6) (oi := ?_) (v := ?_) ?_ (by kernel_rfl) ?_ ?_ ?_ ?_ hHeld ?_
       rotate_left 2
       ·(simp only [xq1, xq2, xq3]) <;> with_reducible rfl
       ·kernel_rfl
       ·kernel_rfl
       ·exact fun _ _ _ h => h
       ·exact Or.inl ⟨by rfl, by (intro w hSw; (try dsimp only at hSw); obtain ⟨b0, b1, b2, b3, b4, b5, b6, b7, b8⟩ := hSw; go_simp <;> with_reducible rfl)⟩
       simp only [Act.put, xq4, xq5, xq6]
       refine wpAnyH_take (i := 7) (oi := ?_) (v := ?_) ?_ (by kernel_rfl) ?_ ?_ ?_ ?_ hHeld ?_
       rotate_left 2
       ·(simp only [xq1, xq2, xq3]) <;> with_reducible rfl
       ·kernel_rfl
       ·kernel_rfl
       ·exact fun _ _ _ h => h
       ·exact Or.inl ⟨by rfl, by (intro w hSw; (try dsimp only at hSw); obtain ⟨b0, b1, b2, b3, b4, b5, b6, b7, b8⟩ := hSw; go_simp <;> with_reducible rfl)⟩
       simp only [Act.put, xq4, xq5, xq6]
       refine wpAnyH_take (i := 8) (oi := ?_) (v := ?_) ?_ (by kernel_rfl) ?_ ?_ ?_ ?_ hHeld ?_
       rotate_left 2
       ·(simp only [xq1, xq2, xq3]) <;> with_reducible rfl
       ·kernel_rfl
       ·kernel_rfl
       ·exact fun _ _ _ h => h
       ·exact Or.inl ⟨by rfl, by (intro w hSw; (try dsimp only at hSw); obtain ⟨b0, b1, b2, b3, b4, b5, b6, b7, b8⟩ := hSw; go_simp <;> with_reducible rfl)⟩
       simp only [Act.put, xq4, xq5, xq6]
       refine wpAnyH_take (i := 9) (oi := ?_) (v := ?_) ?_ (by kernel_rfl) ?_ ?_ ?_ ?_ hHeld ?_
       rotate_left 2
       ·(simp only [xq1, xq2, xq3]) <;> with_reducible rfl
       ·kernel_rfl
       ·kernel_rfl
       ·exact fun _ _ _ h => h
       ·exact Or.inl ⟨by rfl, by (intro w hSw; (try dsimp only at hSw); obtain ⟨b0, b1, b2, b3, b4, b5, b6, b7, b8⟩ := hSw; go_simp <;> with_reducible rfl)⟩
       simp only [Act.put, xq4, xq5, xq6]
       refine wpAnyH_take (i := 10) (oi := ?_) (v := ?_) ?_ (by kernel_rfl) ?_ ?_ ?_ ?_ hHeld ?_
       rotate_left 2
       ·(simp only [xq1, xq2, xq3]) <;> with_reducible rfl
       ·kernel_rfl
       ·kernel_rfl
       ·exact fun _ _ _ h => h
       ·exact Or.inl ⟨by rfl, by (intro w hSw; (try dsimp only at hSw); obtain ⟨b0, b1, b2, b3, b4, b5, b6, b7, b8⟩ := hSw; go_simp <;> with_reducible rfl)⟩
       simp only [Act.put, xq4, xq5, xq6]
       refine wpAnyH_take (i := 11) (oi := ?_) (v := ?_) ?_ (by kernel_rfl) ?_ ?_ ?_ ?_ hHeld ?_
       rotate_left 2
       ·(simp only [xq1, xq2, xq3]) <;> with_reducible rfl
       ·kernel_rfl
       ·kernel_rfl
       ·exact fun _ _ _ h => h
       ·exact Or.inl ⟨by rfl, by (intro w hSw; (try dsimp only at hSw); obtain ⟨b0, b1, b2, b3, b4, b5, b6, b7, b8⟩ := hSw; go_simp <;> with_reducible rfl)⟩
       simp only [Act.put, xq4, xq5, xq6]
       refine wpAnyH_take (i := 12) (oi := ?_) (v := ?_) ?_ (by kernel_rfl) ?_ ?_ ?_ ?_ hHeld ?_
       rotate_left 2
       ·(simp only [xq1, xq2, xq3]) <;> with_reducible rfl
       ·kernel_rfl
       ·kernel_rfl
       ·exact fun _ _ _ h => h
       ·exact Or.inl ⟨by rfl, by (intro w hSw; (try dsimp only at hSw); obtain ⟨b0, b1, b2, b3, b4, b5, b6, b7, b8⟩ := hSw; go_simp <;> with_reducible rfl)⟩
       simp only [Act.put, xq4, xq5, xq6]
       refine wpAnyH_take (i := 13) (oi := ?_) (v := ?_) ?_ (by kernel_rfl) ?_ ?_ ?_ ?_ hHeld ?_
       rotate_left 2
       ·(simp only [xq1, xq2, xq3]) <;> with_reducible rfl
       ·kernel_rfl
       ·kernel_rfl
       ·exact fun _ _ _ h => h
       ·exact Or.inl ⟨by rfl, by (intro w hSw; (try dsimp only at hSw); obtain ⟨b0, b1, b2, b3, b4, b5, b6, b7, b8⟩ := hSw; go_simp <;> with_reducible rfl)⟩
       simp only [Act.put, xq4, xq5, xq6]
       refine wpAnyH_take (i := 14) (oi := ?_) (v := ?_) ?_ (by kernel_rfl) ?_ ?_ ?_ ?_ hHeld ?_
       rotate_left 2
       ·(simp only [xq1, xq2, xq3]) <;> with_reducible rfl
       ·kernel_rfl
       ·kernel_rfl
       ·exact fun _ _ _ h => h
       ·exact Or.inl ⟨by rfl, by (intro w hSw; (try dsimp only at hSw); obtain ⟨b0, b1, b2, b3, b4, b5, b6, b7, b8⟩ := hSw; go_simp <;> with_reducible rfl)⟩
       simp only [Act.put, xq4, xq5, xq6]
       refine wpAnyH_take (i := 15) (oi := ?_) (v := ?_) ?_ (by kernel_rfl) ?_ ?_ ?_ ?_ hHeld ?_
       rotate_left 2
       ·(simp only [xq1, xq2, xq3]) <;> with_reducible rfl
       ·kernel_rfl
       ·kernel_rfl
       ·exact fun _ _ _ h => h
       ·exact Or.inl ⟨by rfl, by (intro w hSw; (try dsimp only at hSw); obtain ⟨b0, b1, b2, b3, b4, b5, b6, b7, b8⟩ := hSw; go_simp <;> with_reducible rfl)⟩
       simp only [Act.put, xq4, xq5, xq6]
       refine wpAnyH_take (i := 16) (oi := ?_) (v := ?_) ?_ (by kernel_rfl) ?_ ?_ ?_ ?_ hHeld ?_
       rotate_left 2
       ·(simp only [xq1, xq2, xq3]) <;> with_reducible rfl
       ·kernel_rfl
       ·kernel_rfl
       ·exact fun _ _ _ h => h
       ·exact Or.inl ⟨by rfl, by (intro w hSw; (try dsimp only at hSw); obtain ⟨b0, b1, b2, b3, b4, b5, b6, b7, b8⟩ := hSw; go_simp <;> with_reducible rfl)⟩
       simp only [Act.put, xq4, xq5, xq6]
       refine wpAnyH_take (i := 17) (oi := ?_) (v := ?_) ?_ (by kernel_rfl) ?_ ?_ ?_ ?_ hHeld ?_
       rotate_left 2
       ·(simp only [xq1, xq2, xq3]) <;> with_reducible rfl
       ·kernel_rfl
       ·kernel_rfl
       ·exact fun _ _ _ h => h
       ·exact Or.inl ⟨by rfl, by (intro w hSw; (try dsimp only at hSw); obtain ⟨b0, b1, b2, b3, b4, b5, b6, b7, b8⟩ := hSw; go_simp <;> with_reducible rfl)⟩
       simp only [Act.put, xq4, xq5, xq6]
       refine wpAnyH_take (i := 18) (oi := ?_) (v := ?_) ?_ (by kernel_rfl) ?_ ?_ ?_ ?_ hHeld ?_
       rotate_left 2
       ·(simp only [xq1, xq2, xq3]) <;> with_reducible rfl
       ·kernel_rfl
       ·kernel_rfl
       ·exact fun _ _ _ h => h
       ·exact Or.inl ⟨by rfl, by (intro w hSw; (try dsimp only at hSw); obtain ⟨b0, b1, b2, b3, b4, b5, b6, b7, b8⟩ := hSw; go_simp <;> with_reducible rfl)⟩
       simp only [Act.put, xq4, xq5, xq6]
       refine wpAnyH_take (i := 19) (oi := ?_) (v := ?_) ?_ (by kernel_rfl) ?_ ?_ ?_ ?_ hHeld ?_
       rotate_left 2
       ·(simp only [xq1, xq2, xq3]) <;> with_reducible rfl
       ·kernel_rfl
       ·kernel_rfl
       ·exact fun _ _ _ h => h
       ·exact Or.inl ⟨by rfl, by (intro w hSw; (try dsimp only at hSw); obtain ⟨b0, b1, b2, b3, b4, b5, b6, b7, b8⟩ := hSw; go_simp <;> with_reducible rfl)⟩
       simp only [Act.put, xq4, xq5, xq6]
       refine wpAnyH_take (i := 20) (oi := ?_) (v := ?_) ?_ (by kernel_rfl) ?_ ?_ ?_ ?_ hHeld ?_
       rotate_left 2
       ·(simp only [xq1, xq2, xq3]) <;> with_reducible rfl
       ·kernel_rfl
       ·kernel_rfl
       ·exact fun _ _ _ h => h
       ·exact Or.inl ⟨by rfl, by (intro w hSw; (try dsimp only at hSw); obtain ⟨b0, b1, b2, b3, b4, b5, b6, b7, b8⟩ := hSw; go_simp <;> with_reducible rfl)⟩
       simp only [Act.put, xq4, xq5, xq6]
       refine wpAnyH_take (i := 21) (oi := ?_) (v := ?_) ?_ (by kernel_rfl) ?_ ?_ ?_ ?_ hHeld ?_
       rotate_left 2
       ·(simp only [xq1, xq2, xq3]) <;> with_reducible rfl
       ·kernel_rfl
       ·kernel_rfl
       ·exact fun _ _ _ h => h
       ·exact Or.inl ⟨by rfl, by (intro w hSw; (try dsimp only at hSw); obtain ⟨b0, b1, b2, b3, b4, b5, b6, b7, b8⟩ := hSw; go_simp <;> with_reducible rfl)⟩
       simp only [Act.put, xq4, xq5, xq6]
       refine wpAnyH_done (by kernel_rfl) ?_ _
       go_wp2_with fail
       go_ret
       exact ⟨by rw [uh HEF]; try rfl, (uh HBW).trans (((uh HBV).trans ((uh B1).mono (uh HBV).size)).mono (uh HBW).size)⟩
    ·rw [decide_eq_false hc] at ec HPX
     have ec2 : ((str x.c).toList == (str m.c).toList) = false := by rw [toList_str, toList_str]; simpa using hc
     clear hc wz ec
     have hPX2 : Hid (pushX m q x = false) := by show _ = _; rw [uh HPX]; simp
     have HEF := hide (uh HNO (uh hPX2))
     clear HNO HPX HEE HXQ HI
     obtain ⟨D, hD⟩ : ∃ D, D = V.drew := ⟨_, rfl⟩
     have HBD : Hid (Below V.heap.size V D) := by show Below _ _ _; rw [hD]; exact Below.drew (Below.refl _ _)
     refine wp_region_held_drew (S := fun w' => w'.cell? ⟨Y, 0, none⟩ = some (.string (str x.c)) ∧ w'.cell? ⟨Y, 1, none⟩ = some (.int .i64 x.id) ∧ w'.cell? ⟨Y, 2, none⟩ = some (.int .i64 x.m.k) ∧ w'.cell? ⟨Y, 3, none⟩ = some (.string (str x.m.i)) ∧ w'.cell? ⟨Y, 4, none⟩ = some (.string (str x.m.n)) ∧ w'.cell? ⟨Y, 5, none⟩ = some (.string (str x.m.t)) ∧ w'.cell? ⟨X, 1, none⟩ = some (Value.string (str m.c)) ∧ w'.cell? ⟨X, 6, none⟩ = some (Value.slice (some ⟨b, off, none⟩) n c) ∧ w'.cell? ⟨b, off + 1, none⟩ = some (.int .i64 x0.id)) (by kernel_rfl) (by rw [← hD]; exact uh HS0 D (uh HBD)) (fun hHeld => ?_)
     rw [← hD] at hHeld ⊢
     clear hD
     refine wpAnyH_take (i := 0) (oi := ?_) (v := ?_) ?_ (by kernel_rfl) ?_ ?_ ?_ ?_ hHeld ?_
     rotate_left 2
     ·(simp only [xq1, xq3]) <;> with_reducible rfl
     ·kernel_rfl
     ·kernel_rfl
     ·exact fun _ _ _ h => h
     ·exact Or.inl ⟨by rfl, by (intro w hSw; (try dsimp only at hSw); obtain ⟨b0, b1, b2, b3, b4, b5, b6, b7, b8⟩ := hSw; go_simp <;> with_reducible rfl)⟩
     simp only [Act.put, xq4, xq5, xq6]
     refine wpAnyH_ready (rs := [1]) (by kernel_rfl) (by simp) ?rdb
     refine AllReadyH.cons (o := ?ob) ?hb (fun K hK => ?bb) AllReadyH.nil
     case hb => (simp only [xq1, xq2, xq3]) <;> with_reducible rfl
     case bb =>
      go_simp
      refine (uh HTD D (uh HBD)).mono ?_
      rintro e u1 ⟨rfl, h1⟩
      have B1 : Hid (Below V.heap.size V u1) := (uh HBD).trans ((uh h1).mono (uh HBD).size)
      clear h1
      refine hK.out _ _ (uh HS0 u1 (uh B1)) (fun hHeld => ?_)
      clear hK K
      try simp only [Act.put, xq4, xq5, xq6]
      refine wpAnyH_take (i := 2) (oi := ?_) (v := ?_) ?_ (by kernel_rfl) ?_ ?_ ?_ ?_ hHeld ?_
      rotate_left 2
      ·(simp only [xq1, xq2, xq3]) <;> with_reducible rfl
      ·kernel_rfl
      ·kernel_rfl
      ·exact fun _ _ _ h => h
      ·exact Or.inl ⟨by rfl, by (intro w hSw; (try dsimp only at hSw); obtain ⟨b0, b1, b2, b3, b4, b5, b6, b7, b8⟩ := hSw; go_simp <;> with_reducible rfl)⟩
      simp only [Act.put, xq4, xq5, xq6]
      refine wpAnyH_take (i := 3) (oi := ?_) (v := ?_) ?_ (by kernel_rfl) ?_ ?_ ?_ ?_ hHeld ?_
      rotate_left 2
      ·(simp only [xq1, xq2, xq3]) <;> with_reducible rfl
      ·kernel_rfl
      ·kernel_rfl
      ·exact fun _ _ _ h => h
      ·exact Or.inl ⟨by rfl, by (intro w hSw; (try dsimp only at hSw); obtain ⟨b0, b1, b2, b3, b4, b5, b6, b7, b8⟩ := hSw; go_simp <;> with_reducible rfl)⟩
      simp only [Act.put, xq4, xq5, xq6]
      refine wpAnyH_take (i := 4) (oi := ?_) (v := ?_) ?_ (by kernel_rfl) ?_ ?_ ?_ ?_ hHeld ?_
      rotate_left 2
      ·(simp only [xq1, xq2, xq3]) <;> with_reducible rfl
      ·kernel_rfl
      ·kernel_rfl
      ·exact fun _ _ _ h => h
      ·exact Or.inl ⟨by rfl, by (intro w hSw; (try dsimp only at hSw); obtain ⟨b0, b1, b2, b3, b4, b5, b6, b7, b8⟩ := hSw; go_simp <;> with_reducible rfl)⟩
      simp only [Act.put, xq4, xq5, xq6]
      refine wpAnyH_take (i := 5) (oi := ?_) (v := ?_) ?_ (by kernel_rfl) ?_ ?_ ?_ ?_ hHeld ?_
      rotate_left 2
      ·(simp only [xq1, xq2, xq3]) <;> with_reducible rfl
      ·kernel_rfl
      ·kernel_rfl
      ·exact fun _ _ _ h => h
      ·exact Or.inl ⟨by rfl, by (intro w hSw; (try dsimp only at hSw); obtain ⟨b0, b1, b2, b3, b4, b5, b6, b7, b8⟩ := hSw; go_simp <;> with_reducible rfl)⟩
      simp only [Act.put, xq4, xq5, xq6]
      refine wpAnyH_take (i := 6) (oi := ?_) (v := ?_) ?_ (by kernel_rfl) ?_ ?_ ?_ ?_ hHeld ?_
      rotate_left 2
      ·(simp only [xq1, xq2, xq3]) <;> with_reducible rfl
      ·kernel_rfl
      ·kernel_rfl
      ·exact fun _ _ _ h => h
      ·exact Or.inl ⟨by rfl, by (intro w hSw; (try dsimp only at hSw); obtain ⟨b0, b1, b2, b3, b4, b5, b6, b7, b8⟩ := hSw; go_simp <;> with_reducible rfl)⟩
      simp only [Act.put, xq4, xq5, xq6]
      refine wpAnyH_take (i := 7) (oi := ?_) (v := ?_) ?_ (by kernel_rfl) ?_ ?_ ?_ ?_ hHeld ?_
      rotate_left 2
      ·(simp only [xq1, xq2, xq3]) <;> with_reducible rfl
      ·kernel_rfl
      ·kernel_rfl
      ·exact fun _ _ _ h => h
      ·exact Or.inl ⟨by rfl, by (intro w hSw; (try dsimp only at hSw); obtain ⟨b0, b1, b2, b3, b4, b5, b6, b7, b8⟩ := hSw; go_simp <;> with_reducible rfl)⟩
      simp only [Act.put, xq4, xq5, xq6]
      refine wpAnyH_take (i := 8) (oi := ?_) (v := ?_) ?_ (by kernel_rfl) ?_ ?_ ?_ ?_ hHeld ?_
      rotate_left 2
      ·(simp only [xq1, xq2, xq3]) <;> with_reducible rfl
      ·kernel_rfl
      ·kernel_rfl
      ·exact fun _ _ _ h => h
      ·exact Or.inl ⟨by rfl, by (intro w hSw; (try dsimp only at hSw); obtain ⟨b0, b1, b2, b3, b4, b5, b6, b7, b8⟩ := hSw; go_simp <;> with_reducible rfl)⟩
      simp only [Act.put, xq4, xq5, xq6]
      refine wpAnyH_take (i := 9) (oi := ?_) (v := ?_) ?_ (by kernel_rfl) ?_ ?_ ?_ ?_ hHeld ?_
      rotate_left 2
      ·(simp only [xq1, xq2, xq3]) <;> with_reducible rfl
      ·kernel_rfl
      ·kernel_rfl
      ·exact fun _ _ _ h => h
      ·exact Or.inl ⟨by rfl, by (intro w hSw; (try dsimp only at hSw); obtain ⟨b0, b1, b2, b3, b4, b5, b6, b7, b8⟩ := hSw; go_simp <;> with_reducible rfl)⟩
      simp only [Act.put, xq4, xq5, xq6]
      refine wpAnyH_take (i := 10) (oi := ?_) (v := ?_) ?_ (by kernel_rfl) ?_ ?_ ?_ ?_ hHeld ?_
      rotate_left 2
      ·(simp only [xq1, xq2, xq3]) <;> with_reducible rfl
      ·kernel_rfl
      ·kernel_rfl
      ·exact fun _ _ _ h => h
      ·exact Or.inl ⟨by rfl, by (intro w hSw; (try dsimp only at hSw); obtain ⟨b0, b1, b2, b3, b4, b5, b6, b7, b8⟩ := hSw; go_simp <;> with_reducible rfl)⟩
      simp only [Act.put, xq4, xq5, xq6]
      refine wpAnyH_take (i := 11) (oi := ?_) (v := undef) ?_ (by kernel_rfl) ?_ ?_ ?_ ?_ hHeld ?_
      rotate_left 1
      ·(simp only [xq1, xq2, xq3]) <;> with_reducible rfl
      ·kernel_rfl
      ·kernel_rfl
      ·exact fun _ _ _ h => h
      ·exact Or.inr ⟨by rfl, rfl⟩
      simp only [Act.put, xq4, xq5, xq6]
      refine wpAnyH_take (i := 12) (oi := ?_) (v := undef) ?_ (by kernel_rfl) ?_ ?_ ?_ ?_ hHeld ?_
      rotate_left 1
      ·(simp only [xq1, xq2, xq3]) <;> with_reducible rfl
      ·kernel_rfl
      ·kernel_rfl
      ·exact fun _ _ _ h => h
      ·exact Or.inr ⟨by rfl, rfl⟩
      simp only [Act.put, xq4, xq5, xq6]
      refine wpAnyH_take (i := 13) (oi := ?_) (v := undef) ?_ (by kernel_rfl) ?_ ?_ ?_ ?_ hHeld ?_
      rotate_left 1
      ·(simp only [xq1, xq2, xq3]) <;> with_reducible rfl
      ·kernel_rfl
      ·kernel_rfl
      ·exact fun _ _ _ h => h
      ·exact Or.inr ⟨by rfl, rfl⟩
      simp only [Act.put, xq4, xq5, xq6]
      refine wpAnyH_take (i := 14) (oi := ?_) (v := undef) ?_ (by kernel_rfl) ?_ ?_ ?_ ?_ hHeld ?_
      rotate_left 1
      ·(simp only [xq1, xq2, xq3]) <;> with_reducible rfl
      ·kernel_rfl
      ·kernel_rfl
      ·exact fun _ _ _ h => h
      ·exact Or.inr ⟨by rfl, rfl⟩
      simp only [Act.put, xq4, xq5, xq6]
      refine wpAnyH_take (i := 15) (oi := ?_) (v := undef) ?_ (by kernel_rfl) ?_ ?_ ?_ ?_ hHeld ?_
      rotate_left 1
      ·(simp only [xq1, xq2, xq3]) <;> with_reducible rfl
      ·kernel_rfl
      ·kernel_rfl
      ·exact fun _ _ _ h => h
      ·exact Or.inr ⟨by rfl, rfl⟩
      simp only [Act.put, xq4, xq5, xq6]
      refine wpAnyH_take (i := 16) (oi := ?_) (v := undef) ?_ (by kernel_rfl) ?_ ?_ ?_ ?_ hHeld ?_
      rotate_left 1
      ·(simp only [xq1, xq2, xq3]) <;> with_reducible rfl
      ·kernel_rfl
      ·kernel_rfl
      ·exact fun _ _ _ h => h
      ·exact Or.inr ⟨by rfl, rfl⟩
      simp only [Act.put, xq4, xq5, xq6]
      refine wpAnyH_take (i := 17) (oi := ?_) (v := undef) ?_ (by kernel_rfl) ?_ ?_ ?_ ?_ hHeld ?_
      rotate_left 1
      ·(simp only [xq1, xq2, xq3]) <;> with_reducible rfl
      ·kernel_rfl
      ·kernel_rfl
      ·exact fun _ _ _ h => h
      ·exact Or.inr ⟨by rfl, rfl⟩
      simp only [Act.put, xq4, xq5, xq6]
      refine wpAnyH_take (i := 18) (oi := ?_) (v := undef) ?_ (by kernel_rfl) ?_ ?_ ?_ ?_ hHeld ?_
      rotate_left 1
      ·(simp only [xq1, xq2, xq3]) <;> with_reducible rfl
      ·kernel_rfl
      ·kernel_rfl
      ·exact fun _ _ _ h => h
      ·exact Or.inr ⟨by rfl, rfl⟩
      simp only [Act.put, xq4, xq5, xq6]
      refine wpAnyH_take (i := 19) (oi := ?_) (v := undef) ?_ (by kernel_rfl) ?_ ?_ ?_ ?_ hHeld ?_
      rotate_left 1
      ·(simp only [xq1, xq2, xq3]) <;> with_reducible rfl
      ·kernel_rfl
      ·kernel_rfl
      ·exact fun _ _ _ h => h
      ·exact Or.inr ⟨by rfl, rfl⟩
      simp only [Act.put, xq4, xq5, xq6]
      refine wpAnyH_take (i := 20) (oi := ?_) (v := undef) ?_ (by kernel_rfl) ?_ ?_ ?_ ?_ hHeld ?_
      rotate_left 1
      ·(simp only [xq1, xq2, xq3]) <;> with_reducible rfl
      ·kernel_rfl
      ·kernel_rfl
      ·exact fun _ _ _ h => h
      ·exact Or.inr ⟨by rfl, rfl⟩
      simp only [Act.put, xq4, xq5, xq6]
      refine wpAnyH_take (i := 21) (oi := ?_) (v := ?_) ?_ (by kernel_rfl) ?_ ?_ ?_ ?_ hHeld ?_
      rotate_left 2
      ·(simp only [xq1, xq2, xq3]) <;> with_reducible rfl
      ·kernel_rfl
      ·kernel_rfl
      ·exact fun _ _ _ h => h
      ·exact Or.inl ⟨by rfl, by (intro w hSw; (try dsimp only at hSw); obtain ⟨b0, b1, b2, b3, b4, b5, b6, b7, b8⟩ := hSw; go_simp <;> with_reducible rfl)⟩
      simp only [Act.put, xq4, xq5, xq6]
      refine wpAnyH_done (by kernel_rfl) ?_ _
      go_wp2_with fail
      go_ret
      exact ⟨by rw [uh HEF]; try rfl, (uh HBW).trans (((uh HBV).trans ((uh B1).mono (uh HBV).size)).mono (uh HBW).size)⟩
  ·have hlt' : ¬ (q : Int) < (n : Int) := by omega
   have HEF : Hid (E = true) := by
    show _ = _
    rw [uh HEE]
    exact pall_true (fun i x hx => (uh HI).2 i x (by have := (List.getElem?_eq_some_iff.1 hx).1; have := uh HN; omega) hx)
   have HBI := hide (uh HI).1
   clear HEE HI
   go_wp2_with fail
   go_ret
   exact ⟨by rw [uh HEF]; try rfl, (uh HBW).trans ((uh HBI).mono (uh HBW).size)⟩
end Go.Proofs.YtmpjeahibfdehaaGreatDoor
end
section
set_option linter.unusedVariables false
set_option maxRecDepth 1000000
namespace Go.Proofs.YtmpjeahibfdehaaGreatDoor
open Go.RowKit

set_option maxHeartbeats 16000000 in
theorem isPatch_any (m : Mg) (a : Option Addr) (n c : Nat) (w : World) (hT : Tb4 w) (hl : LRow w a n m.l) :
  Calls Tryz.prog 54 #[mgV m a n c] w fun e w' => e = .returned (.bool (isPatchB m)) ∧ Hid (Below w.heap.size w w') := by
 unfold mgV
 obtain ⟨X, hX⟩ : ∃ X, X = w.heap.size := ⟨_, rfl⟩
 obtain ⟨W, hW⟩ : ∃ W, W = w.alloc (.cells #[.int .i64 m.k, .string (str m.c), .int .i64 m.fr, .int .i64 m.co, .int .i64 m.la, .int .i64 m.top, .slice a n c] 24) := ⟨_, rfl⟩
 have bW : Below w.heap.size w W := by rw [hW]; exact bA _
 have rX : W.heap[X]? = some (.cells #[.int .i64 m.k, .string (str m.c), .int .i64 m.fr, .int .i64 m.co, .int .i64 m.la, .int .i64 m.top, .slice a n c] 24 (0, 0)) := by rw [hW, hX]; exact heap_alloc_new _ _
 have HL := hide (hl.below bW)
 have HT := hide (hT.below bW)
 have HBW := hide bW
 have HX := hide rX
 have HN : Hid (n = m.l.length) := hl.1
 obtain ⟨p0, p1, p2, p3, p4, p5, p6⟩ := cells7 rX
 obtain ⟨E, hE⟩ : ∃ E, E = isPatchB m := ⟨_, rfl⟩
 rw [← hE]
 unfold isPatchB at hE
 have HE := hide hE
 clear hE bW rX hT hl
 by_cases h8 : 8 < n
 ·have h8' : (8 : Int) < (n : Int) := by omega
  have HF : Hid (E = false) := by show _ = _; rw [uh HE, decide_eq_false (show ¬ m.l.length ≤ 8 by have := uh HN; omega)]; rfl
  clear HE
  go_enter Tryz.func54, Tryz.ntmps54
  go_upto_region 1 with fail
  rw [← hW, ← hX]
  clear hW hX
  go_wp2_with fail
  go_ret
  exact ⟨by rw [uh HF]; try rfl, HBW⟩
 have h8' : ¬ (8 : Int) < (n : Int) := by omega
 have HNO : Hid (∀ x, x ∈ m.l → mayLg x = false → E = false) := fun x hx h => by
  rw [uh HE, decide_eq_false (fun hh : ∀ x ∈ m.l, mayLg x = true => by have := hh x hx; rw [h] at this; cases this)]
  simp
 have I0 : Hid (Below W.heap.size W W ∧ ∀ i x, i < 0 → m.l[i]? = some x → mayLg x = true) := ⟨Below.refl _ _, fun i x hi => absurd hi (Nat.not_lt_zero _)⟩
 clear h8
 go_enter Tryz.func54, Tryz.ntmps54
 go_upto_region 1 with fail
 rw [← hW, ← hX]
 clear hW hX
 go_wp2_with fail
 clear p0 p1 p2 p3 p4 p5 p6
 go_loopw [13] (fun v wr => ∃ q : Nat, q ≤ n ∧ v = .int .i64 (q : Int) ∧ Hid (Below W.heap.size W wr ∧ ∀ i x, i < q → m.l[i]? = some x → mayLg x = true)) (fun v _ => n - (intOf v).toNat)
 case atStart => exact ⟨0, Nat.zero_le _, rfl, I0⟩
 case round =>
  obtain ⟨q, hq, rfl, HI⟩ := hrel
  clear I0
  by_cases hlt : q < n
  ·have hlt' : (q : Int) < (n : Int) := by omega
   obtain ⟨x, hx⟩ : ∃ x, m.l[q]? = some x := ⟨_, List.getElem?_eq_getElem (by have := uh HN; omega)⟩
   have hbw := (uh HI).1
   obtain ⟨b, off, rfl, hbl, hc⟩ := ((uh HL).below hbw).2 (fun e => by rw [e] at hx; simp at hx)
   have g0 := hc q x hx 0 _ rfl
   have g1 := hc q x hx 1 _ rfl
   have g2 := hc q x hx 2 _ rfl
   have g3 := hc q x hx 3 _ rfl
   have g4 := hc q x hx 4 _ rfl
   have g5 := hc q x hx 5 _ rfl
   rw [Nat.add_zero] at g0
   obtain ⟨Y, hY⟩ : ∃ Y, Y = wr.heap.size := ⟨_, rfl⟩
   obtain ⟨V, hV⟩ : ∃ V, V = wr.alloc (.cells #[.string (str x.c), .int .i64 x.id, .int .i64 x.m.k, .string (str x.m.i), .string (str x.m.n), .string (str x.m.t)] 28) := ⟨_, rfl⟩
   have bV : Below wr.heap.size wr V := by rw [hV]; exact bA _
   have bWV : Below W.heap.size W V := hbw.trans (bV.mono hbw.size)
   obtain ⟨e0, e1, e2, e3, e4, e5⟩ := cells6 (show V.heap[Y]? = some (.cells #[.string (str x.c), .int .i64 x.id, .int .i64 x.m.k, .string (str x.m.i), .string (str x.m.n), .string (str x.m.t)] 28 (0, 0)) by rw [hV, hY]; exact heap_alloc_new _ _)
   have HTD := hide (told_any x V ((uh HT).below bWV))
   unfold lgV at HTD
   have HBV := hide bWV
   have HXQ := hide hx
   have HNX := hide (uh HNO x (List.mem_of_getElem? hx))
   have HIX : Hid (mayLg x = true → ∀ i y, i < q + 1 → m.l[i]? = some y → mayLg y = true) := fun h i y hi hy => by
    by_cases hiq : i = q
    ·subst hiq
     rw [hx] at hy
     obtain rfl := Option.some.inj hy
     exact h
    ·exact (uh HI).2 i y (by omega) hy
   generalize mayLg x = bt at HTD HNX HIX
   clear hx hbw hbl hc bV bWV HI
   go_upto_region 6 with fail
   rw [← hV, ← hY]
   clear hV hY g0 g1 g2 g3 g4 g5
   go_wp2_with fail
   refine (uh HTD).mono ?_
   rintro e u1 ⟨rfl, h1⟩
   have HBI : Hid (Below W.heap.size W u1) := (uh HBV).trans ((uh h1).mono (uh HBV).size)
   cases bt with
   | false =>
    have HEF := hide (uh HNX rfl)
    clear HNX HIX HTD h1 HNO
    go_wp2_with fail
    go_ret
    exact ⟨by rw [uh HEF]; try rfl, (uh HBW).trans ((uh HBI).mono (uh HBW).size)⟩
   | true =>
    have HIN := hide (uh HIX rfl)
    clear HNX HIX HTD h1
    go_wp2_with fail
    go_round
    case rel => exact ⟨q + 1, by omega, by go_num, ⟨uh HBI, uh HIN⟩⟩
    case measure => simp [intOf]; omega
  ·have hlt' : ¬ (q : Int) < (n : Int) := by omega
   have HA : Hid (∀ x ∈ m.l, mayLg x = true) := fun x hx => by
    obtain ⟨i, hi⟩ := List.mem_iff_getElem?.1 hx
    exact (uh HI).2 i x (by have := (List.getElem?_eq_some_iff.1 hi).1; have := uh HN; omega) hi
   have HE2 : Hid (E = (decide (0 ≤ m.fr) && decide (m.fr ≤ m.co) && decide (m.co ≤ m.top) && decide (m.top ≤ 1099511627776) && decide (m.co - m.fr = (n : Int)) && decide (0 ≤ m.la))) := by
    show _ = _
    rw [uh HE, decide_eq_true (show m.l.length ≤ 8 by have := uh HN; omega), decide_eq_true (uh HA), ← uh HN]
    simp
   have HBI := hide (uh HI).1
   have HBF : Hid (Below w.heap.size w wr) := (uh HBW).trans ((uh HBI).mono (uh HBW).size)
   obtain ⟨p0, p1, p2, p3, p4, p5, p6⟩ := cells7 (((uh HBI).block X (aI (uh HX)).1).trans (uh HX))
   clear HE HI HA HNO HBI HX HL HT
   by_cases k1 : 0 ≤ m.fr
   rotate_left 1
   ·have HEF : Hid (E = false) := by show _ = _; rw [uh HE2, decide_eq_false k1]; simp
    clear HE2
    go_wp2_with fail
    go_ret
    exact ⟨by rw [uh HEF]; try rfl, HBF⟩
   by_cases k2 : m.fr ≤ m.co
   rotate_left 1
   ·have HEF : Hid (E = false) := by show _ = _; rw [uh HE2, decide_eq_false k2]; simp
    clear HE2
    go_wp2_with fail
    go_ret
    exact ⟨by rw [uh HEF]; try rfl, HBF⟩
   by_cases k3 : m.co ≤ m.top
   rotate_left 1
   ·have HEF : Hid (E = false) := by show _ = _; rw [uh HE2, decide_eq_false k3]; simp
    clear HE2
    go_wp2_with fail
    go_ret
    exact ⟨by rw [uh HEF]; try rfl, HBF⟩
   by_cases k4 : m.top ≤ 1099511627776
   rotate_left 1
   ·have HEF : Hid (E = false) := by show _ = _; rw [uh HE2, decide_eq_false k4]; simp
    clear HE2
    go_wp2_with fail
    go_ret
    exact ⟨by rw [uh HEF]; try rfl, HBF⟩
   by_cases k5 : m.co - m.fr = (n : Int)
   rotate_left 1
   ·have HEF : Hid (E = false) := by show _ = _; rw [uh HE2, decide_eq_false k5]; simp
    have k5' : (m.co - m.fr == (n : Int)) = false := by simpa using k5
    have k5w : IntKind.i64.wrap (m.co - m.fr) = m.co - m.fr := by simp [IntKind.wrap, IntKind.bits, IntKind.signed]; omega
    clear HE2
    go_wp2_with fail
    go_ret
    exact ⟨by rw [uh HEF]; try rfl, HBF⟩
   have k5' : (m.co - m.fr == (n : Int)) = true := by simpa using k5
   have k5w : IntKind.i64.wrap (m.co - m.fr) = m.co - m.fr := by simp [IntKind.wrap, IntKind.bits, IntKind.signed]; omega
   by_cases k6 : 0 ≤ m.la
   rotate_left 1
   ·have HEF : Hid (E = false) := by show _ = _; rw [uh HE2, decide_eq_false k6]; simp
    have k6' : ¬ (m.la ≥ 0) := by omega
    clear HE2
    go_wp2_with fail
    go_ret
    exact ⟨by rw [uh HEF]; try rfl, HBF⟩
   have HEF : Hid (E = true) := by show _ = _; rw [uh HE2, decide_eq_true k1, decide_eq_true k2, decide_eq_true k3, decide_eq_true k4, decide_eq_true k5, decide_eq_true k6]; rfl
   have k6' : m.la ≥ 0 := k6
   clear HE2
   go_wp2_with fail
   go_ret
   exact ⟨by rw [uh HEF]; try rfl, HBF⟩
end Go.Proofs.YtmpjeahibfdehaaGreatDoor
end
