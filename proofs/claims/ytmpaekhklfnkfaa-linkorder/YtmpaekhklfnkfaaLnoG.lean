/-
  link: the state of LinkOrder: a net whose first connection is looked at, four rows of bytes of the law's own.
-/
import Derived.Test.YtmpaekhklfnkfaaLnoF
set_option linter.unusedVariables false
namespace Go.Proofs.Ytmpaekhklfnkfaa
open Go.RowKit Go.Maps

theorem upd_self {α : Type} (f : Nat → α) (t : Nat) : upd f t (f t) = f := by
  funext i
  unfold upd
  split
  · rename_i h; rw [h]
  · rfl

/-- Rows 0, 1: on the way to the ends; 2, 3: what each sent; 4, 5: what came of what each sent. S, R: the law's two arrays of slices. -/
structure LB (w0 w : World) (N bm S R C : Nat) (last : Int) (n : Nat) (D : DataW Unit) (c : Nat → Bool) (A : Nat → Option Addr) (K : Nat → Nat) (L : Nat → List UInt8) (z : Nat) : Prop where
  bel : Below w0.heap.size w0 w
  nt : NT w N bm last n D
  con : Con w C 0 1 c A K L
  at1 : AtC D 1 C ∨ (OffC D 1 ∧ L 0 = [] ∧ L 1 = [])
  sent : w.heap[S]? = some (.cells #[.slice (A 2) (L 2).length (K 2), .slice (A 3) (L 3).length (K 3)] 39 (0, 0))
  came : w.heap[R]? = some (.cells #[.slice (A 4) (L 4).length (K 4), .slice (A 5) (L 5).length (K 5)] 39 (0, 0))
  rows : ∀ i, i < 6 → Cmg w w0.heap.size (A i) (K i) (L i)
  apart : ∀ i j, i < 6 → j < 6 → i ≠ j → ∀ g, blk (A i) = some g → blk (A j) ≠ some g
  lo : w0.heap.size ≤ N ∧ w0.heap.size ≤ bm ∧ w0.heap.size ≤ C ∧ w0.heap.size ≤ S ∧ w0.heap.size ≤ R
  SR : S ≠ R
  lq : (L 0).length ≤ 131072 ∧ (L 1).length ≤ 131072
  lz : 1 ≤ last ∧ last ≤ 1 + (z : Int) ∧ n ≤ 1 + z

section
variable {w0 w : World} {N bm S R C : Nat} {last : Int} {n : Nat} {D : DataW Unit} {c : Nat → Bool} {A : Nat → Option Addr} {K : Nat → Nat} {L : Nat → List UInt8} {z : Nat}

theorem LB.ne (h : LB w0 w N bm S R C last n D c A K L z) : S ≠ N ∧ S ≠ bm ∧ S ≠ C ∧ R ≠ N ∧ R ≠ bm ∧ R ≠ C := by
  obtain ⟨es, clock, hm, _⟩ := h.nt.own
  have hN := h.nt.net
  have hC := h.con
  have hS := h.sent
  have hR := h.came
  unfold Con ConC at hC
  refine ⟨?_, ?_, ?_, ?_, ?_, ?_⟩ <;> intro e <;> subst e
  · rw [hN] at hS; simp at hS
  · rw [hm] at hS; simp at hS
  · rw [hC] at hS; simp at hS
  · rw [hN] at hR; simp at hR
  · rw [hm] at hR; simp at hR
  · rw [hC] at hR; simp at hR
theorem LB.neRow (h : LB w0 w N bm S R C last n D c A K L z) {i : Nat} (hi : i < 6) : blk (A i) ≠ some S ∧ blk (A i) ≠ some R := by
  constructor
  · intro e
    obtain ⟨cur, hc⟩ := (h.rows i hi).cells S e
    have hS := h.sent
    rw [hc] at hS
    simp at hS
  · intro e
    obtain ⟨cur, hc⟩ := (h.rows i hi).cells R e
    have hS := h.came
    rw [hc] at hS
    simp at hS

/-- A call on the net: one row on the way may be another one. -/
theorem LB.step (h : LB w0 w N bm S R C last n D c A K L z) {t : Nat} (ht : t < 2) {w' : World} {last' : Int} {n' : Nat} {D' : DataW Unit} {c' : Nat → Bool} {x' : Option Addr} {k' : Nat} {l' : List UInt8} {z' : Nat}
    (hk : Kp w w' (fun j => j = N ∨ j = bm ∨ j = C ∨ blk (A t) = some j)) (hnt : NT w' N bm last' n' D') (hcon : Con w' C 0 1 c' (upd A t x') (upd K t k') (upd L t l')) (hrow : Cmg w' w0.heap.size x' k' l')
    (hfresh : blk x' = none ∨ blk x' = blk (A t) ∨ ∀ g, blk x' = some g → w.heap.size ≤ g) (hat : AtC D' 1 C ∨ (OffC D' 1 ∧ upd L t l' 0 = [] ∧ upd L t l' 1 = [])) (hlq : l'.length ≤ 131072) (hz : 1 ≤ last' ∧ last' ≤ 1 + (z' : Int) ∧ n' ≤ 1 + z') :
    LB w0 w' N bm S R C last' n' D' c' (upd A t x') (upd K t k') (upd L t l') z' := by
  obtain ⟨l1, l2, l3, l4, l5⟩ := h.lo
  obtain ⟨n1, n2, n3, n4, n5, n6⟩ := h.ne
  have hs := h.bel.size
  have hrt := h.rows t (by omega)
  have hnR := h.neRow (i := t) (by omega)
  have u2 : ∀ {α : Type} (f : Nat → α) (v : α) (i : Nat), 2 ≤ i → upd f t v i = f i := fun f v i hi => upd_other f t v (by omega)
  refine ⟨hk.below h.bel hs (fun j hj => ?_), hnt, hcon, hat, ?_, ?_, fun i hi => ?_, fun i j hi hj hij g hg => ?_, h.lo, h.SR, ?_, hz⟩
  · rcases hj with rfl | rfl | rfl | hj
    · exact l1
    · exact l2
    · exact l3
    · exact (hrt.lt j hj).1
  · rw [u2 A x' 2 (by omega), u2 A x' 3 (by omega), u2 K k' 2 (by omega), u2 K k' 3 (by omega), u2 L l' 2 (by omega), u2 L l' 3 (by omega), hk.block S (Array.getElem?_eq_some_iff.1 h.sent).1 (by rintro (e | e | e | e); exact n1 e; exact n2 e; exact n3 e; exact hnR.1 e)]
    exact h.sent
  · rw [u2 A x' 4 (by omega), u2 A x' 5 (by omega), u2 K k' 4 (by omega), u2 K k' 5 (by omega), u2 L l' 4 (by omega), u2 L l' 5 (by omega), hk.block R (Array.getElem?_eq_some_iff.1 h.came).1 (by rintro (e | e | e | e); exact n4 e; exact n5 e; exact n6 e; exact hnR.2 e)]
    exact h.came
  · by_cases hit : i = t
    · subst hit
      rw [upd_same, upd_same, upd_same]
      exact hrow
    · rw [upd_other A t x' hit, upd_other K t k' hit, upd_other L t l' hit]
      have hri := h.rows i hi
      refine hri.kp hk (fun g hg => ?_)
      have a1 := h.nt.neB hri
      have a2 := h.con.neB hri
      rintro (e | e | e | e)
      · subst e; exact a1.1 hg
      · subst e; exact a1.2 hg
      · subst e; exact a2 hg
      · exact h.apart i t hi (by omega) hit g hg e
  · by_cases hit : i = t
    · subst hit
      rw [upd_same] at hg
      rw [upd_other A i x' (fun e => hij e.symm)]
      rcases hfresh with e | e | e
      · rw [e] at hg; cases hg
      · rw [e] at hg; exact h.apart i j hi hj hij g hg
      · intro hgj
        have b1 := e g hg
        have b2 := ((h.rows j hj).lt g hgj).2
        omega
    · rw [upd_other A t x' hit] at hg
      by_cases hjt : j = t
      · subst hjt
        rw [upd_same]
        intro hgj
        rcases hfresh with e | e | e
        · rw [e] at hgj; cases hgj
        · rw [e] at hgj; exact h.apart i j hi hj hij g hg hgj
        · have b1 := e g hgj
          have b2 := ((h.rows i hi).lt g hg).2
          omega
      · rw [upd_other A t x' hjt]
        exact h.apart i j hi hj hij g hg
  · have hq := h.lq
    rcases (by omega : t = 0 ∨ t = 1) with rfl | rfl
    · exact ⟨by rw [upd_same]; exact hlq, by rw [upd_other L 0 l' (by omega)]; exact hq.2⟩
    · exact ⟨by rw [upd_other L 1 l' (by omega)]; exact hq.1, by rw [upd_same]; exact hlq⟩
theorem LB.below (h : LB w0 w N bm S R C last n D c A K L z) {w' : World} (hb : Below w.heap.size w w') : LB w0 w' N bm S R C last n D c A K L z := by
  have := h.step (t := 0) (by omega) (x' := A 0) (k' := K 0) (l' := L 0) (Kp.of hb) (h.nt.below hb) (by rw [upd_self, upd_self, upd_self]; exact h.con.below hb) ((h.rows 0 (by omega)).below hb (Nat.le_refl _)) (.inr (.inl rfl)) (by rw [upd_self]; exact h.at1) h.lq.1 h.lz
  rwa [upd_self, upd_self, upd_self] at this
theorem LB.more (h : LB w0 w N bm S R C last n D c A K L z) {z' : Nat} (hz : z ≤ z') : LB w0 w N bm S R C last n D c A K L z' :=
  { h with lz := by have := h.lz; omega }

/-- The law appends to a row of its own, and stores the slice. -/
theorem LB.app (h : LB w0 w N bm S R C last n D c A K L z) {B i r : Nat} (hB : (B = S ∧ ((i = 0 ∧ r = 2) ∨ (i = 1 ∧ r = 3))) ∨ (B = R ∧ ((i = 0 ∧ r = 4) ∨ (i = 1 ∧ r = 5)))) {w2 : World} {x' : Option Addr} {k' : Nat} {l' : List UInt8}
    (hrow : Cmg w2 w0.heap.size x' k' l') (hg : w.grownBy w2 (blk (A r))) (hfresh : blk x' = blk (A r) ∨ ∀ g, blk x' = some g → w.heap.size ≤ g) :
    LB w0 (w2.setCell ⟨B, i, none⟩ (.slice x' l'.length k')) N bm S R C last n D c (upd A r x') (upd K r k') (upd L r l') z := by
  obtain ⟨l1, l2, l3, l4, l5⟩ := h.lo
  obtain ⟨n1, n2, n3, n4, n5, n6⟩ := h.ne
  have hs := h.bel.size
  have hr6 : r < 6 := by omega
  have hr2 : 2 ≤ r := by omega
  have hrr := h.rows r hr6
  have hnR := h.neRow hr6
  have hnN := h.nt.neB hrr
  have hnC := h.con.neB hrr
  have hBne : B ≠ N ∧ B ≠ bm ∧ B ≠ C := by
    rcases hB with ⟨rfl, _⟩ | ⟨rfl, _⟩
    · exact ⟨n1, n2, n3⟩
    · exact ⟨n4, n5, n6⟩
  have kp : Kp w (w2.setCell ⟨B, i, none⟩ (.slice x' l'.length k')) (fun j => j = B ∨ blk (A r) = some j) :=
    (Kp.ofG hg (fun j hj => .inr hj)).trans (Kp.ofG (gset' w2 ⟨B, i, none⟩ _) (fun j hj => by simp at hj; exact .inl hj.symm))
  have hS2 : w2.heap[S]? = w.heap[S]? := hg.block S (Array.getElem?_eq_some_iff.1 h.sent).1 (fun e => hnR.1 e.symm)
  have hR2 : w2.heap[R]? = w.heap[R]? := hg.block R (Array.getElem?_eq_some_iff.1 h.came).1 (fun e => hnR.2 e.symm)
  have hxB : blk x' ≠ some B := by
    intro e
    obtain ⟨cur, hc⟩ := hrow.cells B e
    rcases hB with ⟨rfl, _⟩ | ⟨rfl, _⟩
    · rw [hS2, h.sent] at hc; simp at hc
    · rw [hR2, h.came] at hc; simp at hc
  have cS : w2.heap[S]? = some (.cells #[.slice (A 2) (L 2).length (K 2), .slice (A 3) (L 3).length (K 3)] 39 (0, 0)) := hS2.trans h.sent
  have cR : w2.heap[R]? = some (.cells #[.slice (A 4) (L 4).length (K 4), .slice (A 5) (L 5).length (K 5)] 39 (0, 0)) := hR2.trans h.came
  refine ⟨kp.below h.bel hs (fun j hj => ?_), h.nt.kp kp ?_ ?_, ?_, ?_, ?_, ?_, fun i' hi => ?_, fun i' j hi hj hij g hg' => ?_, h.lo, h.SR, ?_, h.lz⟩
  · rcases hj with rfl | hj
    · rcases hB with ⟨rfl, _⟩ | ⟨rfl, _⟩
      · exact l4
      · exact l5
    · exact (hrr.lt j hj).1
  · rintro (e | e)
    · exact hBne.1 e.symm
    · exact hnN.1 e
  · rintro (e | e)
    · exact hBne.2.1 e.symm
    · exact hnN.2 e
  · have hc := h.con.move (w' := w2.setCell ⟨B, i, none⟩ (.slice x' l'.length k')) (kp.block C h.con.lt (by rintro (e | e); exact hBne.2.2 e.symm; exact hnC e))
    unfold Con at hc ⊢
    rw [upd_other A r x' (by omega), upd_other A r x' (by omega), upd_other K r k' (by omega), upd_other K r k' (by omega), upd_other L r l' (by omega), upd_other L r l' (by omega)]
    exact hc
  · rw [upd_other L r l' (by omega), upd_other L r l' (by omega)]
    exact h.at1
  · rcases hB with ⟨rfl, ⟨rfl, rfl⟩ | ⟨rfl, rfl⟩⟩ | ⟨rfl, ⟨rfl, rfl⟩ | ⟨rfl, rfl⟩⟩
    · rw [heap_setCell_same w2 B 0 _ _ _ cS]; rfl
    · rw [heap_setCell_same w2 B 1 _ _ _ cS]; rfl
    · rw [heap_setCell_other w2 ⟨B, 0, none⟩ S _ h.SR, cS]; rfl
    · rw [heap_setCell_other w2 ⟨B, 1, none⟩ S _ h.SR, cS]; rfl
  · rcases hB with ⟨rfl, ⟨rfl, rfl⟩ | ⟨rfl, rfl⟩⟩ | ⟨rfl, ⟨rfl, rfl⟩ | ⟨rfl, rfl⟩⟩
    · rw [heap_setCell_other w2 ⟨B, 0, none⟩ R _ h.SR.symm, cR]; rfl
    · rw [heap_setCell_other w2 ⟨B, 1, none⟩ R _ h.SR.symm, cR]; rfl
    · rw [heap_setCell_same w2 B 0 _ _ _ cR]; rfl
    · rw [heap_setCell_same w2 B 1 _ _ _ cR]; rfl
  · by_cases hit : i' = r
    · subst hit
      rw [upd_same, upd_same, upd_same]
      exact hrow.kept (gset' w2 ⟨B, i, none⟩ _) (fun g hg' => by simp; intro e; subst e; exact hxB hg')
    · rw [upd_other A r x' hit, upd_other K r k' hit, upd_other L r l' hit]
      refine (h.rows i' hi).kp kp (fun g hg' => ?_)
      have a1 := h.neRow hi
      rintro (e | e)
      · rcases hB with ⟨rfl, _⟩ | ⟨rfl, _⟩
        · subst e; exact a1.1 hg'
        · subst e; exact a1.2 hg'
      · exact h.apart i' r hi hr6 hit g hg' e
  · by_cases hit : i' = r
    · subst hit
      rw [upd_same] at hg'
      rw [upd_other A i' x' (fun e => hij e.symm)]
      rcases hfresh with e | e
      · rw [e] at hg'; exact h.apart i' j hi hj hij g hg'
      · intro hgj
        have b1 := e g hg'
        have b2 := ((h.rows j hj).lt g hgj).2
        omega
    · rw [upd_other A r x' hit] at hg'
      by_cases hjt : j = r
      · subst hjt
        rw [upd_same]
        intro hgj
        rcases hfresh with e | e
        · rw [e] at hgj; exact h.apart i' j hi hj hij g hg' hgj
        · have b1 := e g hgj
          have b2 := ((h.rows i' hi).lt g hg').2
          omega
      · rw [upd_other A r x' hjt]
        exact h.apart i' j hi hj hij g hg'
  · rw [upd_other L r l' (by omega), upd_other L r l' (by omega)]
    exact h.lq
theorem LB.mid (h : LB w0 w N bm S R C last n D c A K L z) {r : Nat} (hr : r < 6) {w2 : World} (hg : w.grownBy w2 (blk (A r))) :
    w2.heap[S]? = some (.cells #[.slice (A 2) (L 2).length (K 2), .slice (A 3) (L 3).length (K 3)] 39 (0, 0)) ∧ w2.heap[R]? = some (.cells #[.slice (A 4) (L 4).length (K 4), .slice (A 5) (L 5).length (K 5)] 39 (0, 0)) := by
  have hnR := h.neRow hr
  exact ⟨(hg.block S (Array.getElem?_eq_some_iff.1 h.sent).1 (fun e => hnR.1 e.symm)).trans h.sent, (hg.block R (Array.getElem?_eq_some_iff.1 h.came).1 (fun e => hnR.2 e.symm)).trans h.came⟩
end
#print axioms LB.app
end Go.Proofs.Ytmpaekhklfnkfaa
