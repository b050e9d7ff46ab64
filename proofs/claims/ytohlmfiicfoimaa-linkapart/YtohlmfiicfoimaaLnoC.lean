/-
  A NET WITH ANY CONNECTIONS: forget, take, Send, Carry, Close on one of them.
-/
import Derived.Test.YtohlmfiicfoimaaLnoB
set_option linter.unusedVariables false
namespace Go.Proofs.Ytohlmfiicfoimaa
open Go.RowKit Go.Maps

def upd {α : Type} (f : Nat → α) (t : Nat) (v : α) : Nat → α := fun i => if i = t then v else f i
theorem upd_same {α : Type} (f : Nat → α) (t : Nat) (v : α) : upd f t v t = v := by simp [upd]
theorem upd_other {α : Type} (f : Nat → α) (t : Nat) (v : α) {i : Nat} (h : i ≠ t) : upd f t v i = f i := by simp [upd, h]

/-- A connection in block C, its ends by numbers: whether they are closed, what is on the way to them. -/
def Con (w : World) (C : Nat) (p q : Int) (c : Nat → Bool) (A : Nat → Option Addr) (K : Nat → Nat) (L : Nat → List UInt8) : Prop :=
  ConC w C p q (c 0) (c 1) (A 0) (L 0).length (K 0) (A 1) (L 1).length (K 1)
theorem Con.lt {w : World} {C : Nat} {p q : Int} {c : Nat → Bool} {A : Nat → Option Addr} {K : Nat → Nat} {L : Nat → List UInt8} (h : Con w C p q c A K L) : C < w.heap.size := ConC.lt h
theorem Con.move {w w' : World} {C : Nat} {p q : Int} {c : Nat → Bool} {A : Nat → Option Addr} {K : Nat → Nat} {L : Nat → List UInt8} (h : Con w C p q c A K L) (e : w'.heap[C]? = w.heap[C]?) : Con w' C p q c A K L := by
  unfold Con ConC at *
  rw [e]; exact h
theorem Con.below {w w' : World} {C : Nat} {p q : Int} {c : Nat → Bool} {A : Nat → Option Addr} {K : Nat → Nat} {L : Nat → List UInt8} (h : Con w C p q c A K L) (hb : Below w.heap.size w w') : Con w' C p q c A K L := h.move (hb.block C h.lt)
theorem ConC.set2 {w : World} {C : Nat} {a b : Int} {c0 c1 : Bool} {x0 : Option Addr} {n0 k0 : Nat} {x1 : Option Addr} {n1 k1 : Nat} (h : ConC w C a b c0 c1 x0 n0 k0 x1 n1 k1) (x : Option Addr) (n k : Nat) : ConC (w.setCell ⟨C, 2, none⟩ (.slice x n k)) C a b c0 c1 x n k x1 n1 k1 := by
  unfold ConC at *
  simp only [World.setCell, Array.getElem?_modify]
  rw [if_pos trivial, h]
  rfl
theorem ConC.set1 {w : World} {C : Nat} {a b : Int} {c0 c1 : Bool} {x0 : Option Addr} {n0 k0 : Nat} {x1 : Option Addr} {n1 k1 : Nat} (h : ConC w C a b c0 c1 x0 n0 k0 x1 n1 k1) (v : Bool) : ConC (w.setCell ⟨C, 1, none⟩ (.bool v)) C a b v c1 x0 n0 k0 x1 n1 k1 := by
  unfold ConC at *
  simp only [World.setCell, Array.getElem?_modify]
  rw [if_pos trivial, h]
  rfl
theorem ConC.set4 {w : World} {C : Nat} {a b : Int} {c0 c1 : Bool} {x0 : Option Addr} {n0 k0 : Nat} {x1 : Option Addr} {n1 k1 : Nat} (h : ConC w C a b c0 c1 x0 n0 k0 x1 n1 k1) (v : Bool) : ConC (w.setCell ⟨C, 4, none⟩ (.bool v)) C a b c0 v x0 n0 k0 x1 n1 k1 := by
  unfold ConC at *
  simp only [World.setCell, Array.getElem?_modify]
  rw [if_pos trivial, h]
  rfl
/-- An end's row is another one. -/
theorem Con.setRow {w : World} {C : Nat} {p q : Int} {c : Nat → Bool} {A : Nat → Option Addr} {K : Nat → Nat} {L : Nat → List UInt8} (h : Con w C p q c A K L) {t e : Nat} (ht : (t = 0 ∧ e = 0) ∨ (t = 1 ∧ e = 3)) (x : Option Addr) (k : Nat) (l : List UInt8) :
    Con (w.setCell ⟨C, e + 2, none⟩ (.slice x l.length k)) C p q c (upd A t x) (upd K t k) (upd L t l) := by
  rcases ht with ⟨rfl, rfl⟩ | ⟨rfl, rfl⟩
  · exact ConC.set2 h x l.length k
  · exact ConC.set5 h x l.length k
theorem Con.setCl {w : World} {C : Nat} {p q : Int} {c : Nat → Bool} {A : Nat → Option Addr} {K : Nat → Nat} {L : Nat → List UInt8} (h : Con w C p q c A K L) {t e : Nat} (ht : (t = 0 ∧ e = 0) ∨ (t = 1 ∧ e = 3)) (v : Bool) :
    Con (w.setCell ⟨C, e + 1, none⟩ (.bool v)) C p q (upd c t v) A K L := by
  rcases ht with ⟨rfl, rfl⟩ | ⟨rfl, rfl⟩
  · exact ConC.set1 h v
  · exact ConC.set4 h v
theorem Con.neB {w : World} {C base k : Nat} {x : Option Addr} {l : List UInt8} {p q : Int} {c : Nat → Bool} {A : Nat → Option Addr} {K : Nat → Nat} {L : Nat → List UInt8} (h : Con w C p q c A K L) (o : Cmg w base x k l) : blk x ≠ some C := by
  intro e
  obtain ⟨cur, hc⟩ := o.cells C e
  unfold Con ConC at h
  rw [hc] at h
  simp at h
theorem NT.neB {w : World} {N bm : Nat} {last : Int} {n : Nat} {D : DataW Unit} {base k : Nat} {x : Option Addr} {l : List UInt8} (h : NT w N bm last n D) (o : Cmg w base x k l) : blk x ≠ some N ∧ blk x ≠ some bm := by
  constructor
  · intro e
    obtain ⟨cur, hc⟩ := o.cells N e
    have h1 := h.net
    rw [hc] at h1
    simp at h1
  · intro e
    obtain ⟨cur, hc⟩ := o.cells bm e
    obtain ⟨es, clock, h1, _⟩ := h.own
    rw [hc] at h1
    simp at h1
theorem NT.neC {w : World} {N bm : Nat} {last : Int} {n : Nat} {D : DataW Unit} {C : Nat} {p q : Int} {c : Nat → Bool} {A : Nat → Option Addr} {K : Nat → Nat} {L : Nat → List UInt8} (h : NT w N bm last n D) (hc : Con w C p q c A K L) : N ≠ C ∧ bm ≠ C := by
  constructor
  · intro e
    subst e
    have h1 := h.net
    unfold Con ConC at hc
    rw [h1] at hc
    simp at hc
  · intro e
    subst e
    obtain ⟨es, clock, h1, _⟩ := h.own
    unfold Con ConC at hc
    rw [h1] at hc
    simp at hc
theorem NT.neNM {w : World} {N bm : Nat} {last : Int} {n : Nat} {D : DataW Unit} (h : NT w N bm last n D) : N ≠ bm := by
  intro e
  subst e
  obtain ⟨es, clock, h1, _⟩ := h.own
  rw [h.net] at h1
  simp at h1

set_option maxHeartbeats 2000000 in
theorem forget_any (N bm : Nat) (last : Int) (n : Nat) (D : DataW Unit) (id : Int) (C : Nat) (p q : Int) (c : Nat → Bool) (A : Nat → Option Addr) (K : Nat → Nat) (L : Nat → List UInt8) (w : World) (h : NT w N bm last n D) (hid : (Lit.int .i64 id).wf = true) (ha : AtC D id C)
    (hc : Con w C p q c A K L) (hl0 : (L 0).length ≤ 1000000) (hl1 : (L 1).length ≤ 1000000) :
    Calls Try.prog 46 #[.pointer (some ⟨N, 0, none⟩), .int .i64 id] w fun e w' => e = .returned (.tuple #[]) ∧ ∃ D', NT w' N bm last n D' ∧ Kp w w' (fun j => j = bm) ∧
      Hid ((D' = D ∧ ¬ (c 0 = true ∧ L 0 = [] ∧ c 1 = true ∧ L 1 = [])) ∨ (D' = D.del (.int .i64 id) ∧ c 0 = true ∧ L 0 = [] ∧ c 1 = true ∧ L 1 = [])) := by
  have e0 := h.n0
  have hl := h.look1 hid ha
  have hkey := key_of id hid
  obtain ⟨r, hr⟩ : ∃ r, r = (c 0 && (L 0).length == 0 && c 1 && (L 1).length == 0) := ⟨_, rfl⟩
  have HR := hide hr
  clear hr
  go_enter Try.func46, Try.ntmps46
  go_wp2_with fail
  refine (over_any C p q (c 0) (c 1) (A 0) (L 0).length (K 0) (A 1) (L 1).length (K 1) r w hc hl0 hl1 HR).mono ?_
  rintro e w1 ⟨rfl, hb⟩
  have h1 := h.below hb
  have e1 := h1.n0
  have hbs := hb.size
  have hown1 := h1.own
  rcases r with _ | _
  · have HF : Hid (¬ (c 0 = true ∧ L 0 = [] ∧ c 1 = true ∧ L 1 = [])) := by
      rintro ⟨a1, a2, a3, a4⟩
      have := unhide HR
      rw [a1, a2, a3, a4] at this
      simp at this
    clear HR
    go_wp2
    go_end0
    exact ⟨rfl, D, h1, Kp.of hb, .inl ⟨rfl, unhide HF⟩⟩
  · have HT : Hid (c 0 = true ∧ L 0 = [] ∧ c 1 = true ∧ L 1 = []) := by
      have := unhide HR
      simp at this
      obtain ⟨⟨⟨a1, a2⟩, a3⟩, a4⟩ := this
      exact ⟨a1, a2, a3, a4⟩
    clear HR
    go_wp2_with (at_delete; refine wpList_delete_own _ rfl _ _ 57 3 rfl 68 law Try.underlying57 _ bm n D rfl hown1 _ _ rfl hkey ?_; intro w2 hown2 hturn2)
    go_end0
    refine ⟨rfl, _, ⟨?_, hown2⟩, (Kp.of hb).trans (Kp.ofG hturn2.grown (fun k hk => by simp at hk; exact hk.symm)), .inr ⟨rfl, unhide HT⟩⟩
    rw [hturn2.grown.block N h1.ltN (by simp; exact h1.neNM)]
    exact h1.net
#print axioms forget_any

theorem scs (w : World) (b o : Nat) (v v' : Value) : (w.setCell ⟨b, o, none⟩ v).setCell ⟨b, o, none⟩ v' = w.setCell ⟨b, o, none⟩ v' := by
  unfold World.setCell
  congr 1
  apply Array.ext_getElem?
  intro i
  simp only [Array.getElem?_modify]
  by_cases h : b = i
  · subst h
    simp only [if_pos trivial, Option.map_map]
    congr 1
    funext o'
    cases o' <;> simp
  · simp only [if_neg h]

set_option maxRecDepth 20000 in
set_option maxHeartbeats 2000000 in
theorem take_c (C e0 : Nat) (base : Nat) (x : Option Addr) (k : Nat) (l : List UInt8) (m : Int) (M : Nat) (w : World) (hcell : w.cell? ⟨C, e0 + 2, none⟩ = some (.slice x l.length k)) (hfr : w.frozen? ⟨C, e0 + 2, none⟩ = false) (hr : Cmg w base x k l) (hx : blk x ≠ some C) (hl : l.length ≤ 1000000) (hm : 0 ≤ m) (hm1 : m ≤ 9223372036854775807) (HM : Hid (M = min m.toNat l.length)) :
    Calls Try.prog 45 #[.pointer (some ⟨C, e0, none⟩), .int .i64 m] w fun e w' => ∃ a' cap' r x' k' w1, e = .returned (.slice a' r.length cap') ∧ Hid (r = l.take M) ∧ Hid (OwnB w1 w.heap.size a' cap' r) ∧ Below w.heap.size w w1 ∧ w' = w1.setCell ⟨C, e0 + 2, none⟩ (.slice x' (l.drop M).length k') ∧ Hid (blk x' = none ∨ blk x' = blk x) ∧ Hid (Cmg w1 base x' k' (l.drop M)) := by
  have hB := hr.toBs
  have hif : (if (l.length : Int) < m then (l.length : Int) else m) = (M : Int) := by rw [unhide HM]; split <;> omega
  have hMl : M ≤ l.length := by rw [unhide HM]; omega
  have hle := hB.le
  have hmost := hB.most
  obtain ⟨xh, hh, hhB, hhb⟩ := cut_head x l.length k M l hMl hle (fun h => by obtain ⟨b, off, e, _⟩ := hB.row h; exact ⟨b, off, e⟩)
  have hh1 := hh w
  have HB1 := hide (hhB w hB)
  clear hh hhB hhb
  have hCl : C < w.heap.size := World.block_lt_of_cell? w _ hcell
  go_enter Try.func45, Try.ntmps45
  go_wp2_with fail
  refine (bclone_any xh M k (l.take M) w (unhide HB1) (by simp; omega) (by simp; omega)).mono ?_
  rintro e w1 ⟨a1, cap1, r, rfl, hr1, ho1, hb1⟩
  have hcell1 : w1.cell? ⟨C, e0 + 2, none⟩ = some (.slice x l.length k) := (World.cell?_of_block (a := ⟨C, e0 + 2, none⟩) (hb1.block C hCl)).trans hcell
  have hfr1 : w1.frozen? ⟨C, e0 + 2, none⟩ = false := (World.frozen?_of_block (a := ⟨C, e0 + 2, none⟩) (hb1.block C hCl)).trans hfr
  have hr2 := hr.below hb1 (Nat.le_refl _)
  clear hh1 HB1 hif hcell hfr
  by_cases hz : l.length - M = 0
  · obtain ⟨xt, ht, htB, htb⟩ := cut_tail x k M l hle hMl (fun h => by obtain ⟨b, off, e, _⟩ := hB.row h; exact ⟨b, off, e⟩)
    have ht1 := ht w1
    clear ht htB htb
    have hzd : (((l.length - M : Nat) : Int) == 0) = true := by rw [hz]; rfl
    have HD : Hid (l.drop M = []) := by show _ = _; exact List.drop_eq_nil_of_le (by omega)
    have g6 : (w1.setCell ⟨C, e0 + 2, none⟩ (.slice xt (l.length - M) (k - M))).cell? ⟨C, e0 + 2, none⟩ = some (.slice xt (l.length - M) (k - M)) := World.cell?_setCell_same' w1 _ _ (by rw [hcell1]; rfl)
    have f6 : (w1.setCell ⟨C, e0 + 2, none⟩ (.slice xt (l.length - M) (k - M))).frozen? ⟨C, e0 + 2, none⟩ = false := by rw [World.frozen?_setCell]; exact hfr1
    have HO := hide ho1
    have HS : Hid ((w1.setCell ⟨C, e0 + 2, none⟩ (.slice xt (l.length - M) (k - M))).setCell ⟨C, e0 + 2, none⟩ (.slice none 0 0) = w1.setCell ⟨C, e0 + 2, none⟩ (.slice none 0 0)) := scs w1 C (e0 + 2) _ _
    have HB := hide hb1
    clear hz ho1 hr2 hr hB hb1
    go_wp2
    go_ret
    exact ⟨a1, cap1, r, none, 0, w1, rfl, hr1, HO, unhide HB, by rw [unhide HS, unhide HD]; rfl, .inl rfl, by rw [unhide HD]; exact Cmg.nil _ _⟩
  · obtain ⟨b, off, hxe, _⟩ := hB.row (by intro e; subst e; simp at hz)
    subst hxe
    have hkM : ¬ k = M := by omega
    have ht1 := slice_from b off l.length k M (M : Int) w1 rfl hMl hkM
    have hzd : (((l.length - M : Nat) : Int) == 0) = false := by simp; omega
    have HC := hide (hr2.drop M hMl)
    have HO := hide ho1
    have g6 : ∀ v, (w1.setCell ⟨C, e0 + 2, none⟩ v).cell? ⟨C, e0 + 2, none⟩ = some v := fun v => World.cell?_setCell_same' w1 _ _ (by rw [hcell1]; rfl)
    have HB := hide hb1
    have hdl : Hid ((l.drop M).length = l.length - M) := by show _ = _; simp
    clear hz ho1 hr2 hr hB hb1
    go_wp2
    go_ret
    exact ⟨a1, cap1, r, some ⟨b, off + M, none⟩, k - M, w1, rfl, hr1, HO, unhide HB, by rw [unhide hdl], .inr rfl, HC⟩
#print axioms take_c
end Go.Proofs.Ytohlmfiicfoimaa
