/-
  link: BOTH NETS, the program's and the document's: what is known of them beside other memory; each call on one of them.
-/
import Derived.Test.YtohlmfiicfoimaaLrJ
import Derived.Test.YtohlmfiicfoimaaLpF
import Derived.Test.YtohlmfiicfoimaaLnoF
set_option linter.unusedVariables false
namespace Go.Proofs.Ytohlmfiicfoimaa
open Go.RowKit Go.Maps

/-- The program's net in N (its map in bm) has the model Mp, the document's in X the model Mr; blocks of Z belong to neither. -/
def NQ (w0 w : World) (N bm X : Nat) (Mp Mr : Nm) (T : Nat) (Z : Nat → Prop) : Prop :=
  ∃ g P R, PN w g N bm w0.heap.size Mp P ∧ RN w g X w0.heap.size Mr R T ∧ Fr g w ∧ (∀ k, k < w0.heap.size → g k = (0, 0)) ∧ Below w0.heap.size w0 w ∧ ∀ b, Z b → w0.heap.size ≤ b ∧ b < w.heap.size ∧ g b = (0, 0)
/-- The blocks of Z stay as they are. -/
def ZS (w w' : World) (Z : Nat → Prop) : Prop := w.heap.size ≤ w'.heap.size ∧ ∀ b, Z b → w'.heap[b]? = w.heap[b]?
theorem NQ.bel {w0 w : World} {N bm X : Nat} {Mp Mr : Nm} {T : Nat} {Z : Nat → Prop} (h : NQ w0 w N bm X Mp Mr T Z) : Below w0.heap.size w0 w := by
  obtain ⟨g, P, R, _, _, _, _, h, _⟩ := h
  exact h
theorem NQ.zlt {w0 w : World} {N bm X : Nat} {Mp Mr : Nm} {T : Nat} {Z : Nat → Prop} (h : NQ w0 w N bm X Mp Mr T Z) {b : Nat} (hb : Z b) : w0.heap.size ≤ b ∧ b < w.heap.size := by
  obtain ⟨g, P, R, _, _, _, _, _, h⟩ := h
  exact ⟨(h b hb).1, (h b hb).2.1⟩
theorem NQ.sub {w0 w : World} {N bm X : Nat} {Mp Mr : Nm} {T : Nat} {Z Z' : Nat → Prop} (h : NQ w0 w N bm X Mp Mr T Z) (hz : ∀ b, Z' b → Z b) : NQ w0 w N bm X Mp Mr T Z' := by
  obtain ⟨g, P, R, h1, h2, h3, h4, h5, h6⟩ := h
  exact ⟨g, P, R, h1, h2, h3, h4, h5, fun b hb => h6 b (hz b hb)⟩
theorem NQ.up {w0 w : World} {N bm X : Nat} {Mp Mr : Nm} {T T' : Nat} {Z : Nat → Prop} (h : NQ w0 w N bm X Mp Mr T Z) (ht : T ≤ T') : NQ w0 w N bm X Mp Mr T' Z := by
  obtain ⟨g, P, R, h1, h2, h3, h4, h5, h6⟩ := h
  exact ⟨g, P, R, h1, h2.up ht, h3, h4, h5, h6⟩
/-- New blocks belong to neither. -/
theorem NQ.fresh {w0 w w' : World} {N bm X : Nat} {Mp Mr : Nm} {T : Nat} {Z : Nat → Prop} (h : NQ w0 w N bm X Mp Mr T Z) (hb : Below w.heap.size w w') : NQ w0 w' N bm X Mp Mr T (fun b => Z b ∨ (w.heap.size ≤ b ∧ b < w'.heap.size)) := by
  obtain ⟨g, P, R, h1, h2, h3, h4, h5, h6⟩ := h
  have hy : Ty w w' g g (fun _ => False) := Ty.of g hb
  refine ⟨g, P, R, h1.ty hy id (fun _ => id), h2.ty hy id (fun _ => id), hy.fr h3, h4, h5.trans (hb.mono h5.size), fun b hb' => ?_⟩
  rcases hb' with hz | ⟨hz1, hz2⟩
  · obtain ⟨a1, a2, a3⟩ := h6 b hz
    exact ⟨a1, Nat.lt_of_lt_of_le a2 hb.size, a3⟩
  · exact ⟨Nat.le_trans h5.size hz1, hz2, h3 b hz1⟩
theorem NQ.below {w0 w w' : World} {N bm X : Nat} {Mp Mr : Nm} {T : Nat} {Z : Nat → Prop} (h : NQ w0 w N bm X Mp Mr T Z) (hb : Below w.heap.size w w') : NQ w0 w' N bm X Mp Mr T Z := (h.fresh hb).sub (fun b hz => .inl hz)
/-- A block of Z, and new ones, may be written. -/
theorem NQ.wrote {w0 w w' : World} {N bm X : Nat} {Mp Mr : Nm} {T : Nat} {Z : Nat → Prop} (h : NQ w0 w N bm X Mp Mr T Z) (hk : Kp w w' Z) : NQ w0 w' N bm X Mp Mr T Z := by
  obtain ⟨g, P, R, h1, h2, h3, h4, h5, h6⟩ := h
  have hy : Ty w w' g g (fun t => t = (0, 0)) := Ty.ofKp hk (fun k hz => (h6 k hz).2.2)
  refine ⟨g, P, R, h1.ty hy (by simp) (by simp), h2.ty hy (by simp) (by simp), hy.fr h3, h4, Kp.below h5 hk h5.size (fun j hj => (h6 j hj).1), fun b hb => ?_⟩
  obtain ⟨a1, a2, a3⟩ := h6 b hb
  exact ⟨a1, Nat.lt_of_lt_of_le a2 hk.size, a3⟩
theorem NQ.wroteF {w0 w w' : World} {N bm X : Nat} {Mp Mr : Nm} {T : Nat} {Z : Nat → Prop} (h : NQ w0 w N bm X Mp Mr T Z) (hk : Kp w w' Z) : NQ w0 w' N bm X Mp Mr T (fun b => Z b ∨ (w.heap.size ≤ b ∧ b < w'.heap.size)) := by
  obtain ⟨g, P, R, h1, h2, h3, h4, h5, h6⟩ := h
  have hy : Ty w w' g g (fun t => t = (0, 0)) := Ty.ofKp hk (fun k hz => (h6 k hz).2.2)
  refine ⟨g, P, R, h1.ty hy (by simp) (by simp), h2.ty hy (by simp) (by simp), hy.fr h3, h4, Kp.below h5 hk h5.size (fun j hj => (h6 j hj).1), fun b hb => ?_⟩
  rcases hb with hb | ⟨hb1, hb2⟩
  · obtain ⟨a1, a2, a3⟩ := h6 b hb
    exact ⟨a1, Nat.lt_of_lt_of_le a2 hk.size, a3⟩
  · exact ⟨Nat.le_trans h5.size hb1, hb2, h3 b hb1⟩
theorem NQ.set {w0 w : World} {N bm X : Nat} {Mp Mr : Nm} {T : Nat} {Z : Nat → Prop} (h : NQ w0 w N bm X Mp Mr T Z) {p : Addr} (hz : Z p.block) (v : Value) : NQ w0 (w.setCell p v) N bm X Mp Mr T Z :=
  h.wrote (Kp.ofG (gset' w p v) (fun k hk => by simp at hk; rw [← hk]; exact hz))
theorem sp_not {i : Nat} : ¬ Sp (2, i) ∧ ¬ Sp (4, 0) ∧ ¬ Sp (0, 0) := by unfold Sp; simp
theorem sr_not {i : Nat} : ¬ Sr (1, i) ∧ ¬ Sr (3, 0) ∧ ¬ Sr (0, 0) := by unfold Sr; simp
/-- Behind a call on the program's net. -/
theorem nq_p {w0 w w' : World} {N bm X : Nat} {Mr Mp' : Nm} {T : Nat} {Z : Nat → Prop} {g g' : Nat → Tag} {R : Nat → Rg} {P' : Nat → Pg} (h2 : RN w g X w0.heap.size Mr R T) (h3 : Fr g w) (h4 : ∀ k, k < w0.heap.size → g k = (0, 0)) (h5 : Below w0.heap.size w0 w) (h6 : ∀ b, Z b → w0.heap.size ≤ b ∧ b < w.heap.size ∧ g b = (0, 0))
    (hp : PN w' g' N bm w0.heap.size Mp' P') (hy : Ty w w' g g' Sp) : NQ w0 w' N bm X Mp' Mr T Z ∧ ZS w w' Z := by
  have hlow : ∀ k, k < w0.heap.size → g' k = (0, 0) := fun k hk => by rw [hy.tag k (.inl (Nat.lt_of_lt_of_le hk h5.size))]; exact h4 k hk
  refine ⟨⟨g', P', R, hp, h2.ty hy (sp_not (i := 0)).2.1 (fun i => (sp_not (i := i)).1), hy.fr h3, hlow, Kp.below h5 hy.kp h5.size (fun j hj => Nat.le_of_not_lt fun hlt => (sp_not (i := 0)).2.2 (by have hj' : Sp (g j) := hj; rw [h4 j hlt] at hj'; exact hj')), fun b hb => ?_⟩, hy.kp.size, fun b hb => ?_⟩
  · obtain ⟨a1, a2, a3⟩ := h6 b hb
    exact ⟨a1, Nat.lt_of_lt_of_le a2 hy.kp.size, by rw [hy.tag b (.inl a2)]; exact a3⟩
  · obtain ⟨a1, a2, a3⟩ := h6 b hb
    exact hy.kp.block b a2 (by show ¬ Sp (g b); rw [a3]; exact (sp_not (i := 0)).2.2)
/-- Behind a call on the document's net. -/
theorem nq_r {w0 w w' : World} {N bm X : Nat} {Mp Mr' : Nm} {T' : Nat} {Z : Nat → Prop} {g g' : Nat → Tag} {R' : Nat → Rg} {P : Nat → Pg} (h1 : PN w g N bm w0.heap.size Mp P) (h3 : Fr g w) (h4 : ∀ k, k < w0.heap.size → g k = (0, 0)) (h5 : Below w0.heap.size w0 w) (h6 : ∀ b, Z b → w0.heap.size ≤ b ∧ b < w.heap.size ∧ g b = (0, 0))
    (hr : RN w' g' X w0.heap.size Mr' R' T') (hy : Ty w w' g g' Sr) : NQ w0 w' N bm X Mp Mr' T' Z ∧ ZS w w' Z := by
  have hlow : ∀ k, k < w0.heap.size → g' k = (0, 0) := fun k hk => by rw [hy.tag k (.inl (Nat.lt_of_lt_of_le hk h5.size))]; exact h4 k hk
  refine ⟨⟨g', P, R', h1.ty hy (sr_not (i := 0)).2.1 (fun i => (sr_not (i := i)).1), hr, hy.fr h3, hlow, Kp.below h5 hy.kp h5.size (fun j hj => Nat.le_of_not_lt fun hlt => (sr_not (i := 0)).2.2 (by have hj' : Sr (g j) := hj; rw [h4 j hlt] at hj'; exact hj')), fun b hb => ?_⟩, hy.kp.size, fun b hb => ?_⟩
  · obtain ⟨a1, a2, a3⟩ := h6 b hb
    exact ⟨a1, Nat.lt_of_lt_of_le a2 hy.kp.size, by rw [hy.tag b (.inl a2)]; exact a3⟩
  · obtain ⟨a1, a2, a3⟩ := h6 b hb
    exact hy.kp.block b a2 (by show ¬ Sr (g b); rw [a3]; exact (sr_not (i := 0)).2.2)

/-! ### The calls -/
theorem np_dial {w0 w : World} {N bm X : Nat} {Mp Mr : Nm} {T : Nat} {Z : Nat → Prop} (h : NQ w0 w N bm X Mp Mr T Z) (hM : Mok Mp) (hl : Mp.last < 1000000) (a b : Int) :
    Calls Try.prog 20 #[.pointer (some ⟨N, 0, none⟩), .int .i64 a, .int .i64 b] w fun e w' => e = .returned (.tuple #[.int .i64 (diN Mp a b), .int .i64 (diE Mp a b)]) ∧ Hid (NQ w0 w' N bm X (diM Mp a b) Mr T Z) ∧ Hid (ZS w w' Z) := by
  obtain ⟨g, P, R, h1, h2, h3, h4, h5, h6⟩ := h
  refine (pdial_all h1 hM h3 a b h5.size hl).mono ?_
  rintro e w' ⟨rfl, hE⟩
  obtain ⟨g', P', hp, hy⟩ := unhide hE
  exact ⟨rfl, nq_p h2 h3 h4 h5 h6 hp hy⟩
theorem nr_dial {w0 w : World} {N bm X : Nat} {Mp Mr : Nm} {T : Nat} {Z : Nat → Prop} (h : NQ w0 w N bm X Mp Mr T Z) (hM : Mok Mr) (hl : Mr.last < 1000000) (a b : Int) :
    Calls Try.prog 23 #[.pointer (some ⟨X, 0, none⟩), .int .i64 a, .int .i64 b] w fun e w' => e = .returned (.tuple #[.int .i64 (diN Mr a b), .int .i64 (diE Mr a b)]) ∧ Hid (NQ w0 w' N bm X Mp (diM Mr a b) T Z) ∧ Hid (ZS w w' Z) := by
  obtain ⟨g, P, R, h1, h2, h3, h4, h5, h6⟩ := h
  refine (rdial_all h2 hM h3 a b h5.size hl).mono ?_
  rintro e w' ⟨rfl, hE⟩
  obtain ⟨g', R', hr, hy⟩ := unhide hE
  exact ⟨rfl, nq_r h1 h3 h4 h5 h6 hr hy⟩
theorem np_send {w0 w : World} {N bm X : Nat} {Mp Mr : Nm} {T : Nat} {Z : Nat → Prop} (h : NQ w0 w N bm X Mp Mr T Z) (hM : Mok Mp) (id node : Int) (hid : (Lit.int .i64 id).wf = true) (a : Option Addr) (cap : Nat) (lb : List UInt8) (hs : Bs w a cap lb) (hlb : lb.length ≤ 1000000) :
    Calls Try.prog 21 #[.pointer (some ⟨N, 0, none⟩), .int .i64 id, .int .i64 node, .slice a lb.length cap] w fun e w' => e = .returned (.int .i64 (sdE Mp id node lb.length)) ∧ Hid (NQ w0 w' N bm X (sdM Mp id node lb) Mr T Z) ∧ Hid (ZS w w' Z) := by
  obtain ⟨g, P, R, h1, h2, h3, h4, h5, h6⟩ := h
  refine (psend_all h1 hM id node hid a cap lb hs hlb h5.size).mono ?_
  rintro e w' ⟨rfl, hE⟩
  obtain ⟨g', P', hp, hy⟩ := unhide hE
  exact ⟨rfl, nq_p h2 h3 h4 h5 h6 hp hy⟩
theorem nr_send {w0 w : World} {N bm X : Nat} {Mp Mr : Nm} {T : Nat} {Z : Nat → Prop} (h : NQ w0 w N bm X Mp Mr T Z) (hM : Mok Mr) (hT : T ≤ 120000000) (id node : Int) (a : Option Addr) (cap : Nat) (lb : List UInt8) (hs : Bs w a cap lb) (hlb : lb.length ≤ 1000000) :
    Calls Try.prog 25 #[.pointer (some ⟨X, 0, none⟩), .int .i64 id, .int .i64 node, .slice a lb.length cap] w fun e w' => e = .returned (.int .i64 (sdE Mr id node lb.length)) ∧ Hid (NQ w0 w' N bm X Mp (sdM Mr id node lb) (T + lb.length) Z) ∧ Hid (ZS w w' Z) := by
  obtain ⟨g, P, R, h1, h2, h3, h4, h5, h6⟩ := h
  refine (rsend_all h2 hM hT id node a cap lb hs (by omega) h5.size).mono ?_
  rintro e w' ⟨rfl, hE⟩
  obtain ⟨g', R', hr, hy⟩ := unhide hE
  exact ⟨rfl, nq_r h1 h3 h4 h5 h6 hr hy⟩
theorem np_carry {w0 w : World} {N bm X : Nat} {Mp Mr : Nm} {T : Nat} {Z : Nat → Prop} (h : NQ w0 w N bm X Mp Mr T Z) (hM : Mok Mp) (id node m : Int) (hid : (Lit.int .i64 id).wf = true) (hm1 : m ≤ 9223372036854775807) :
    Calls Try.prog 16 #[.pointer (some ⟨N, 0, none⟩), .int .i64 id, .int .i64 node, .int .i64 m] w fun e w' => ∃ x' k' r, e = .returned (.tuple #[.slice x' r.length k', .int .i64 (crE Mp id node m)]) ∧ Hid (r = crB Mp id node m) ∧ Hid (OwnB w' w.heap.size x' k' r) ∧ Hid (NQ w0 w' N bm X (crM Mp id node m) Mr T (fun b => Z b ∨ blk x' = some b)) ∧ Hid (ZS w w' Z) := by
  obtain ⟨g, P, R, h1, h2, h3, h4, h5, h6⟩ := h
  refine (pcarry_all h1 hM id node m hid hm1).mono ?_
  rintro e w' ⟨x', k', r, rfl, hr, ho, hE⟩
  obtain ⟨P', hp, hy⟩ := unhide hE
  obtain ⟨q1, q2⟩ := nq_p (Z := Z) h2 h3 h4 h5 h6 hp hy
  refine ⟨x', k', r, rfl, hr, ho, ?_, q2⟩
  refine ⟨g, P', R, hp, h2.ty hy (sp_not (i := 0)).2.1 (fun i => (sp_not (i := i)).1), hy.fr h3, h4, q1.bel, fun b hb => ?_⟩
  rcases hb with hb | hb
  · obtain ⟨a1, a2, a3⟩ := h6 b hb
    exact ⟨a1, Nat.lt_of_lt_of_le a2 hy.kp.size, a3⟩
  · have h7 := (unhide ho).lt b hb
    exact ⟨Nat.le_trans h5.size h7.1, h7.2, h3 b h7.1⟩
theorem nr_carry {w0 w : World} {N bm X : Nat} {Mp Mr : Nm} {T : Nat} {Z : Nat → Prop} (h : NQ w0 w N bm X Mp Mr T Z) (hM : Mok Mr) (hT : T ≤ 120000000) (id node m : Int) :
    Calls Try.prog 26 #[.pointer (some ⟨X, 0, none⟩), .int .i64 id, .int .i64 node, .int .i64 m] w fun e w' => ∃ x' k' r, e = .returned (.tuple #[.slice x' r.length k', .int .i64 (crE Mr id node m)]) ∧ Hid (r = crB Mr id node m) ∧ Hid (Bs w' x' k' r) ∧ Hid (NQ w0 w' N bm X Mp (crM Mr id node m) T Z) ∧ Hid (ZS w w' Z) := by
  obtain ⟨g, P, R, h1, h2, h3, h4, h5, h6⟩ := h
  refine (rcarry_all h2 hM hT h3 id node m h5.size).mono ?_
  rintro e w' ⟨x', k', r, rfl, hr, ho, hE⟩
  obtain ⟨g', R', hr', hy⟩ := unhide hE
  obtain ⟨q1, q2⟩ := nq_r (Z := Z) h1 h3 h4 h5 h6 hr' hy
  exact ⟨x', k', r, rfl, hr, ho, q1, q2⟩
theorem np_close {w0 w : World} {N bm X : Nat} {Mp Mr : Nm} {T : Nat} {Z : Nat → Prop} (h : NQ w0 w N bm X Mp Mr T Z) (hM : Mok Mp) (id node : Int) (hid : (Lit.int .i64 id).wf = true) :
    Calls Try.prog 27 #[.pointer (some ⟨N, 0, none⟩), .int .i64 id, .int .i64 node] w fun e w' => e = .returned (.int .i64 (clE Mp id node)) ∧ Hid (NQ w0 w' N bm X (clM Mp id node) Mr T Z) ∧ Hid (ZS w w' Z) := by
  obtain ⟨g, P, R, h1, h2, h3, h4, h5, h6⟩ := h
  refine (pclose_all h1 hM id node hid).mono ?_
  rintro e w' ⟨rfl, hE⟩
  obtain ⟨g', P', hp, hy⟩ := unhide hE
  exact ⟨rfl, nq_p h2 h3 h4 h5 h6 hp hy⟩
theorem nr_close {w0 w : World} {N bm X : Nat} {Mp Mr : Nm} {T : Nat} {Z : Nat → Prop} (h : NQ w0 w N bm X Mp Mr T Z) (hM : Mok Mr) (hT : T ≤ 120000000) (id node : Int) :
    Calls Try.prog 28 #[.pointer (some ⟨X, 0, none⟩), .int .i64 id, .int .i64 node] w fun e w' => e = .returned (.int .i64 (clE Mr id node)) ∧ Hid (NQ w0 w' N bm X Mp (clM Mr id node) T Z) ∧ Hid (ZS w w' Z) := by
  obtain ⟨g, P, R, h1, h2, h3, h4, h5, h6⟩ := h
  refine (rclose_all h2 hM hT id node h5.size).mono ?_
  rintro e w' ⟨rfl, hE⟩
  obtain ⟨g', R', hr, hy⟩ := unhide hE
  exact ⟨rfl, nq_r h1 h3 h4 h5 h6 hr hy⟩
theorem np_cut {w0 w : World} {N bm X : Nat} {Mp Mr : Nm} {T : Nat} {Z : Nat → Prop} (h : NQ w0 w N bm X Mp Mr T Z) (hM : Mok Mp) (id : Int) (hid : (Lit.int .i64 id).wf = true) :
    Calls Try.prog 17 #[.pointer (some ⟨N, 0, none⟩), .int .i64 id] w fun e w' => e = .returned (.int .i64 (cuE Mp id)) ∧ Hid (NQ w0 w' N bm X (cuM Mp id) Mr T Z) ∧ Hid (ZS w w' Z) := by
  obtain ⟨g, P, R, h1, h2, h3, h4, h5, h6⟩ := h
  refine (pcut_all h1 hM id hid).mono ?_
  rintro e w' ⟨rfl, hE⟩
  obtain ⟨g', P', hp, hy⟩ := unhide hE
  exact ⟨rfl, nq_p h2 h3 h4 h5 h6 hp hy⟩
theorem nr_cut {w0 w : World} {N bm X : Nat} {Mp Mr : Nm} {T : Nat} {Z : Nat → Prop} (h : NQ w0 w N bm X Mp Mr T Z) (hM : Mok Mr) (hT : T ≤ 120000000) (id : Int) :
    Calls Try.prog 29 #[.pointer (some ⟨X, 0, none⟩), .int .i64 id] w fun e w' => e = .returned (.int .i64 (cuE Mr id)) ∧ Hid (NQ w0 w' N bm X Mp (cuM Mr id) T Z) ∧ Hid (ZS w w' Z) := by
  obtain ⟨g, P, R, h1, h2, h3, h4, h5, h6⟩ := h
  refine (rcut_all h2 hM hT id h5.size).mono ?_
  rintro e w' ⟨rfl, hE⟩
  obtain ⟨g', R', hr, hy⟩ := unhide hE
  exact ⟨rfl, nq_r h1 h3 h4 h5 h6 hr hy⟩
theorem np_drop {w0 w : World} {N bm X : Nat} {Mp Mr : Nm} {T : Nat} {Z : Nat → Prop} (h : NQ w0 w N bm X Mp Mr T Z) (hM : Mok Mp) (node : Int) :
    Calls Try.prog 14 #[.pointer (some ⟨N, 0, none⟩), .int .i64 node] w fun e w' => e = .returned (.int .i64 (drN Mp node)) ∧ Hid (NQ w0 w' N bm X (drM Mp node) Mr T Z) ∧ Hid (ZS w w' Z) := by
  obtain ⟨g, P, R, h1, h2, h3, h4, h5, h6⟩ := h
  refine (pdrop_all h1 hM node).mono ?_
  rintro e w' ⟨rfl, hE⟩
  obtain ⟨g', P', hp, hy⟩ := unhide hE
  exact ⟨rfl, nq_p h2 h3 h4 h5 h6 hp hy⟩
theorem nr_drop {w0 w : World} {N bm X : Nat} {Mp Mr : Nm} {T : Nat} {Z : Nat → Prop} (h : NQ w0 w N bm X Mp Mr T Z) (hM : Mok Mr) (hT : T ≤ 120000000) (node : Int) :
    Calls Try.prog 15 #[.pointer (some ⟨X, 0, none⟩), .int .i64 node] w fun e w' => e = .returned (.int .i64 (drN Mr node)) ∧ Hid (NQ w0 w' N bm X Mp (drM Mr node) T Z) ∧ Hid (ZS w w' Z) := by
  obtain ⟨g, P, R, h1, h2, h3, h4, h5, h6⟩ := h
  refine (rdrop_all h2 hM hT node h5.size).mono ?_
  rintro e w' ⟨rfl, hE⟩
  obtain ⟨g', R', hr, hy⟩ := unhide hE
  exact ⟨rfl, nq_r h1 h3 h4 h5 h6 hr hy⟩
/-- The program's net is asked. -/
theorem np_ends {w0 w : World} {N bm X : Nat} {Mp Mr : Nm} {T : Nat} {Z : Nat → Prop} (h : NQ w0 w N bm X Mp Mr T Z) (hM : Mok Mp) (id : Int) (hid : (Lit.int .i64 id).wf = true) :
    Calls Try.prog 13 #[.pointer (some ⟨N, 0, none⟩), .int .i64 id] w fun e w' => e = .returned (.tuple #[.int .i64 (enP Mp id), .int .i64 (enQ Mp id), .int .i64 (cuE Mp id)]) ∧ Hid (Below w.heap.size w w') := by
  obtain ⟨g, P, R, h1, _⟩ := h
  exact pends_all h1 hM id hid
theorem np_wait {w0 w : World} {N bm X : Nat} {Mp Mr : Nm} {T : Nat} {Z : Nat → Prop} (h : NQ w0 w N bm X Mp Mr T Z) (hM : Mok Mp) (id node : Int) (hid : (Lit.int .i64 id).wf = true) :
    Calls Try.prog 33 #[.pointer (some ⟨N, 0, none⟩), .int .i64 id, .int .i64 node] w fun e w' => e = .returned (.tuple #[.int .i64 (waN Mp id node), .int .i64 (waE Mp id node)]) ∧ Hid (Below w.heap.size w w') := by
  obtain ⟨g, P, R, h1, _⟩ := h
  exact pwait_all h1 hM id node hid
theorem np_done {w0 w : World} {N bm X : Nat} {Mp Mr : Nm} {T : Nat} {Z : Nat → Prop} (h : NQ w0 w N bm X Mp Mr T Z) (hM : Mok Mp) (id node : Int) (hid : (Lit.int .i64 id).wf = true) :
    Calls Try.prog 18 #[.pointer (some ⟨N, 0, none⟩), .int .i64 id, .int .i64 node] w fun e w' => e = .returned (.bool (dnB Mp id node)) ∧ Hid (Below w.heap.size w w') := by
  obtain ⟨g, P, R, h1, _⟩ := h
  exact pdone_all h1 hM id node hid
theorem np_conns {w0 w : World} {N bm X : Nat} {Mp Mr : Nm} {T : Nat} {Z : Nat → Prop} (h : NQ w0 w N bm X Mp Mr T Z) (hM : Mok Mp) :
    Calls Try.prog 11 #[.pointer (some ⟨N, 0, none⟩)] w fun e w' => ∃ a c l, e = .returned (.slice a l.length c) ∧ Hid (l = Mp.ids) ∧ Hid (IRow w' a l) ∧ Hid (Below w.heap.size w w') := by
  obtain ⟨g, P, R, h1, _⟩ := h
  exact pconns_all h1 hM
#print axioms nr_drop
#print axioms np_carry
end Go.Proofs.Ytohlmfiicfoimaa
