/-
  link: the calls of LinkOrder on its state.
-/
import Derived.Test.YtmpaekhklfnkfaaLnoG
set_option linter.unusedVariables false
namespace Go.Proofs.Ytmpaekhklfnkfaa
open Go.RowKit Go.Maps

theorem one_wf : (Lit.int .i64 1).wf = true := by decide
section
variable {w0 w : World} {N bm S R C : Nat} {last : Int} {n : Nat} {D : DataW Unit} {c : Nat → Bool} {A : Nat → Option Addr} {K : Nat → Nat} {L : Nat → List UInt8} {z : Nat}

theorem dial_lo (h : LB w0 w N bm S R C last n D c A K L z) (hz : z ≤ 1000) (a b : Int) :
    Calls Try.prog 13 #[.pointer (some ⟨N, 0, none⟩), .int .i64 a, .int .i64 b] w fun e w' => ∃ r code last' n' D', e = .returned (.tuple #[.int .i64 r, .int .i64 code]) ∧ Hid (LB w0 w' N bm S R C last' n' D' c A K L (z + 1)) := by
  have hlz := h.lz
  by_cases hbad : a = b ∨ ¬ (0 ≤ a ∧ a < 16) ∨ ¬ (0 ≤ b ∧ b < 16)
  · refine (dial_arg N bm last n D a b w h.nt hbad).mono ?_
    rintro e w' ⟨rfl, rfl⟩
    exact ⟨_, _, last, n, D, rfl, h.more (Nat.le_succ _)⟩
  · by_cases hf : 64 ≤ Maps.size D
    · refine (dial_full N bm last n D a b w h.nt (by omega) (by omega) (by omega) (by omega) (by omega) hf).mono ?_
      rintro e w' ⟨rfl, rfl⟩
      exact ⟨_, _, last, n, D, rfl, h.more (Nat.le_succ _)⟩
    · refine (dial_c N bm last n D a b w h.nt (by omega) (by omega) (by omega) (by omega) (by omega) (by omega) (by omega) (by omega) (by omega)).mono ?_
      rintro e w' ⟨rfl, hd⟩
      obtain ⟨C', hC', hn', hc', hk'⟩ := unhide hd
      refine ⟨_, _, last + 1, n + 1, D.put (.int .i64 (last + 1)) (.lit (.int .i64 (C' : Int))), rfl, ?_⟩
      have hne : (Lit.int .i64 1) ≠ (Lit.int .i64 (last + 1)) := by
        intro e
        injection e with _ e2
        omega
      have hat : AtC (D.put (.int .i64 (last + 1)) (.lit (.int .i64 (C' : Int)))) 1 C ∨ (OffC (D.put (.int .i64 (last + 1)) (.lit (.int .i64 (C' : Int)))) 1 ∧ L 0 = [] ∧ L 1 = []) := by
        rcases h.at1 with ⟨a1, a2⟩ | ⟨a1, a2⟩
        · exact .inl ⟨(Maps.atKey_put_other hne _ _).trans a1, (Maps.has_put_other hne _).trans a2⟩
        · exact .inr ⟨(Maps.has_put_other hne _).trans a1, a2⟩
      have hneC := h.nt.neC h.con
      have := h.step (t := 0) (by omega) (w' := w') (c' := c) (x' := A 0) (k' := K 0) (l' := L 0) (z' := z + 1) ⟨hk'.os, hk'.tape, hk'.output, hk'.size, fun j hj hs => hk'.block j hj (fun e => hs (by rcases e with e | e; exact .inl e; exact .inr (.inl e)))⟩ hn'
        (by rw [upd_self, upd_self, upd_self]; exact h.con.move (hk'.block C h.con.lt (by rintro (e | e); exact hneC.1 e.symm; exact hneC.2 e.symm)))
        ((h.rows 0 (by omega)).kp hk' (fun g hg => by have a1 := h.nt.neB (h.rows 0 (by omega)); rintro (e | e); subst e; exact a1.1 hg; subst e; exact a1.2 hg)) (.inr (.inl rfl)) (by rw [upd_self]; exact hat) h.lq.1 (by omega)
      rw [upd_self, upd_self, upd_self] at this
      exact this

/-- Send from end i; t is the other one. -/
theorem send_lo (h : LB w0 w N bm S R C last n D c A K L z) (i t : Nat) (hit : (i = 0 ∧ t = 1) ∨ (i = 1 ∧ t = 0)) (node : Int) (hnode : node = (i : Int)) (a : Option Addr) (cap : Nat) (lb : List UInt8) (hs : Bs w a cap lb) (hlb : lb.length ≤ 1000000) :
    Calls Try.prog 14 #[.pointer (some ⟨N, 0, none⟩), .int .i64 1, .int .i64 node, .slice a lb.length cap] w fun e w' => (∃ code, e = .returned (.int .i64 code) ∧ code ≠ 0 ∧ Hid (LB w0 w' N bm S R C last n D c A K L z)) ∨
      (e = .returned (.int .i64 0) ∧ Hid (Kp w w' (fun j => j = C ∨ blk (A t) = some j)) ∧ ∃ x' k', Hid (LB w0 w' N bm S R C last n D c (upd A t x') (upd K t k') (upd L t (L t ++ lb)) z)) := by
  subst hnode
  rcases h.at1 with hat | ⟨hoff, h0, h1⟩
  · have fin : ∀ w', SentC w w' N bm last n D C 0 1 c A K L t w0.heap.size lb → ¬ 131072 < (L t).length + lb.length → Hid (Kp w w' (fun j => j = C ∨ blk (A t) = some j)) ∧ ∃ x' k', Hid (LB w0 w' N bm S R C last n D c (upd A t x') (upd K t k') (upd L t (L t ++ lb)) z) := by
      rintro w' ⟨x', k', r, rfl, q1, q2, q3, q4, q5⟩ hl
      refine ⟨q4, x', k', h.step (t := t) (by omega) ⟨q4.os, q4.tape, q4.output, q4.size, fun j hj hs => q4.block j hj (fun e => hs (by rcases e with e | e; exact .inr (.inr (.inl e)); exact .inr (.inr (.inr e))))⟩ q1 q2 q3 (.inr q5) (.inl hat) (by rw [List.length_append]; omega) h.lz⟩
    have hq := h.lq
    rcases hit with ⟨rfl, rfl⟩ | ⟨rfl, rfl⟩
    · refine (send_c0 N bm last n D 1 C 0 1 c A K L w0.heap.size a cap lb lb.length _ w h.nt one_wf hat h.con (by decide) (h.rows 1 (by omega)) h.bel.size hs rfl (by omega) hlb rfl).mono ?_
      rintro e w' ⟨rfl, ⟨q1, q2⟩ | ⟨q1, q2⟩⟩
      · exact .inl ⟨_, rfl, q1, h.below q2⟩
      · refine .inr ⟨by rw [q1], fin w' (unhide q2) ?_⟩
        intro hl
        rw [if_pos hl] at q1
        split at q1 <;> omega
    · refine (send_c1 N bm last n D 1 C 0 1 c A K L w0.heap.size a cap lb lb.length _ w h.nt one_wf hat h.con (by decide) (h.rows 0 (by omega)) h.bel.size hs rfl (by omega) hlb rfl).mono ?_
      rintro e w' ⟨rfl, ⟨q1, q2⟩ | ⟨q1, q2⟩⟩
      · exact .inl ⟨_, rfl, q1, h.below q2⟩
      · refine .inr ⟨by rw [q1], fin w' (unhide q2) ?_⟩
        intro hl
        rw [if_pos hl] at q1
        split at q1 <;> omega
  · refine (send_off N bm last n D 1 _ a lb.length cap w h.nt one_wf hoff).mono ?_
    rintro e w' ⟨rfl, rfl⟩
    exact .inl ⟨30, rfl, by omega, h⟩

theorem forg_at {D' : DataW Unit} {c' : Nat → Bool} {L' : Nat → List UInt8} (hat : AtC D 1 C) (hf : Forg D D' 1 c' L') : AtC D' 1 C ∨ (OffC D' 1 ∧ L' 0 = [] ∧ L' 1 = []) := by
  rcases hf with ⟨rfl, _⟩ | ⟨rfl, _, a2, _, a4⟩
  · exact .inl hat
  · exact .inr ⟨Maps.has_del_same, a2, a4⟩

/-- Carry to end i. -/
theorem carry_lo (h : LB w0 w N bm S R C last n D c A K L z) (i : Nat) (hi : i = 0 ∨ i = 1) (node : Int) (hnode : node = (i : Int)) (m : Int) (hm1 : m ≤ 9223372036854775807) :
    Calls Try.prog 15 #[.pointer (some ⟨N, 0, none⟩), .int .i64 1, .int .i64 node, .int .i64 m] w fun e w' => ∃ a' cap' r code, e = .returned (.tuple #[.slice a' r.length cap', .int .i64 code]) ∧ Hid (OwnB w' w.heap.size a' cap' r) ∧
      ∃ x' k' l' D', Hid (LB w0 w' N bm S R C last n D' c (upd A i x') (upd K i k') (upd L i l') z) ∧ Hid (L i = r ++ l') ∧ Hid (m = 1048576 → l' = []) := by
  subst hnode
  have hq := h.lq
  have same : ∀ w', Below w.heap.size w w' → Hid (LB w0 w' N bm S R C last n D c (upd A i (A i)) (upd K i (K i)) (upd L i (L i)) z) := by
    intro w' hb
    rw [upd_self, upd_self, upd_self]
    exact h.below hb
  rcases h.at1 with hat | ⟨hoff, h0, h1⟩
  · by_cases hneg : m < 0
    · refine (carry_neg N bm last n D 1 C 0 1 c A K L i i m w h.nt one_wf hat h.con (by show _ = _; rcases hi with rfl | rfl <;> simp) (by omega) hneg).mono ?_
      rintro e w' ⟨rfl, hb⟩
      exact ⟨none, 0, [], 1, rfl, OwnB.nil _ _, A i, K i, L i, D, same w' hb, rfl, fun e => by omega⟩
    · have fin : ∀ w' a' cap' r, Hid (r = (L i).take (min m.toNat (L i).length)) → Hid (OwnB w' w.heap.size a' cap' r) → CarrC w w' N bm last n D 1 C 0 1 c A K L i w0.heap.size (min m.toNat (L i).length) → ∃ a'' cap'' r' code, Ending.returned (.tuple #[.slice a' r.length cap', .int .i64 0]) = .returned (.tuple #[.slice a'' r'.length cap'', .int .i64 code]) ∧ Hid (OwnB w' w.heap.size a'' cap'' r') ∧ ∃ x' k' l' D', Hid (LB w0 w' N bm S R C last n D' c (upd A i x') (upd K i k') (upd L i l') z) ∧ Hid (L i = r' ++ l') ∧ Hid (m = 1048576 → l' = []) := by
        rintro w' a' cap' r hr ho ⟨x', k', D', q1, q2, q3, q4, q5, q6⟩
        refine ⟨a', cap', r, 0, rfl, ho, x', k', _, D', h.step (t := i) (by omega) ⟨q4.os, q4.tape, q4.output, q4.size, fun j hj hs => q4.block j hj (fun e => hs (by rcases e with e | e; exact .inr (.inr (.inl e)); exact .inr (.inl e)))⟩ q1 q2 q3 ?_ (forg_at hat q6) ?_ h.lz, ?_, ?_⟩
        · rcases q5 with e | e
          · exact .inl e
          · exact .inr (.inl e)
        · rw [List.length_drop]; rcases hi with rfl | rfl <;> omega
        · show _ = _
          rw [unhide hr, List.take_append_drop]
        · intro e
          apply List.drop_eq_nil_of_le
          rcases hi with rfl | rfl <;> omega
      rcases hi with rfl | rfl
      · refine (carry_c0 N bm last n D 1 C 0 1 c A K L w0.heap.size m _ w h.nt one_wf hat h.con (by decide) (h.rows 0 (by omega)) (by omega) (by omega) (by omega) hm1 rfl).mono ?_
        rintro e w' ⟨a', cap', r, rfl, hr, ho, hc⟩
        exact fin w' a' cap' r hr ho (unhide hc)
      · refine (carry_c1 N bm last n D 1 C 0 1 c A K L w0.heap.size m _ w h.nt one_wf hat h.con (by decide) (h.rows 1 (by omega)) (by omega) (by omega) (by omega) hm1 rfl).mono ?_
        rintro e w' ⟨a', cap', r, rfl, hr, ho, hc⟩
        exact fin w' a' cap' r hr ho (unhide hc)
  · refine (carry_off N bm last n D 1 i m w h.nt one_wf hoff).mono ?_
    rintro e w' ⟨rfl, rfl⟩
    exact ⟨none, 0, [], 30, rfl, OwnB.nil _ _, A i, K i, L i, D, same w' (Below.refl _ _), rfl, fun _ => by rcases hi with rfl | rfl; exact h0; exact h1⟩

/-- Close of end i. -/
theorem close_lo (h : LB w0 w N bm S R C last n D c A K L z) (i : Nat) (hi : i = 0 ∨ i = 1) (node : Int) (hnode : node = (i : Int)) :
    Calls Try.prog 16 #[.pointer (some ⟨N, 0, none⟩), .int .i64 1, .int .i64 node] w fun e w' => ∃ code D' c', e = .returned (.int .i64 code) ∧ Hid (LB w0 w' N bm S R C last n D' c' A K L z) := by
  subst hnode
  have hq := h.lq
  rcases h.at1 with hat | ⟨hoff, h0, h1⟩
  · have fin : ∀ w', ClosC w w' N bm last n D 1 C 0 1 c A K L i → ∃ D', Hid (LB w0 w' N bm S R C last n D' (upd c i true) A K L z) := by
      rintro w' ⟨D', q1, q2, q3, q4⟩
      have hneB := h.nt.neB (h.rows 0 (by omega))
      have hneC := h.con.neB (h.rows 0 (by omega))
      have := h.step (t := 0) (by omega) (w' := w') (c' := upd c i true) (x' := A 0) (k' := K 0) (l' := L 0) (z' := z) ⟨q3.os, q3.tape, q3.output, q3.size, fun j hj hs => q3.block j hj (fun e => hs (by rcases e with e | e; exact .inr (.inr (.inl e)); exact .inr (.inl e)))⟩ q1 (by rw [upd_self, upd_self, upd_self]; exact q2)
        ((h.rows 0 (by omega)).kp q3 (fun g hg => by rintro (e | e); subst e; exact hneC hg; subst e; exact hneB.2 hg)) (.inr (.inl rfl)) (by rw [upd_self]; exact forg_at hat q4) h.lq.1 h.lz
      rw [upd_self, upd_self, upd_self] at this
      exact ⟨D', this⟩
    rcases hi with rfl | rfl
    · refine (close_c0 N bm last n D 1 C 0 1 c A K L w h.nt one_wf hat h.con (by decide) (by omega) (by omega) _ rfl).mono ?_
      rintro e w' ⟨rfl, ⟨q1, q2⟩ | ⟨q1, q2⟩⟩
      · exact ⟨_, D, c, rfl, h.below q2⟩
      · obtain ⟨D', hD⟩ := fin w' (unhide q2)
        exact ⟨_, D', _, rfl, hD⟩
    · refine (close_c1 N bm last n D 1 C 0 1 c A K L w h.nt one_wf hat h.con (by decide) (by omega) (by omega) _ rfl).mono ?_
      rintro e w' ⟨rfl, ⟨q1, q2⟩ | ⟨q1, q2⟩⟩
      · exact ⟨_, D, c, rfl, h.below q2⟩
      · obtain ⟨D', hD⟩ := fin w' (unhide q2)
        exact ⟨_, D', _, rfl, hD⟩
  · refine (close_off N bm last n D 1 i w h.nt one_wf hoff).mono ?_
    rintro e w' ⟨rfl, rfl⟩
    exact ⟨30, D, c, rfl, h⟩
end
#print axioms dial_lo
#print axioms send_lo
#print axioms carry_lo
#print axioms close_lo
end Go.Proofs.Ytmpaekhklfnkfaa
