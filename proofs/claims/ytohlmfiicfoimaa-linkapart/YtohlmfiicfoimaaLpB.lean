/-
  link, the program's net: each call, by the model.
-/
import Derived.Test.YtohlmfiicfoimaaLpA
set_option linter.unusedVariables false
namespace Go.Proofs.Ytohlmfiicfoimaa
open Go.RowKit Go.Maps

theorem psent_0 {w w' : World} {g : Nat → Tag} {N bm base : Nat} {M : Nm} {P : Nat → Pg} {n : Nat} {D : DataW Unit} (h : PNL w g N bm base M P n D) (hM : Mok M) {c : Cn} (hc : c ∈ M.cs) (lb : List UInt8) (hl : (c.rows 0 (c.L 0 ++ lb)).live = true)
    (hs : SentC w w' N bm (M.last : Nat) n D (P c.id).C c.p c.q c.c (P c.id).A (P c.id).K c.L 0 base lb) : PEnd w w' g N bm base (M.set (c.rows 0 (c.L 0 ++ lb))).keep := by
  obtain ⟨x', k', r, hr, hnt, hcon, hcm, hk, hf⟩ := hs
  have hp := h.con c hc
  have hoC : ∀ b, blk ((P c.id).A 1) = some b → b ≠ (P c.id).C := fun b hb e => hp.con.neB hp.c1 (by rw [hb, e])
  have hxl := hcm.lt
  have hy : Ty w w' g (tagO g x' (1, c.id)) (fun t => t = (1, c.id) ∨ t = (3, 0)) := by
    refine ⟨⟨hk.os, hk.tape, hk.output, hk.size, fun k hk' hn => hk.block k hk' ?_⟩, fun k hk' => ?_⟩
    · rintro (e | e)
      · exact hn (.inl (by rw [e]; exact hp.tC))
      · exact hn (.inl (hp.g0 k e))
    · by_cases e : blk x' = some k
      · rw [tagO_same g _ e]
        have h1 := (hxl k e).2
        rcases hf with h2 | h2
        · exact (hp.g0 k (h2 ▸ e)).symm
        · have := h2 k e; omega
      · exact tagO_other g _ e
  have hne : ∀ b, blk ((P c.id).A 1) = some b → blk x' ≠ some b := fun b hb e => by
    rcases hf with h2 | h2
    · exact hp.ne b (h2 ▸ e) hb
    · have h3 := h2 b e; have h4 := (hp.c1.lt b hb).2; omega
  have q0 : Cmg w' base (upd (P c.id).A 0 x' 0) (upd (P c.id).K 0 k' 0) ((c.rows 0 (c.L 0 ++ lb)).L 0) := by
    show Cmg w' base x' k' (upd c.L 0 (c.L 0 ++ lb) 0)
    rw [upd_same, ← hr]; exact hcm
  have q1 : Cmg w' base (upd (P c.id).A 0 x' 1) (upd (P c.id).K 0 k' 1) ((c.rows 0 (c.L 0 ++ lb)).L 1) := hp.c1.kp hk (fun b hb => by
    rintro (e | e)
    · exact hoC b hb e
    · exact hp.ne b e hb)
  have j0 : ∀ b, blk (upd (P c.id).A 0 x' 0) = some b → tagO g x' (1, c.id) b = (1, c.id) := fun b hb => tagO_same g _ hb
  have j1 : ∀ b, blk (upd (P c.id).A 0 x' 1) = some b → tagO g x' (1, c.id) b = (1, c.id) := fun b hb => by
    rw [tagO_other g _ (hne b hb)]; exact hp.g1 b hb
  have hrc : PCon w' (tagO g x' (1, c.id)) base ⟨(P c.id).C, upd (P c.id).A 0 x', upd (P c.id).K 0 k'⟩ (c.rows 0 (c.L 0 ++ lb)) := by
    refine ⟨?_, q0, q1, ?_, j0, j1, ?_⟩
    · rw [hr] at hcon; exact hcon
    · rw [tagO_other g _ (fun e => by
        rcases hf with h2 | h2
        · exact hp.con.neB hp.c0 (h2 ▸ e)
        · have h3 : w.heap.size ≤ (P c.id).C := h2 _ e; have h4 := hp.con.lt; omega)]
      exact hp.tC
    · exact fun b hb e => hne b e hb
  exact ⟨_, _, ⟨n, D, h.turn hM hc (c' := c.rows 0 (c.L 0 ++ lb)) (r' := ⟨(P c.id).C, upd (P c.id).A 0 x', upd (P c.id).K 0 k'⟩) rfl rfl hnt (.inl ⟨rfl, (live_iff _).1 hl⟩) hy hrc⟩, hy.mono (fun t ht => by rcases ht with rfl | rfl; exact sp1 _; exact sp3)⟩
theorem pcarr_0 {w w' : World} {g : Nat → Tag} {N bm base : Nat} {M : Nm} {P : Nat → Pg} {n : Nat} {D : DataW Unit} (h : PNL w g N bm base M P n D) (hM : Mok M) {c : Cn} (hc : c ∈ M.cs) (K : Nat)
    (hs : CarrC w w' N bm (M.last : Nat) n D (c.id : Int) (P c.id).C c.p c.q c.c (P c.id).A (P c.id).K c.L 0 base K) : ∃ P', PN w' g N bm base (M.set (c.rows 0 ((c.L 0).drop K))).keep P' ∧ Ty w w' g g Sp := by
  obtain ⟨x', k', D', hnt, hcon, hcm, hk, hf, hfo⟩ := hs
  have hp := h.con c hc
  have hoC : ∀ b, blk ((P c.id).A 1) = some b → b ≠ (P c.id).C := fun b hb e => hp.con.neB hp.c1 (by rw [hb, e])
  have hoM : ∀ b, blk ((P c.id).A 1) = some b → b ≠ bm := fun b hb e => (h.nt.neB hp.c1).2 (by rw [hb, e])
  have hy : Ty w w' g g (fun t => t = (1, c.id) ∨ t = (3, 0)) := by
    refine ⟨⟨hk.os, hk.tape, hk.output, hk.size, fun k hk' hn => hk.block k hk' ?_⟩, fun k _ => rfl⟩
    rintro (e | e)
    · exact hn (.inl (by rw [e]; exact hp.tC))
    · exact hn (.inr (by rw [e]; exact h.tM))
  have q0 : Cmg w' base (upd (P c.id).A 0 x' 0) (upd (P c.id).K 0 k' 0) ((c.rows 0 ((c.L 0).drop K)).L 0) := by
    show Cmg w' base x' k' (upd c.L 0 ((c.L 0).drop K) 0)
    rw [upd_same]; exact hcm
  have q1 : Cmg w' base (upd (P c.id).A 0 x' 1) (upd (P c.id).K 0 k' 1) ((c.rows 0 ((c.L 0).drop K)).L 1) := hp.c1.kp hk (fun b hb => by
    rintro (e | e)
    · exact hoC b hb e
    · exact hoM b hb e)
  have hx : ∀ b, blk x' = some b → blk ((P c.id).A 0) = some b := fun b hb => by
    rcases hf with h2 | h2
    · rw [h2] at hb; cases hb
    · rw [← h2]; exact hb
  have j0 : ∀ b, blk (upd (P c.id).A 0 x' 0) = some b → g b = (1, c.id) := fun b hb => hp.g0 b (hx b hb)
  have j1 : ∀ b, blk (upd (P c.id).A 0 x' 1) = some b → g b = (1, c.id) := fun b hb => hp.g1 b hb
  have hrc : PCon w' g base ⟨(P c.id).C, upd (P c.id).A 0 x', upd (P c.id).K 0 k'⟩ (c.rows 0 ((c.L 0).drop K)) :=
    ⟨hcon, q0, q1, hp.tC, j0, j1, fun b hb e => hp.ne b (hx b hb) e⟩
  exact ⟨_, ⟨n, D', h.turn hM hc (c' := c.rows 0 ((c.L 0).drop K)) (r' := ⟨(P c.id).C, upd (P c.id).A 0 x', upd (P c.id).K 0 k'⟩) rfl rfl hnt hfo hy hrc⟩, hy.mono (fun t ht => by rcases ht with rfl | rfl; exact sp1 _; exact sp3)⟩
theorem pclos_0 {w w' : World} {g : Nat → Tag} {N bm base : Nat} {M : Nm} {P : Nat → Pg} {n : Nat} {D : DataW Unit} (h : PNL w g N bm base M P n D) (hM : Mok M) {c : Cn} (hc : c ∈ M.cs)
    (hs : ClosC w w' N bm (M.last : Nat) n D (c.id : Int) (P c.id).C c.p c.q c.c (P c.id).A (P c.id).K c.L 0) : PEnd w w' g N bm base (M.set (c.shut 0)).keep := by
  obtain ⟨D', hnt, hcon, hk, hfo⟩ := hs
  have hp := h.con c hc
  have hy : Ty w w' g g (fun t => t = (1, c.id) ∨ t = (3, 0)) := by
    refine ⟨⟨hk.os, hk.tape, hk.output, hk.size, fun k hk' hn => hk.block k hk' ?_⟩, fun k _ => rfl⟩
    rintro (e | e)
    · exact hn (.inl (by rw [e]; exact hp.tC))
    · exact hn (.inr (by rw [e]; exact h.tM))
  have q : ∀ i, i = 0 ∨ i = 1 → Cmg w base ((P c.id).A i) ((P c.id).K i) (c.L i) → Cmg w' base ((P c.id).A i) ((P c.id).K i) (c.L i) := fun i _ hi => hi.kp hk (fun b hb => by
    rintro (e | e)
    · exact hp.con.neB hi (by rw [hb, e])
    · exact (h.nt.neB hi).2 (by rw [hb, e]))
  have hrc : PCon w' g base (P c.id) (c.shut 0) := ⟨hcon, q 0 (.inl rfl) hp.c0, q 1 (.inr rfl) hp.c1, hp.tC, hp.g0, hp.g1, hp.ne⟩
  exact ⟨g, _, ⟨n, D', h.turn hM hc (c' := c.shut 0) rfl rfl hnt hfo hy hrc⟩, hy.mono (fun t ht => by rcases ht with rfl | rfl; exact sp1 _; exact sp3)⟩

theorem psent_1 {w w' : World} {g : Nat → Tag} {N bm base : Nat} {M : Nm} {P : Nat → Pg} {n : Nat} {D : DataW Unit} (h : PNL w g N bm base M P n D) (hM : Mok M) {c : Cn} (hc : c ∈ M.cs) (lb : List UInt8) (hl : (c.rows 1 (c.L 1 ++ lb)).live = true)
    (hs : SentC w w' N bm (M.last : Nat) n D (P c.id).C c.p c.q c.c (P c.id).A (P c.id).K c.L 1 base lb) : PEnd w w' g N bm base (M.set (c.rows 1 (c.L 1 ++ lb))).keep := by
  obtain ⟨x', k', r, hr, hnt, hcon, hcm, hk, hf⟩ := hs
  have hp := h.con c hc
  have hoC : ∀ b, blk ((P c.id).A 0) = some b → b ≠ (P c.id).C := fun b hb e => hp.con.neB hp.c0 (by rw [hb, e])
  have hxl := hcm.lt
  have hy : Ty w w' g (tagO g x' (1, c.id)) (fun t => t = (1, c.id) ∨ t = (3, 0)) := by
    refine ⟨⟨hk.os, hk.tape, hk.output, hk.size, fun k hk' hn => hk.block k hk' ?_⟩, fun k hk' => ?_⟩
    · rintro (e | e)
      · exact hn (.inl (by rw [e]; exact hp.tC))
      · exact hn (.inl (hp.g1 k e))
    · by_cases e : blk x' = some k
      · rw [tagO_same g _ e]
        have h1 := (hxl k e).2
        rcases hf with h2 | h2
        · exact (hp.g1 k (h2 ▸ e)).symm
        · have := h2 k e; omega
      · exact tagO_other g _ e
  have hne : ∀ b, blk ((P c.id).A 0) = some b → blk x' ≠ some b := fun b hb e => by
    rcases hf with h2 | h2
    · exact hp.ne b hb (h2 ▸ e)
    · have h3 := h2 b e; have h4 := (hp.c0.lt b hb).2; omega
  have q1 : Cmg w' base (upd (P c.id).A 1 x' 1) (upd (P c.id).K 1 k' 1) ((c.rows 1 (c.L 1 ++ lb)).L 1) := by
    show Cmg w' base x' k' (upd c.L 1 (c.L 1 ++ lb) 1)
    rw [upd_same, ← hr]; exact hcm
  have q0 : Cmg w' base (upd (P c.id).A 1 x' 0) (upd (P c.id).K 1 k' 0) ((c.rows 1 (c.L 1 ++ lb)).L 0) := hp.c0.kp hk (fun b hb => by
    rintro (e | e)
    · exact hoC b hb e
    · exact hp.ne b hb e)
  have j1 : ∀ b, blk (upd (P c.id).A 1 x' 1) = some b → tagO g x' (1, c.id) b = (1, c.id) := fun b hb => tagO_same g _ hb
  have j0 : ∀ b, blk (upd (P c.id).A 1 x' 0) = some b → tagO g x' (1, c.id) b = (1, c.id) := fun b hb => by
    rw [tagO_other g _ (hne b hb)]; exact hp.g0 b hb
  have hrc : PCon w' (tagO g x' (1, c.id)) base ⟨(P c.id).C, upd (P c.id).A 1 x', upd (P c.id).K 1 k'⟩ (c.rows 1 (c.L 1 ++ lb)) := by
    refine ⟨?_, q0, q1, ?_, j0, j1, ?_⟩
    · rw [hr] at hcon; exact hcon
    · rw [tagO_other g _ (fun e => by
        rcases hf with h2 | h2
        · exact hp.con.neB hp.c1 (h2 ▸ e)
        · have h3 : w.heap.size ≤ (P c.id).C := h2 _ e; have h4 := hp.con.lt; omega)]
      exact hp.tC
    · exact fun b hb => hne b hb
  exact ⟨_, _, ⟨n, D, h.turn hM hc (c' := c.rows 1 (c.L 1 ++ lb)) (r' := ⟨(P c.id).C, upd (P c.id).A 1 x', upd (P c.id).K 1 k'⟩) rfl rfl hnt (.inl ⟨rfl, (live_iff _).1 hl⟩) hy hrc⟩, hy.mono (fun t ht => by rcases ht with rfl | rfl; exact sp1 _; exact sp3)⟩
theorem pcarr_1 {w w' : World} {g : Nat → Tag} {N bm base : Nat} {M : Nm} {P : Nat → Pg} {n : Nat} {D : DataW Unit} (h : PNL w g N bm base M P n D) (hM : Mok M) {c : Cn} (hc : c ∈ M.cs) (K : Nat)
    (hs : CarrC w w' N bm (M.last : Nat) n D (c.id : Int) (P c.id).C c.p c.q c.c (P c.id).A (P c.id).K c.L 1 base K) : ∃ P', PN w' g N bm base (M.set (c.rows 1 ((c.L 1).drop K))).keep P' ∧ Ty w w' g g Sp := by
  obtain ⟨x', k', D', hnt, hcon, hcm, hk, hf, hfo⟩ := hs
  have hp := h.con c hc
  have hoC : ∀ b, blk ((P c.id).A 0) = some b → b ≠ (P c.id).C := fun b hb e => hp.con.neB hp.c0 (by rw [hb, e])
  have hoM : ∀ b, blk ((P c.id).A 0) = some b → b ≠ bm := fun b hb e => (h.nt.neB hp.c0).2 (by rw [hb, e])
  have hy : Ty w w' g g (fun t => t = (1, c.id) ∨ t = (3, 0)) := by
    refine ⟨⟨hk.os, hk.tape, hk.output, hk.size, fun k hk' hn => hk.block k hk' ?_⟩, fun k _ => rfl⟩
    rintro (e | e)
    · exact hn (.inl (by rw [e]; exact hp.tC))
    · exact hn (.inr (by rw [e]; exact h.tM))
  have q1 : Cmg w' base (upd (P c.id).A 1 x' 1) (upd (P c.id).K 1 k' 1) ((c.rows 1 ((c.L 1).drop K)).L 1) := by
    show Cmg w' base x' k' (upd c.L 1 ((c.L 1).drop K) 1)
    rw [upd_same]; exact hcm
  have q0 : Cmg w' base (upd (P c.id).A 1 x' 0) (upd (P c.id).K 1 k' 0) ((c.rows 1 ((c.L 1).drop K)).L 0) := hp.c0.kp hk (fun b hb => by
    rintro (e | e)
    · exact hoC b hb e
    · exact hoM b hb e)
  have hx : ∀ b, blk x' = some b → blk ((P c.id).A 1) = some b := fun b hb => by
    rcases hf with h2 | h2
    · rw [h2] at hb; cases hb
    · rw [← h2]; exact hb
  have j1 : ∀ b, blk (upd (P c.id).A 1 x' 1) = some b → g b = (1, c.id) := fun b hb => hp.g1 b (hx b hb)
  have j0 : ∀ b, blk (upd (P c.id).A 1 x' 0) = some b → g b = (1, c.id) := fun b hb => hp.g0 b hb
  have hrc : PCon w' g base ⟨(P c.id).C, upd (P c.id).A 1 x', upd (P c.id).K 1 k'⟩ (c.rows 1 ((c.L 1).drop K)) :=
    ⟨hcon, q0, q1, hp.tC, j0, j1, fun b hb e => hp.ne b hb (hx b e)⟩
  exact ⟨_, ⟨n, D', h.turn hM hc (c' := c.rows 1 ((c.L 1).drop K)) (r' := ⟨(P c.id).C, upd (P c.id).A 1 x', upd (P c.id).K 1 k'⟩) rfl rfl hnt hfo hy hrc⟩, hy.mono (fun t ht => by rcases ht with rfl | rfl; exact sp1 _; exact sp3)⟩
theorem pclos_1 {w w' : World} {g : Nat → Tag} {N bm base : Nat} {M : Nm} {P : Nat → Pg} {n : Nat} {D : DataW Unit} (h : PNL w g N bm base M P n D) (hM : Mok M) {c : Cn} (hc : c ∈ M.cs)
    (hs : ClosC w w' N bm (M.last : Nat) n D (c.id : Int) (P c.id).C c.p c.q c.c (P c.id).A (P c.id).K c.L 1) : PEnd w w' g N bm base (M.set (c.shut 1)).keep := by
  obtain ⟨D', hnt, hcon, hk, hfo⟩ := hs
  have hp := h.con c hc
  have hy : Ty w w' g g (fun t => t = (1, c.id) ∨ t = (3, 0)) := by
    refine ⟨⟨hk.os, hk.tape, hk.output, hk.size, fun k hk' hn => hk.block k hk' ?_⟩, fun k _ => rfl⟩
    rintro (e | e)
    · exact hn (.inl (by rw [e]; exact hp.tC))
    · exact hn (.inr (by rw [e]; exact h.tM))
  have q : ∀ i, i = 0 ∨ i = 1 → Cmg w base ((P c.id).A i) ((P c.id).K i) (c.L i) → Cmg w' base ((P c.id).A i) ((P c.id).K i) (c.L i) := fun i _ hi => hi.kp hk (fun b hb => by
    rintro (e | e)
    · exact hp.con.neB hi (by rw [hb, e])
    · exact (h.nt.neB hi).2 (by rw [hb, e]))
  have hrc : PCon w' g base (P c.id) (c.shut 1) := ⟨hcon, q 0 (.inl rfl) hp.c0, q 1 (.inr rfl) hp.c1, hp.tC, hp.g0, hp.g1, hp.ne⟩
  exact ⟨g, _, ⟨n, D', h.turn hM hc (c' := c.shut 1) rfl rfl hnt hfo hy hrc⟩, hy.mono (fun t ht => by rcases ht with rfl | rfl; exact sp1 _; exact sp3)⟩
#print axioms psent_0
#print axioms pcarr_1
#print axioms pclos_1
end Go.Proofs.Ytohlmfiicfoimaa
