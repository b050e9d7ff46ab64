/-
  link, the program's net whole: its connections, tags; Send, Carry, Close, Cut, Dial by the model.
-/
import Derived.Test.YtohlmfiicfoimaaLtM
import Derived.Test.YtohlmfiicfoimaaLnqA
set_option linter.unusedVariables false
namespace Go.Proofs.Ytohlmfiicfoimaa
open Go.RowKit Go.Maps

/-- Where a connection of the program's net lies. -/
structure Pg where
  C : Nat
  A : Nat → Option Addr
  K : Nat → Nat
structure PCon (w : World) (g : Nat → Tag) (base : Nat) (r : Pg) (c : Cn) : Prop where
  con : Con w r.C c.p c.q c.c r.A r.K c.L
  c0 : Cmg w base (r.A 0) (r.K 0) (c.L 0)
  c1 : Cmg w base (r.A 1) (r.K 1) (c.L 1)
  tC : g r.C = (1, c.id)
  g0 : ∀ b, blk (r.A 0) = some b → g b = (1, c.id)
  g1 : ∀ b, blk (r.A 1) = some b → g b = (1, c.id)
  ne : ∀ b, blk (r.A 0) = some b → blk (r.A 1) ≠ some b
theorem PCon.ty {w w' : World} {g g' : Nat → Tag} {base : Nat} {r : Pg} {c : Cn} {S : Tag → Prop} (h : PCon w g base r c) (hy : Ty w w' g g' S) (hs : ¬ S (1, c.id)) : PCon w' g' base r c := by
  refine ⟨h.con.move (hy.kp.block r.C h.con.lt (by rw [h.tC]; exact hs)), h.c0.kp hy.kp (fun b hb => by rw [h.g0 b hb]; exact hs), h.c1.kp hy.kp (fun b hb => by rw [h.g1 b hb]; exact hs), ?_, fun b hb => ?_, fun b hb => ?_, h.ne⟩
  · rw [hy.tag _ (.inl h.con.lt)]; exact h.tC
  · rw [hy.tag _ (.inl (h.c0.lt b hb).2)]; exact h.g0 b hb
  · rw [hy.tag _ (.inl (h.c1.lt b hb).2)]; exact h.g1 b hb
structure PNL (w : World) (g : Nat → Tag) (N bm base : Nat) (M : Nm) (P : Nat → Pg) (n : Nat) (D : DataW Unit) : Prop where
  nt : NT w N bm (M.last : Nat) n D
  hn : n ≤ M.last
  at_ : ∀ c ∈ M.cs, AtC D c.id (P c.id).C
  off : ∀ id : Int, M.get id = none → OffC D id
  tN : g N = (3, 0)
  tM : g bm = (3, 0)
  con : ∀ c ∈ M.cs, PCon w g base (P c.id) c
def PN (w : World) (g : Nat → Tag) (N bm base : Nat) (M : Nm) (P : Nat → Pg) : Prop := ∃ n D, PNL w g N bm base M P n D
theorem PNL.ty {w w' : World} {g g' : Nat → Tag} {N bm base : Nat} {M : Nm} {P : Nat → Pg} {n : Nat} {D : DataW Unit} {S : Tag → Prop} (h : PNL w g N bm base M P n D) (hy : Ty w w' g g' S) (h3 : ¬ S (3, 0)) (h1 : ∀ i, ¬ S (1, i)) : PNL w' g' N bm base M P n D := by
  refine ⟨h.nt.kp hy.kp (by show ¬ S (g N); rw [h.tN]; exact h3) (by show ¬ S (g bm); rw [h.tM]; exact h3), h.hn, h.at_, h.off, ?_, ?_, fun c hc => (h.con c hc).ty hy (h1 _)⟩
  · rw [hy.tag _ (.inl h.nt.ltN)]; exact h.tN
  · rw [hy.tag _ (.inl h.nt.own.lt)]; exact h.tM
theorem PNL.below {w w' : World} {g : Nat → Tag} {N bm base : Nat} {M : Nm} {P : Nat → Pg} {n : Nat} {D : DataW Unit} (h : PNL w g N bm base M P n D) (hb : Below w.heap.size w w') : PNL w' g N bm base M P n D := h.ty (Ty.of g (S := fun _ => False) hb) id (fun _ => id)
theorem PN.ty {w w' : World} {g g' : Nat → Tag} {N bm base : Nat} {M : Nm} {P : Nat → Pg} {S : Tag → Prop} (h : PN w g N bm base M P) (hy : Ty w w' g g' S) (h3 : ¬ S (3, 0)) (h1 : ∀ i, ¬ S (1, i)) : PN w' g' N bm base M P := by
  obtain ⟨n, D, h⟩ := h
  exact ⟨n, D, h.ty hy h3 h1⟩
def Sp (t : Tag) : Prop := t.1 = 1 ∨ t.1 = 3
theorem sp1 (i : Nat) : Sp (1, i) := .inl rfl
theorem sp3 : Sp (3, 0) := .inr rfl
def PEnd (w w' : World) (g : Nat → Tag) (N bm base : Nat) (M' : Nm) : Prop := ∃ g' P', PN w' g' N bm base M' P' ∧ Ty w w' g g' Sp
theorem PEnd.same {w w' : World} {g : Nat → Tag} {N bm base : Nat} {M : Nm} {P : Nat → Pg} {n : Nat} {D : DataW Unit} (h : PNL w g N bm base M P n D) (hb : Below w.heap.size w w') : PEnd w w' g N bm base M :=
  ⟨g, P, ⟨n, D, h.below hb⟩, Ty.of g hb⟩
theorem Mok.get {M : Nm} (h : Mok M) {c : Cn} (hc : c ∈ M.cs) {id : Int} (hi : (c.id : Int) = id) : M.get id = some c := by
  cases hg : M.get id with
  | none => exact absurd hi (Nm.get_none hg c hc)
  | some d =>
    obtain ⟨hd, hdi⟩ := Nm.get_some hg
    rw [h.inj hd hc (by omega)]
theorem nm_get_of {M : Nm} {c : Cn} (hc : c ∈ M.cs) {id : Int} (hi : (c.id : Int) = id) : M.get id ≠ none := fun hg => Nm.get_none hg c hc hi
theorem live_iff (c : Cn) : c.live = true ↔ ¬ (c.c 0 = true ∧ c.L 0 = [] ∧ c.c 1 = true ∧ c.L 1 = []) := by
  unfold Cn.live
  cases c.c 0 <;> cases c.c 1 <;> by_cases h0 : c.L 0 = [] <;> by_cases h1 : c.L 1 = [] <;> simp [h0, h1]
theorem mem_keep {M : Nm} (hM : Mok M) {c' c : Cn} (hc : c ∈ M.cs) (hi : c'.id = c.id) (d : Cn) : d ∈ (M.set c').keep.cs ↔ (d = c' ∧ c'.live = true) ∨ (d ∈ M.cs ∧ d.id ≠ c'.id) := by
  constructor
  · intro h
    obtain ⟨h1, h2⟩ := List.mem_filter.1 h
    rcases Nm.mem_set h1 with ⟨rfl, _⟩ | h3
    · exact .inl ⟨rfl, h2⟩
    · exact .inr h3
  · rintro (⟨rfl, hl⟩ | ⟨hd, hne⟩)
    · exact List.mem_filter.2 ⟨List.mem_map.2 ⟨c, hc, by rw [if_pos hi.symm]⟩, hl⟩
    · exact List.mem_filter.2 ⟨List.mem_map.2 ⟨d, hd, by rw [if_neg hne]⟩, hM.live d hd⟩
theorem key_ne {i j : Int} (h : i ≠ j) : (Lit.int .i64 i) ≠ Lit.int .i64 j := fun e => h (by simpa using e)

/-- One connection is another one, and goes if it is over. -/
theorem PNL.turn {w w' : World} {g g' : Nat → Tag} {N bm base : Nat} {M : Nm} {P : Nat → Pg} {n : Nat} {D D' : DataW Unit} (h : PNL w g N bm base M P n D) (hM : Mok M) {c c' : Cn} {r' : Pg} (hc : c ∈ M.cs) (hi : c'.id = c.id) (hC : r'.C = (P c'.id).C) (hnt : NT w' N bm (M.last : Nat) n D')
    (hf : Forg D D' (c'.id : Int) c'.c c'.L) (hy : Ty w w' g g' (fun t => t = (1, c'.id) ∨ t = (3, 0))) (hr : PCon w' g' base r' c') : PNL w' g' N bm base (M.set c').keep (upd P c'.id r') n D' := by
  have hmem := mem_keep hM hc hi
  refine ⟨hnt, h.hn, fun d hd => ?_, fun id hid => ?_, ?_, ?_, fun d hd => ?_⟩
  · rcases (hmem d).1 hd with ⟨rfl, hl⟩ | ⟨hd, hne⟩
    · rcases hf with ⟨rfl, _⟩ | ⟨_, h1⟩
      · rw [upd_same, hC, hi]; exact h.at_ c hc
      · exact absurd h1 ((live_iff _).1 hl)
    · rw [upd_other _ _ _ hne]
      have ha := h.at_ d hd
      have hk := key_ne (i := (d.id : Int)) (j := (c'.id : Int)) (by omega)
      rcases hf with ⟨rfl, _⟩ | ⟨rfl, _⟩
      · exact ha
      · exact ⟨(atKey_del_other hk _).trans ha.1, (has_del_other hk).trans ha.2⟩
  · by_cases he : id = (c'.id : Int)
    · subst he
      rcases hf with ⟨rfl, h1⟩ | ⟨rfl, _⟩
      · exact absurd hid (nm_get_of ((hmem c').2 (.inl ⟨rfl, (live_iff _).2 h1⟩)) rfl)
      · exact has_del_same
    · have h0 : M.get id = none := by
        cases hg : M.get id with
        | none => rfl
        | some d =>
          obtain ⟨hd, hdi⟩ := Nm.get_some hg
          exact absurd hid (nm_get_of ((hmem d).2 (.inr ⟨hd, by omega⟩)) hdi)
      have h2 := h.off id h0
      rcases hf with ⟨rfl, _⟩ | ⟨rfl, _⟩
      · exact h2
      · exact (has_del_other (key_ne he)).trans h2
  · rw [hy.tag _ (.inl h.nt.ltN)]; exact h.tN
  · rw [hy.tag _ (.inl h.nt.own.lt)]; exact h.tM
  · rcases (hmem d).1 hd with ⟨rfl, hl⟩ | ⟨hd, hne⟩
    · rw [upd_same]; exact hr
    · rw [upd_other _ _ _ hne]
      exact (h.con d hd).ty hy (by simp; exact hne)
theorem keep_live {M : Nm} (h : ∀ c ∈ M.cs, c.live = true) : M.keep = M := by
  unfold Nm.keep
  rw [List.filter_eq_self.2 h]
theorem wf_id {M : Nm} (hM : Mok M) {c : Cn} (hc : c ∈ M.cs) : (Lit.int .i64 (c.id : Int)).wf = true := wf_i64 _ (by omega) (by have := hM.top c hc; have := hM.lim; omega)
#print axioms PNL.turn
end Go.Proofs.Ytohlmfiicfoimaa
