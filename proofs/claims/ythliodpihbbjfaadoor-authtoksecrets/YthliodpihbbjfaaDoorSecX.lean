/-
  THE WALK of AuthtokSecrets.
-/
import Derived.Test.YthliodpihbbjfaaDoorAutDel
import Derived.Test.YthliodpihbbjfaaDoorAutK
set_option linter.unusedVariables false
set_option maxRecDepth 1000000
namespace Go.Proofs.YthliodpihbbjfaaDoor
open Go.RowKit

theorem ck_all : ∀ (L : List Sec) (m : Int), ckFrom m L = true → ∀ s ∈ L, m ≤ s.1 ∧ s.1 ≤ 1099511627776 ∧ 16 ≤ s.2.length ∧ s.2.length ≤ 64
  | [], _, _, s, h => by cases h
  | t :: r, m, h, s, hs => by
    simp only [ckFrom, Bool.and_eq_true, decide_eq_true_eq] at h
    rcases List.mem_cons.1 hs with rfl | hs
    · exact ⟨h.1.1.1.1, h.1.1.1.2, h.1.1.2, h.1.2⟩
    · have := ck_all r _ h.2 s hs
      exact ⟨by omega, this.2⟩
theorem ck_low : ∀ (L : List Sec) (m m' : Int), m' ≤ m → ckFrom m L = true → ckFrom m' L = true
  | [], _, _, _, _ => rfl
  | t :: r, m, m', hm, h => by
    simp only [ckFrom, Bool.and_eq_true, decide_eq_true_eq] at h ⊢
    exact ⟨⟨⟨⟨by omega, h.1.1.1.2⟩, h.1.1.2⟩, h.1.2⟩, h.2⟩
theorem ck_erase : ∀ (L : List Sec) (m : Int) (i : Nat), ckFrom m L = true → ckFrom m (L.eraseIdx i) = true
  | [], _, i, _ => by simp [ckFrom]
  | t :: r, m, 0, h => by
    simp only [ckFrom, Bool.and_eq_true, decide_eq_true_eq] at h
    simp only [List.eraseIdx_cons_zero]
    exact ck_low r _ _ (by omega) h.2
  | t :: r, m, i + 1, h => by
    simp only [List.eraseIdx_cons_succ, ckFrom, Bool.and_eq_true, decide_eq_true_eq] at h ⊢
    exact ⟨h.1, ck_erase r _ i h.2⟩
theorem ck_gone : ∀ (L : List Sec) (m : Int) (i : Nat) (s : Sec), ckFrom m L = true → L[i]? = some s → ∀ k ∈ L.eraseIdx i, k.1 ≠ s.1
  | [], _, i, s, _, h, _, _ => by simp at h
  | t :: r, m, 0, s, hc, h, k, hk => by
    simp at h
    subst h
    simp only [ckFrom, Bool.and_eq_true, decide_eq_true_eq] at hc
    simp only [List.eraseIdx_cons_zero] at hk
    have := ck_all r _ hc.2 k hk
    omega
  | t :: r, m, i + 1, s, hc, h, k, hk => by
    simp only [ckFrom, Bool.and_eq_true, decide_eq_true_eq] at hc
    have hs : r[i]? = some s := by simpa using h
    simp only [List.eraseIdx_cons_succ] at hk
    rcases List.mem_cons.1 hk with rfl | hk
    · have := ck_all r _ hc.2 s (List.mem_of_getElem? hs)
      omega
    · exact ck_gone r _ i s hc.2 hs k hk
theorem ok_one {L : List Sec} {i : Nat} {s : Sec} (h : ckOk L = true) (hs : L[i]? = some s) : ckOk [s] = true := by
  simp only [ckOk, Bool.and_eq_true, decide_eq_true_eq] at h
  have := ck_all L 0 h.2 s (List.mem_of_getElem? hs)
  simp [ckOk, ckFrom, this]
theorem ok_rest {L : List Sec} {i : Nat} (h : ckOk L = true) (h2 : 2 ≤ L.length) (hi : i < L.length) : ckOk (L.eraseIdx i) = true := by
  simp only [ckOk, Bool.and_eq_true, decide_eq_true_eq] at h ⊢
  have hl := List.length_eraseIdx_of_lt hi
  refine ⟨⟨?_, by omega⟩, ck_erase L 0 i h.2⟩
  intro e
  rw [e] at hl
  simp at hl
  omega
theorem rd_gone {L : List Sec} {i : Nat} {s : Sec} (x : Cl) (now : Int) (h : ckOk L = true) (h2 : 2 ≤ L.length) (hs : L[i]? = some s) (hx : clOk x = 0) : rdT (L.eraseIdx i) now (tok s x) = (100, Cl.zero) := by
  have hi := (List.getElem?_eq_some_iff.1 hs).1
  have hm := ckOk_mem h s (List.mem_of_getElem? hs)
  have hc : ckFrom 0 L = true := by simp only [ckOk, Bool.and_eq_true] at h; exact h.2
  unfold rdT
  rw [if_neg (by rw [ok_rest h h2 hi]; simp), say_tok s x hm.1 hm.2.1 hx]
  have hf : (L.eraseIdx i).findIdx? (fun k => k.1 == s.1) = none := by
    rw [List.findIdx?_eq_none_iff]
    intro k hk
    simp [ck_gone L 0 i s hc hs k hk]
  have hg : sgn (L.eraseIdx i) s.1 x (tok s x) = false := by
    unfold sgn
    rw [hf]
  rw [if_pos hg]

theorem SecR.one {w : World} {b off : Nat} {L : List Sec} (h : SecR w (some ⟨b, off, none⟩) L) {i : Nat} {s : Sec} (hs : L[i]? = some s) : SecR w (some ⟨b, off + i * 2, none⟩) [s] := by
  refine ⟨fun _ => ⟨b, off + i * 2, rfl, fun j t ht => ?_⟩, fun t ht => ?_⟩
  · have hj : j = 0 := by
      have := (List.getElem?_eq_some_iff.1 ht).1
      simp at this
      exact this
    subst hj
    simp at ht
    subst ht
    obtain ⟨b', off', x, c, e, h1, h2, h3, _⟩ := h.at hs
    obtain ⟨rfl, rfl⟩ : b = b' ∧ off = off' := by simpa using e
    exact ⟨x, c, by simpa using h1, by simpa using h2, h3⟩
  · simp at ht
    subst ht
    exact h.int _ (List.mem_of_getElem? hs)
theorem secR_of_ses {w : World} {g : Nat} {l : List Se} (hc : ∀ j u, (ses l)[j]? = some u → w.cell? ⟨g, j, none⟩ = some u) (hb : ∀ t ∈ l, Bs w t.2.1 t.2.2 t.1.2) (hi : ∀ t ∈ l, -9223372036854775808 ≤ t.1.1 ∧ t.1.1 ≤ 9223372036854775807) : SecR w (some ⟨g, 0, none⟩) (l.map (·.1)) := by
  refine ⟨fun _ => ⟨g, 0, rfl, fun i s hs => ?_⟩, fun s hs => ?_⟩
  · rw [List.getElem?_map] at hs
    obtain ⟨t, ht, rfl⟩ := Option.map_eq_some_iff.1 hs
    have k0 := ses_get l i 0 t ht (by omega)
    have k1 := ses_get l i 1 t ht (by omega)
    refine ⟨t.2.1, t.2.2, ?_, ?_, hb t (List.mem_of_getElem? ht)⟩
    · rw [Nat.zero_add]; exact hc _ _ (by rw [Nat.add_zero] at k0; rw [k0]; rfl)
    · rw [Nat.zero_add]; exact hc _ _ (by rw [k1]; rfl)
  · obtain ⟨t, ht, rfl⟩ := List.mem_map.1 hs
    exact hi t ht
theorem cutS_at (b off N cap E H : Nat) (h1 : E ≤ H) (h2 : H ≤ cap) (h3 : ¬ cap = E) (w : World) : (Instr.slice 22 (.slice (some ⟨b, off, none⟩) N cap) (some (.int .i64 (E : Int))) (some (.int .i64 (H : Int))) none).run Tryd.prog w = .ok (.slice (some ⟨b, off + E * 2, none⟩) (H - E) (cap - E)) w := by
  rw [run_slice_lh (P := Tryd.prog) w 22 _ N cap Tryd.elemS .i64 .i64 (E : Int) (H : Int) (by omega) (by omega) (by omega), Tryd.sizeS]
  simp only [Result.andThen, sliced, Int.toNat_natCast, if_neg h3, Option.map_some, addr_add]
theorem tmod_natc (m n : Nat) : (m : Int).tmod (n : Int) = ((m % n : Nat) : Int) := rfl
#print axioms rd_gone
end Go.Proofs.YthliodpihbbjfaaDoor
