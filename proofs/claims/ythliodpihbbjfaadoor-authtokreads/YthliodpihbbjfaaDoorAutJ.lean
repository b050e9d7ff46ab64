/-
  authtok: what is signed can be read, and the other way round.
-/
import Derived.Test.YthliodpihbbjfaaDoorAutY
import Derived.Test.YthliodpihbbjfaaDoorAutK
import Derived.Test.YthliodpihbbjfaaDoorRefV
import Derived.Test.YthliodpihbbjfaaDoorRefC
set_option linter.unusedVariables false
set_option maxRecDepth 1000000
namespace Go.Proofs.YthliodpihbbjfaaDoor
open Go.RowKit

theorem cut_cons (b : UInt8) (l : List UInt8) (h : b ≠ 46) : cutP (b :: l) = b :: cutP l := by
  unfold cutP
  rw [List.takeWhile_cons]
  simp [h]
theorem cut_nil (l : List UInt8) : cutP (46 :: l) = [] := by
  unfold cutP
  simp
theorem cut_before : ∀ (s : List UInt8) (i : Nat), i < (cutP s).length → s.getD i 0 ≠ 46
  | [], i, h => by simp [cutP] at h
  | b :: l, i, h => by
    by_cases hb : b = 46
    · subst hb; rw [cut_nil] at h; simp at h
    · rw [cut_cons b l hb] at h
      cases i with
      | zero => simpa using hb
      | succ j => simpa using cut_before l j (by simpa using h)
theorem cut_at : ∀ (s : List UInt8), (cutP s).length < s.length → s.getD (cutP s).length 0 = 46
  | [], h => by simp [cutP] at h
  | b :: l, h => by
    by_cases hb : b = 46
    · subst hb; rw [cut_nil]; simp
    · rw [cut_cons b l hb] at h ⊢
      simpa using cut_at l (by simpa using h)
theorem cut_le (s : List UInt8) : (cutP s).length ≤ s.length := by unfold cutP; exact (List.takeWhile_sublist _).length_le
theorem cut_take (s : List UInt8) : s.take (cutP s).length = cutP s := by
  rcases idx_cut s with ⟨_, _, _, h⟩ | ⟨_, h, _⟩
  · exact h.symm
  · rw [h]; simp
theorem sg_found {L : List Sec} {id : Int} {x : Cl} {s : List UInt8} (hL : ckOk L = true) (hx : clOk x = 0) {j : Nat} {k : Sec} (hk : L[j]? = some k) (hid : k.1 = id) (ht : tok k x = s) : sgn L id x s = true := by
  have hc : ckFrom 0 L = true := by simp only [ckOk, Bool.and_eq_true] at hL; exact hL.2
  unfold sgn
  rw [← hid, ck_find L 0 j k hc hk]
  unfold mkT
  simp [ckOk_take hL j, hx, last_take L j k hk, ht]
theorem sg_true {L : List Sec} {id : Int} {x : Cl} {s : List UInt8} (h : sgn L id x s = true) : ∃ (j : Nat) (k : Sec), L[j]? = some k ∧ k.1 = id ∧ clOk x = 0 ∧ tok k x = s := by
  unfold sgn at h
  split at h
  · cases h
  · rename_i i hi
    rw [Bool.and_eq_true, decide_eq_true_eq, decide_eq_true_eq] at h
    have hm : mkT (L.take (i + 1)) x = (0, s) := Prod.ext h.1 h.2
    obtain ⟨hil, hidx⟩ := List.findIdx?_eq_some_iff_findIdx_eq.1 hi
    obtain ⟨k, hk⟩ : ∃ k, L[i]? = some k := ⟨_, List.getElem?_eq_getElem hil⟩
    have hid : k.1 = id := by
      have := List.findIdx?_eq_some_iff_getElem.1 hi
      obtain ⟨h1, h2, _⟩ := this
      have e : L[i] = k := Option.some.inj ((List.getElem?_eq_getElem h1).symm.trans hk)
      rw [e] at h2
      simpa using h2
    refine ⟨i, k, hk, hid, (mk_ok hm).2.1, ?_⟩
    rw [(mk_ok hm).2.2, last_take L i k hk]
theorem pay_reads (id : Int) (x : Cl) (h0 : 0 ≤ id) (h1 : id ≤ 1099511627776) (hx : clOk x = 0) (N1 S1 E1 E2 S2 E3 S3 N4 S4 E4 : Nat) (t2 t3 : List UInt8) (e1 : (N1, S1, E1) = rd ((pay id x).drop 0)) (e2 : (t2, E2, S2) = tx ((pay id x).drop (0 + S1)) 24) (e3 : (t3, E3, S3) = tx ((pay id x).drop (0 + S1 + S2)) 24) (e4 : (N4, S4, E4) = rd ((pay id x).drop (0 + S1 + S2 + S3))) : E1 = 0 ∧ E2 = 0 ∧ E3 = 0 ∧ E4 = 0 := by
  have hn := cl_names hx
  rw [List.drop_zero] at e1
  rw [Nat.zero_add] at e2 e3 e4
  rw [← List.drop_drop] at e3
  rw [← List.drop_drop, ← List.drop_drop] at e4
  have e0 : pay id x = form id.toNat ++ (form x.c.length ++ (x.c ++ (form x.g.length ++ (x.g ++ form x.u.toNat)))) := by simp [pay]
  have r1 : rd (pay id x) = (id.toNat, (form id.toNat).length, 0) := by rw [e0]; exact rd_form _ (by omega) _
  rw [r1] at e1
  obtain ⟨rfl, rfl, rfl⟩ : N1 = id.toNat ∧ S1 = (form id.toNat).length ∧ E1 = 0 := by simpa using e1
  have d1 : (pay id x).drop (form id.toNat).length = form x.c.length ++ (x.c ++ (form x.g.length ++ (x.g ++ form x.u.toNat))) := by rw [e0]; simp
  rw [d1] at e2 e3 e4
  rw [tx_name x.c (form x.g.length ++ (x.g ++ form x.u.toNat)) hn.1] at e2
  obtain ⟨rfl, rfl, rfl⟩ : t2 = x.c ∧ E2 = 0 ∧ S2 = (form x.c.length).length + x.c.length := by simpa using e2
  have d2 : (form x.c.length ++ (x.c ++ (form x.g.length ++ (x.g ++ form x.u.toNat)))).drop ((form x.c.length).length + x.c.length) = form x.g.length ++ (x.g ++ form x.u.toNat) := by
    rw [← List.append_assoc, ← List.length_append, List.drop_left]
  rw [d2] at e3 e4
  rw [tx_name x.g (form x.u.toNat) hn.2.1] at e3
  obtain ⟨rfl, rfl, rfl⟩ : t3 = x.g ∧ E3 = 0 ∧ S3 = (form x.g.length).length + x.g.length := by simpa using e3
  have d3 : (form x.g.length ++ (x.g ++ form x.u.toNat)).drop ((form x.g.length).length + x.g.length) = form x.u.toNat := by
    rw [← List.append_assoc, ← List.length_append, List.drop_left]
  rw [d3] at e4
  have r4 : rd (form x.u.toNat) = (x.u.toNat, (form x.u.toNat).length, 0) := by
    have := rd_form x.u.toNat (by omega) []
    simpa using this
  rw [r4] at e4
  exact ⟨rfl, rfl, rfl, (by simpa using e4 : _ ∧ _ ∧ E4 = 0).2.2⟩
/-- What is signed can be read. -/
theorem sg_reads {L : List Sec} {s : List UInt8} (hL : ckOk L = true) (h : sgn L (say s).1 (say s).2 s = true) : ∃ (id : Int) (x : Cl), unR (cutP s) 0 0 = some (pay id x) ∧ 0 ≤ id ∧ id ≤ 1099511627776 ∧ clOk x = 0 ∧ (say s).2 = x := by
  obtain ⟨j, k, hk, hid, hx, ht⟩ := sg_true h
  have hm := ckOk_mem hL k (List.mem_of_getElem? hk)
  refine ⟨k.1, (say s).2, ?_, hm.1, hm.2.1, hx, rfl⟩
  have e : cutP s = spR (pay k.1 (say s).2) 0 0 := by
    have := cutP_tok k (say s).2
    rw [ht] at this
    exact this
  rw [e, un_sp]

#print axioms sg_reads
end Go.Proofs.YthliodpihbbjfaaDoor
