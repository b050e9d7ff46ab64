/-
  disk: two pieces, or one (the plain model).
-/
import Derived.Test.YtkgplikcafobmaaDnU
set_option linter.unusedVariables false
namespace Go.Proofs.Ytkgplikcafobmaa
open Go.RowKit Go.Maps

theorem over_end (l b : List UInt8) : over l l.length b = l ++ b := by simp [over]
theorem room_iff {M : Md} (h : Acc M) (hs : M.seenN < 4096) (n : Nm) (k : Nat) (hk : k ≤ 65536) :
    M.room? n k = true ↔ M.used - M.peaks n + (if M.peaks n < ((fget M.seen n).length + k : Nat) then (((fget M.seen n).length + k : Nat) : Int) else M.peaks n) ≤ M.room := by
  have h2 := h.q.pu n
  have h3 := h.q.u0
  have h4 := h.q.ur
  have h5 := h.q.rm
  have hp := h.q.p0 n
  have hs' := h.q.s n
  unfold Md.room?
  rw [if_neg (by simp; omega), decide_eq_true_eq, IntWalk.wrap64_in (M.used - M.peaks n) (by omega), IntWalk.wrap64_in _ (by split <;> omega)]
theorem write_ok {M : Md} {n : Nm} {k : Nat} : M.writeE n k = 0 ↔ isName n = true ∧ M.room? n k = true := by
  unfold Md.writeE
  by_cases h1 : isName n = true
  · rw [if_pos h1]
    by_cases h2 : M.room? n k = true
    · rw [if_pos h2]; simp [h1, h2]
    · rw [if_neg h2]; simp [h2]
  · rw [if_neg h1]; simp [h1]
theorem write_does {M : Md} (h : Acc M) (hs : M.seenN < 4096) {n : Nm} {b : List UInt8} (hb : b.length ≤ 65536) (hw : M.writeE n b.length = 0) :
    (M.write n b).seen = upd M.seen n (some (fget M.seen n ++ b)) ∧ (M.write n b).peaks n = (if M.peaks n < ((fget M.seen n).length + b.length : Nat) then (((fget M.seen n).length + b.length : Nat) : Int) else M.peaks n) ∧ (M.write n b).used = M.used - M.peaks n + (if M.peaks n < ((fget M.seen n).length + b.length : Nat) then (((fget M.seen n).length + b.length : Nat) : Int) else M.peaks n) ∧ (M.write n b).room = M.room ∧ (M.write n b).seenN ≤ M.seenN + 1 := by
  have hr := (room_iff h hs n b.length hb).1 (write_ok.1 hw).2
  have e0 : doF M.seen ⟨0, n, (fget M.seen n).length, b⟩ = upd M.seen n (some (fget M.seen n ++ b)) := by
    show upd M.seen n (some (over (fget M.seen n) (fget M.seen n).length b)) = _
    rw [over_end]
  have e1 : (fget (doF M.seen ⟨0, n, (fget M.seen n).length, b⟩) n).length = (fget M.seen n).length + b.length := by
    rw [e0]; unfold fget; rw [upd_same]; simp
  unfold Md.write
  rw [if_pos hw]
  have pf := (h.perform (a := ⟨0, n, (fget M.seen n).length, b⟩) (z := if M.peaks n < ((fget M.seen n).length + b.length : Nat) then (((fget M.seen n).length + b.length : Nat) : Int) else M.peaks n) (by show _ = if M.peaks n < ((fget (doF M.seen ⟨0, n, (fget M.seen n).length, b⟩) n).length : Int) then _ else _; rw [e1]) (fun _ => by show _ = (fget (doF M.seen ⟨0, n, (fget M.seen n).length, b⟩) n).length; rw [e1]) hr).2
  refine ⟨e0, ?_, pf, rfl, ?_⟩
  · show upd M.peaks n (if M.peaks n < ((fget (doF M.seen ⟨0, n, (fget M.seen n).length, b⟩) n).length : Int) then ((fget (doF M.seen ⟨0, n, (fget M.seen n).length, b⟩) n).length : Int) else M.peaks n) n = _
    rw [upd_same, e1]
  · show doN M.seen M.seenN ⟨0, n, (fget M.seen n).length, b⟩ ≤ _
    unfold doN
    rw [if_pos rfl]
    split <;> omega
/-- What is written in two pieces is seen as what is written at once. -/
theorem pieces {M : Md} (h : Acc M) (hs : M.seenN < 4000) (n : Nm) (a b : List UInt8) (hab : a.length + b.length ≤ 32768) :
    (M.writeE n (a ++ b).length = 0 ↔ M.writeE n a.length = 0 ∧ (M.write n a).writeE n b.length = 0) ∧
    (M.writeE n (a ++ b).length = 0 → (M.write n (a ++ b)).seen = ((M.write n a).write n b).seen ∧ (M.write n (a ++ b)).used = ((M.write n a).write n b).used) := by
  have h2 := h.q.pu n
  have hp := h.q.p0 n
  have hl : (a ++ b).length = a.length + b.length := List.length_append
  have hA := h.write n a (by omega)
  have one : M.writeE n (a ++ b).length = 0 → M.writeE n a.length = 0 := by
    intro hg
    obtain ⟨g1, g2⟩ := write_ok.1 hg
    refine write_ok.2 ⟨g1, ?_⟩
    rw [room_iff h (by omega) n _ (by omega)] at g2 ⊢
    rw [hl] at g2
    split at g2 <;> split <;> omega
  have two : M.writeE n a.length = 0 → ((M.write n a).writeE n b.length = 0 ↔ M.writeE n (a ++ b).length = 0) := by
    intro he
    obtain ⟨s1, s2, s3, s4, s5⟩ := write_does h (by omega) (b := a) (by omega) he
    have e1 : (fget (M.write n a).seen n).length = (fget M.seen n).length + a.length := by
      rw [s1]; unfold fget; rw [upd_same]; simp
    have g1 := (write_ok.1 he).1
    rw [write_ok, write_ok, room_iff hA (by omega) n _ (by omega), room_iff h (by omega) n _ (by omega), s2, s3, s4, e1, hl]
    constructor
    · rintro ⟨_, x⟩
      refine ⟨g1, ?_⟩
      split at x <;> split at x <;> split <;> omega
    · rintro ⟨_, x⟩
      refine ⟨g1, ?_⟩
      split at x <;> split <;> split <;> omega
  refine ⟨⟨fun hg => ⟨one hg, (two (one hg)).2 hg⟩, fun ⟨x, y⟩ => (two x).1 y⟩, fun hg => ?_⟩
  have he := one hg
  have hf := (two he).2 hg
  obtain ⟨s1, s2, s3, s4, s5⟩ := write_does h (by omega) (b := a) (by omega) he
  obtain ⟨t1, t2, t3, t4, t5⟩ := write_does hA (by omega) (b := b) (by omega) hf
  obtain ⟨r1, r2, r3, r4, r5⟩ := write_does h (by omega) (b := a ++ b) (by omega) hg
  have e1 : fget (M.write n a).seen n = fget M.seen n ++ a := by
    rw [s1]; unfold fget; rw [upd_same]; rfl
  constructor
  · rw [r1, t1, e1, s1]
    funext m
    by_cases hm : m = n
    · subst hm; rw [upd_same, upd_same, List.append_assoc]
    · rw [upd_other _ _ _ _ hm, upd_other _ _ _ _ hm, upd_other _ _ _ _ hm]
  · rw [r3, t3, e1, s2, s3, hl, List.length_append]
    split <;> split <;> split <;> omega
#print axioms pieces
end Go.Proofs.Ytkgplikcafobmaa
